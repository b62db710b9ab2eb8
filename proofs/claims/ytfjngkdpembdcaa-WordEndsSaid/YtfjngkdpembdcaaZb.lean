/-
  The specification's Order.
-/
import Derived.Test.YtfjngkdpembdcaaHn
namespace Go.Proofs.Ytfjngkdpembdcaa
open Go.RowKit Go.Sort
set_option maxHeartbeats 1000000 in
theorem rbefore_any (x1 x2 y1 y2 : BitVec 32) (w : World) : Gives 45 #[sn x1.toNat x2.toNat, sn y1.toNat y2.toNat] w (.bool (decide (ordS (x1, x2) (y1, y2) = -1))) := by
  unfold Gives
  have ho : ordS (x1, x2) (y1, y2) = if cmpN x1.toNat y1.toNat = 0 then cmpN x2.toNat y2.toNat else cmpN x1.toNat y1.toNat := rfl
  generalize ordS (x1, x2) (y1, y2) = o at *
  generalize x1.toNat = a at *
  generalize x2.toNat = b at *
  generalize y1.toNat = c at *
  generalize y2.toNat = d at *
  by_cases h1 : a < c
  · have e : cmpN a c = -1 := by simp [cmpN, h1]
    rw [e, if_neg (by decide)] at ho
    subst ho
    go_enter Try.func45, Try.ntmps45
    go_wp2
    go_returns
    exact ⟨ret_bool (by first | rfl | (simp; done)), by go_grown⟩
  · by_cases h2 : a = c
    · subst h2
      have e : cmpN a a = 0 := by simp [cmpN]
      rw [e, if_pos rfl] at ho
      by_cases h3 : b < d
      · have e : cmpN b d = -1 := by simp [cmpN, h3]
        rw [e] at ho
        subst ho
        clear h1
        go_enter Try.func45, Try.ntmps45
        go_wp2
        go_returns
        exact ⟨ret_bool (by first | rfl | (simp; done)), by go_grown⟩
      · have e : decide (o = -1) = false := by
          rw [ho]; unfold cmpN; rw [if_neg h3]; split <;> rfl
        rw [e]
        clear e ho h1
        go_enter Try.func45, Try.ntmps45
        go_wp2
        go_returns
        exact ⟨ret_bool (by first | rfl | (simp; done)), by go_grown⟩
    · have e : decide (o = -1) = false := by
        have e1 : cmpN a c = 1 := by unfold cmpN; rw [if_neg h1, if_pos (by omega)]
        rw [ho, e1]; rfl
      rw [e]
      have h4 : ((a : Int) == (c : Int)) = false := by rw [Bool.eq_false_iff]; intro e; exact h2 (by have := beq_iff_eq.1 e; omega)
      clear e ho h2
      go_enter Try.func45, Try.ntmps45
      go_wp2
      go_returns
      exact ⟨ret_bool (by first | rfl | (simp; done)), by go_grown⟩
set_option maxHeartbeats 4000000 in
theorem rorder_any (xs ys : List Snd) (v u : Value) (w : World) (h1 : Wd w v xs) (h2 : Wd w u ys) : Gives 31 #[v, u] w (.int .i64 (ordW xs ys)) := by
  unfold Gives
  obtain ⟨ao, cap, rfl, c1, m1, H1⟩ := h1.open
  obtain ⟨bo, cap', rfl, c2, m2, H2⟩ := h2.open
  have l1 := maxLen_lt (Nat.le_trans c1 m1); have l2 := maxLen_lt (Nat.le_trans c2 m2)
  clear h1 h2 c1 m1 c2 m2
  have H1 := Lib.hid H1; have H2 := Lib.hid H2
  generalize ho : ordW xs ys = o
  have HO := Lib.hid ho; clear ho
  go_enter Try.func31, Try.ntmps31
  go_wp2_with fail
  go_loopw [5] (fun i wr => ∃ k : Nat, k ≤ xs.length ∧ i = .int .i64 (k : Int) ∧ o = ordW (xs.drop k) (ys.drop k) ∧ k ≤ ys.length ∧ Below w.heap.size w wr ∧ w.heap.size ≤ wr.heap.size) (fun i _ => xs.length - (intOf i).toNat)
  case atStart => exact ⟨0, by omega, rfl, by rw [← HO.out]; rfl, by omega, Below.refl _ _, Nat.le_refl _⟩
  case round =>
    clear HO
    obtain ⟨k, hk, rfl, hp, hk2, hw, hsz⟩ := hrel
    by_cases hlt : k < xs.length
    · by_cases hlt2 : k < ys.length
      · rw [ordW_step hlt hlt2] at hp
        obtain ⟨b, off, rfl, lb, d0, d1⟩ := H1.out k hlt
        obtain ⟨b', off', rfl, lb', e0, e1⟩ := H2.out k hlt2
        have d0 := (hw.cell (p := ⟨b, off + k * 2, none⟩) lb).trans d0
        have d1 := (hw.cell (p := ⟨b, off + k * 2 + 1, none⟩) lb).trans d1
        have e0 := (hw.cell (p := ⟨b', off' + k * 2, none⟩) lb').trans e0
        have e1 := (hw.cell (p := ⟨b', off' + k * 2 + 1, none⟩) lb').trans e1
        have hanti := ordS_anti xs[k] ys[k]
        have hr := ordS_range xs[k] ys[k]
        clear H1 H2
        generalize hx : xs[k] = x at *
        generalize hy : ys[k] = y at *
        clear hx hy
        obtain ⟨x1, x2⟩ := x
        obtain ⟨y1, y2⟩ := y
        have HC := fun W => rbefore_any x1 x2 y1 y2 W
        have HD := fun W => rbefore_any y1 y2 x1 x2 W
        rw [hanti] at HD
        simp only at d0 d1 e0 e1
        generalize ordS (x1, x2) (y1, y2) = c at hp HC HD hr
        have lbr : b < wr.heap.size := by omega
        have lbr' : b' < wr.heap.size := by omega
        have HCC := Lib.hid HC
        have HDD := Lib.hid HD
        clear HC HD hanti
        rcases hr with rfl | rfl | rfl
        · have HP := Lib.hid (hp.trans (if_neg (by decide)))
          clear hp
          go_wp2_with fail
          refine wp_gen ?_
          intro W1 hW1
          have hw1 : Below w.heap.size w W1 := by rw [hW1]; go_grown
          have hz1 : wr.heap.size ≤ W1.heap.size := by rw [hW1]; go_size
          have c0 : W1.cell? ⟨b, off + k * 2, none⟩ = some (.int .u32 x1.toNat) := by rw [hW1]; first | assumption | go_cell | (go_simp; done) | exact cell_past (by first | assumption | omega) (by assumption)
          have c1 : W1.cell? ⟨b, off + k * 2 + 1, none⟩ = some (.int .u32 x2.toNat) := by rw [hW1]; first | assumption | go_cell | (go_simp; done) | exact cell_past (by first | assumption | omega) (by assumption)
          have c2 : W1.cell? ⟨b', off' + k * 2, none⟩ = some (.int .u32 y1.toNat) := by rw [hW1]; first | assumption | go_cell | (go_simp; done) | exact cell_past (by first | assumption | omega) (by assumption)
          have c3 : W1.cell? ⟨b', off' + k * 2 + 1, none⟩ = some (.int .u32 y2.toNat) := by rw [hW1]; first | assumption | go_cell | (go_simp; done) | exact cell_past (by first | assumption | omega) (by assumption)
          clear hW1
          have k0 := cell_regrown c0
          have k1 := cell_regrown c1
          have k2 := cell_regrown c2
          have k3 := cell_regrown c3
          refine wp_region_quiet_below (by kernel_rfl) (by kernel_rfl) ?_
          try simp only [List.append]
          repeat (go_big_quiet_step (first | (go_at_call 45; with_reducible exact Calls.regrown_of (Gives.eq (HCC.out _) rfl (v' := .bool true) rfl))))
          refine wpQuiet_nil ?_
          intro w2 hw2
          have hb : Below W1.heap.size W1 w2 := by obtain ⟨q, rfl⟩ := hw2; exact below_regrown _ _ _
          clear hw2
          clear k0 k1 k2 k3
          have hw := chain hw1 (by omega) hb
          obtain ⟨hc, hf, hz⟩ := bcell hb
          clear hb
          try have r0 : w2.cell? ⟨b, off + k * 2, none⟩ = some (.int .u32 x1.toNat) := (hc _ _ (by omega)).trans c0
          try have r1 : w2.cell? ⟨b, off + k * 2 + 1, none⟩ = some (.int .u32 x2.toNat) := (hc _ _ (by omega)).trans c1
          try have r2 : w2.cell? ⟨b', off' + k * 2, none⟩ = some (.int .u32 y1.toNat) := (hc _ _ (by omega)).trans c2
          try have r3 : w2.cell? ⟨b', off' + k * 2 + 1, none⟩ = some (.int .u32 y2.toNat) := (hc _ _ (by omega)).trans c3
          go_wp2_with fail
          go_returns
          exact ⟨ret_num HP.out.symm, hw⟩
        · have HP := Lib.hid (hp.trans (if_pos rfl))
          clear hp
          go_wp2_with fail
          refine wp_gen ?_
          intro W1 hW1
          have hw1 : Below w.heap.size w W1 := by rw [hW1]; go_grown
          have hz1 : wr.heap.size ≤ W1.heap.size := by rw [hW1]; go_size
          have c0 : W1.cell? ⟨b, off + k * 2, none⟩ = some (.int .u32 x1.toNat) := by rw [hW1]; first | assumption | go_cell | (go_simp; done) | exact cell_past (by first | assumption | omega) (by assumption)
          have c1 : W1.cell? ⟨b, off + k * 2 + 1, none⟩ = some (.int .u32 x2.toNat) := by rw [hW1]; first | assumption | go_cell | (go_simp; done) | exact cell_past (by first | assumption | omega) (by assumption)
          have c2 : W1.cell? ⟨b', off' + k * 2, none⟩ = some (.int .u32 y1.toNat) := by rw [hW1]; first | assumption | go_cell | (go_simp; done) | exact cell_past (by first | assumption | omega) (by assumption)
          have c3 : W1.cell? ⟨b', off' + k * 2 + 1, none⟩ = some (.int .u32 y2.toNat) := by rw [hW1]; first | assumption | go_cell | (go_simp; done) | exact cell_past (by first | assumption | omega) (by assumption)
          clear hW1
          have k0 := cell_regrown c0
          have k1 := cell_regrown c1
          have k2 := cell_regrown c2
          have k3 := cell_regrown c3
          refine wp_region_quiet_below (by kernel_rfl) (by kernel_rfl) ?_
          try simp only [List.append]
          repeat (go_big_quiet_step (first | (go_at_call 45; with_reducible exact Calls.regrown_of (Gives.eq (HCC.out _) rfl (v' := .bool false) rfl))))
          refine wpQuiet_nil ?_
          intro w2 hw2
          have hb : Below W1.heap.size W1 w2 := by obtain ⟨q, rfl⟩ := hw2; exact below_regrown _ _ _
          clear hw2
          clear k0 k1 k2 k3
          have hw := chain hw1 (by omega) hb
          obtain ⟨hc, hf, hz⟩ := bcell hb
          clear hb
          try have r0 : w2.cell? ⟨b, off + k * 2, none⟩ = some (.int .u32 x1.toNat) := (hc _ _ (by omega)).trans c0
          try have r1 : w2.cell? ⟨b, off + k * 2 + 1, none⟩ = some (.int .u32 x2.toNat) := (hc _ _ (by omega)).trans c1
          try have r2 : w2.cell? ⟨b', off' + k * 2, none⟩ = some (.int .u32 y1.toNat) := (hc _ _ (by omega)).trans c2
          try have r3 : w2.cell? ⟨b', off' + k * 2 + 1, none⟩ = some (.int .u32 y2.toNat) := (hc _ _ (by omega)).trans c3
          go_wp2_with fail
          refine wp_gen ?_
          intro W1 hW1
          have hw1 : Below w.heap.size w W1 := by rw [hW1]; go_grown
          have hz1 : wr.heap.size ≤ W1.heap.size := by rw [hW1]; go_size
          have c0 : W1.cell? ⟨b, off + k * 2, none⟩ = some (.int .u32 x1.toNat) := by rw [hW1]; first | assumption | go_cell | (go_simp; done) | exact cell_past (by first | assumption | omega) (by assumption)
          have c1 : W1.cell? ⟨b, off + k * 2 + 1, none⟩ = some (.int .u32 x2.toNat) := by rw [hW1]; first | assumption | go_cell | (go_simp; done) | exact cell_past (by first | assumption | omega) (by assumption)
          have c2 : W1.cell? ⟨b', off' + k * 2, none⟩ = some (.int .u32 y1.toNat) := by rw [hW1]; first | assumption | go_cell | (go_simp; done) | exact cell_past (by first | assumption | omega) (by assumption)
          have c3 : W1.cell? ⟨b', off' + k * 2 + 1, none⟩ = some (.int .u32 y2.toNat) := by rw [hW1]; first | assumption | go_cell | (go_simp; done) | exact cell_past (by first | assumption | omega) (by assumption)
          clear hW1
          have k0 := cell_regrown c0
          have k1 := cell_regrown c1
          have k2 := cell_regrown c2
          have k3 := cell_regrown c3
          refine wp_region_quiet_below (by kernel_rfl) (by kernel_rfl) ?_
          try simp only [List.append]
          repeat (go_big_quiet_step (first | (go_at_call 45; with_reducible exact Calls.regrown_of (Gives.eq (HDD.out _) rfl (v' := .bool false) rfl))))
          refine wpQuiet_nil ?_
          intro w2 hw2
          have hb : Below W1.heap.size W1 w2 := by obtain ⟨q, rfl⟩ := hw2; exact below_regrown _ _ _
          clear hw2
          clear k0 k1 k2 k3
          have hw := chain hw1 (by omega) hb
          obtain ⟨hc, hf, hz⟩ := bcell hb
          clear hb
          try have r0 : w2.cell? ⟨b, off + k * 2, none⟩ = some (.int .u32 x1.toNat) := (hc _ _ (by omega)).trans c0
          try have r1 : w2.cell? ⟨b, off + k * 2 + 1, none⟩ = some (.int .u32 x2.toNat) := (hc _ _ (by omega)).trans c1
          try have r2 : w2.cell? ⟨b', off' + k * 2, none⟩ = some (.int .u32 y1.toNat) := (hc _ _ (by omega)).trans c2
          try have r3 : w2.cell? ⟨b', off' + k * 2 + 1, none⟩ = some (.int .u32 y2.toNat) := (hc _ _ (by omega)).trans c3
          go_wp2_with fail
          go_roundw
          case rel => exact ⟨k + 1, by omega, by go_num, HP.out, by omega, hw, by have := hw.size; omega⟩
          case measure => simp [intOf]; omega
        · have HP := Lib.hid (hp.trans (if_neg (by decide)))
          clear hp
          go_wp2_with fail
          refine wp_gen ?_
          intro W1 hW1
          have hw1 : Below w.heap.size w W1 := by rw [hW1]; go_grown
          have hz1 : wr.heap.size ≤ W1.heap.size := by rw [hW1]; go_size
          have c0 : W1.cell? ⟨b, off + k * 2, none⟩ = some (.int .u32 x1.toNat) := by rw [hW1]; first | assumption | go_cell | (go_simp; done) | exact cell_past (by first | assumption | omega) (by assumption)
          have c1 : W1.cell? ⟨b, off + k * 2 + 1, none⟩ = some (.int .u32 x2.toNat) := by rw [hW1]; first | assumption | go_cell | (go_simp; done) | exact cell_past (by first | assumption | omega) (by assumption)
          have c2 : W1.cell? ⟨b', off' + k * 2, none⟩ = some (.int .u32 y1.toNat) := by rw [hW1]; first | assumption | go_cell | (go_simp; done) | exact cell_past (by first | assumption | omega) (by assumption)
          have c3 : W1.cell? ⟨b', off' + k * 2 + 1, none⟩ = some (.int .u32 y2.toNat) := by rw [hW1]; first | assumption | go_cell | (go_simp; done) | exact cell_past (by first | assumption | omega) (by assumption)
          clear hW1
          have k0 := cell_regrown c0
          have k1 := cell_regrown c1
          have k2 := cell_regrown c2
          have k3 := cell_regrown c3
          refine wp_region_quiet_below (by kernel_rfl) (by kernel_rfl) ?_
          try simp only [List.append]
          repeat (go_big_quiet_step (first | (go_at_call 45; with_reducible exact Calls.regrown_of (Gives.eq (HCC.out _) rfl (v' := .bool false) rfl))))
          refine wpQuiet_nil ?_
          intro w2 hw2
          have hb : Below W1.heap.size W1 w2 := by obtain ⟨q, rfl⟩ := hw2; exact below_regrown _ _ _
          clear hw2
          clear k0 k1 k2 k3
          have hw := chain hw1 (by omega) hb
          obtain ⟨hc, hf, hz⟩ := bcell hb
          clear hb
          try have r0 : w2.cell? ⟨b, off + k * 2, none⟩ = some (.int .u32 x1.toNat) := (hc _ _ (by omega)).trans c0
          try have r1 : w2.cell? ⟨b, off + k * 2 + 1, none⟩ = some (.int .u32 x2.toNat) := (hc _ _ (by omega)).trans c1
          try have r2 : w2.cell? ⟨b', off' + k * 2, none⟩ = some (.int .u32 y1.toNat) := (hc _ _ (by omega)).trans c2
          try have r3 : w2.cell? ⟨b', off' + k * 2 + 1, none⟩ = some (.int .u32 y2.toNat) := (hc _ _ (by omega)).trans c3
          go_wp2_with fail
          refine wp_gen ?_
          intro W1 hW1
          have hw1 : Below w.heap.size w W1 := by rw [hW1]; go_grown
          have hz1 : wr.heap.size ≤ W1.heap.size := by rw [hW1]; go_size
          have c0 : W1.cell? ⟨b, off + k * 2, none⟩ = some (.int .u32 x1.toNat) := by rw [hW1]; first | assumption | go_cell | (go_simp; done) | exact cell_past (by first | assumption | omega) (by assumption)
          have c1 : W1.cell? ⟨b, off + k * 2 + 1, none⟩ = some (.int .u32 x2.toNat) := by rw [hW1]; first | assumption | go_cell | (go_simp; done) | exact cell_past (by first | assumption | omega) (by assumption)
          have c2 : W1.cell? ⟨b', off' + k * 2, none⟩ = some (.int .u32 y1.toNat) := by rw [hW1]; first | assumption | go_cell | (go_simp; done) | exact cell_past (by first | assumption | omega) (by assumption)
          have c3 : W1.cell? ⟨b', off' + k * 2 + 1, none⟩ = some (.int .u32 y2.toNat) := by rw [hW1]; first | assumption | go_cell | (go_simp; done) | exact cell_past (by first | assumption | omega) (by assumption)
          clear hW1
          have k0 := cell_regrown c0
          have k1 := cell_regrown c1
          have k2 := cell_regrown c2
          have k3 := cell_regrown c3
          refine wp_region_quiet_below (by kernel_rfl) (by kernel_rfl) ?_
          try simp only [List.append]
          repeat (go_big_quiet_step (first | (go_at_call 45; with_reducible exact Calls.regrown_of (Gives.eq (HDD.out _) rfl (v' := .bool true) rfl))))
          refine wpQuiet_nil ?_
          intro w2 hw2
          have hb : Below W1.heap.size W1 w2 := by obtain ⟨q, rfl⟩ := hw2; exact below_regrown _ _ _
          clear hw2
          clear k0 k1 k2 k3
          have hw := chain hw1 (by omega) hb
          obtain ⟨hc, hf, hz⟩ := bcell hb
          clear hb
          try have r0 : w2.cell? ⟨b, off + k * 2, none⟩ = some (.int .u32 x1.toNat) := (hc _ _ (by omega)).trans c0
          try have r1 : w2.cell? ⟨b, off + k * 2 + 1, none⟩ = some (.int .u32 x2.toNat) := (hc _ _ (by omega)).trans c1
          try have r2 : w2.cell? ⟨b', off' + k * 2, none⟩ = some (.int .u32 y1.toNat) := (hc _ _ (by omega)).trans c2
          try have r3 : w2.cell? ⟨b', off' + k * 2 + 1, none⟩ = some (.int .u32 y2.toNat) := (hc _ _ (by omega)).trans c3
          go_wp2_with fail
          go_returns
          exact ⟨ret_num HP.out.symm, hw⟩
      · have HP := Lib.hid (hp.trans (ordW_past hlt hlt2))
        have hlt3 : ys.length < xs.length := by omega
        clear H1 H2 hp
        go_wp2_with fail
        go_returns
        exact ⟨ret_num HP.out.symm, by go_grown⟩
    · by_cases hlt2 : k < ys.length
      · have HP := Lib.hid (hp.trans (ordW_less hlt hlt2))
        have hlt3 : xs.length < ys.length := by omega
        clear H1 H2 hp
        go_wp2_with fail
        go_returns
        exact ⟨ret_num HP.out.symm, hw⟩
      · have HP := Lib.hid (hp.trans (ordW_both hlt hlt2))
        have hlt3 : ¬ xs.length < ys.length := by omega
        have hlt4 : ¬ ys.length < xs.length := by omega
        clear H1 H2 hp
        go_wp2_with fail
        go_returns
        exact ⟨ret_num HP.out.symm, hw⟩
end Go.Proofs.Ytfjngkdpembdcaa
