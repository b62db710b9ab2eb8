/-
  The specification's Inside.
-/
import Derived.Test.YthokpgnenlfnjaaHk2
namespace Go.Proofs.Ythokpgnenlfnjaa
open Go.RowKit Go.Sort
attribute [local go_sem ↓] snd_eql snd_neq
theorem rem_at {xs ys : List Snd} {i j : Nat} {x y : Snd} (hi : i < xs.length) (hj : j < ys.length) (hx : xs[i] = x) (hy : ys[j] = y) : rem (ys.drop j) (xs.drop i) = if y = x then rem (ys.drop (j + 1)) (xs.drop (i + 1)) else rem (ys.drop j) (xs.drop (i + 1)) := by
  subst hx; subst hy
  rw [List.drop_eq_getElem_cons hj]
  exact rem_step hi
set_option maxHeartbeats 4000000 in
theorem rinside_any (xs ys : List Snd) (v u : Value) (w : World) (h : Wd w v ys) (hu : Wd w u xs) : Gives 34 #[v, u] w (.bool (insS ys xs)) := by
  unfold Gives
  obtain ⟨uo, ucap, rfl, k1, k2, H2⟩ := hu.open
  obtain ⟨vo, vcap, rfl, k3, k4, H1⟩ := h.open
  have l2 := maxLen_lt (Nat.le_trans k1 k2)
  have l1 := maxLen_lt (Nat.le_trans k3 k4)
  clear k1 k2 hu k3 k4 h
  have H2 := Lib.hid H2; have H1 := Lib.hid H1
  generalize ho : insS ys xs = o
  have ho' : decide (rem (ys.drop 0) (xs.drop 0) = []) = o := ho
  have HO := Lib.hid ho'
  clear ho ho'
  go_enter Try.func34, Try.ntmps34
  go_wp2_with fail
  go_loopw [6, 5] (fun i r wr => ∃ (k j : Nat), k ≤ xs.length ∧ j ≤ ys.length ∧ i = .int .i64 (k : Int) ∧ r = .int .i64 (j : Int) ∧ decide (rem (ys.drop j) (xs.drop k) = []) = o ∧ Below w.heap.size w wr ∧ w.heap.size ≤ wr.heap.size) (fun i _ _ => xs.length - (intOf i).toNat)
  case atStart => exact ⟨0, 0, by omega, by omega, rfl, rfl, HO.out, Below.refl _ _, Nat.le_refl _⟩
  case round =>
    clear HO
    obtain ⟨k, j, hk, hj, rfl, rfl, hp, hw, hsz⟩ := hrel
    by_cases hlt : k < xs.length
    · by_cases hjt : j < ys.length
      · obtain ⟨b, off, rfl, lb, d0, d1⟩ := H2.out k hlt
        have d0 := (hw.cell (p := ⟨b, off + k * 2, none⟩) lb).trans d0
        have d1 := (hw.cell (p := ⟨b, off + k * 2 + 1, none⟩) lb).trans d1
        obtain ⟨b', off', rfl, lb', e0, e1⟩ := H1.out j hjt
        have e0 := (hw.cell (p := ⟨b', off' + j * 2, none⟩) lb').trans e0
        have e1 := (hw.cell (p := ⟨b', off' + j * 2 + 1, none⟩) lb').trans e1
        clear H1 H2
        have lbr : b < wr.heap.size := by omega
        have lbr' : b' < wr.heap.size := by omega
        generalize hx : xs[k] = x at d0 d1
        generalize hy : ys[j] = y at e0 e1
        rw [rem_at hlt hjt hx hy] at hp
        clear hx hy
        have hg : decide ((j : Int) < (ys.length : Int)) = true := decide_eq_true (by omega)
        by_cases hxy : y = x
        · have HP := Lib.hid ((congrArg (fun l => decide (l = [])) (if_pos hxy)).symm.trans hp)
          subst hxy
          clear hp
          obtain ⟨y1, y2⟩ := y
          simp only at d0 d1 e0 e1
          go_wp2_with fail
          refine wp_gen ?_
          intro W1 hW1
          have hw1 : Below w.heap.size w W1 := by rw [hW1]; go_grown
          have hz1 : wr.heap.size ≤ W1.heap.size := by rw [hW1]; go_size
          have c0 : W1.cell? ⟨b, off + k * 2, none⟩ = some (.int .u32 y1.toNat) := by rw [hW1]; first | assumption | go_cell | (go_simp; done) | exact cell_past (by first | assumption | omega) (by assumption)
          have c1 : W1.cell? ⟨b, off + k * 2 + 1, none⟩ = some (.int .u32 y2.toNat) := by rw [hW1]; first | assumption | go_cell | (go_simp; done) | exact cell_past (by first | assumption | omega) (by assumption)
          have c2 : W1.cell? ⟨b', off' + j * 2, none⟩ = some (.int .u32 y1.toNat) := by rw [hW1]; first | assumption | go_cell | (go_simp; done) | exact cell_past (by first | assumption | omega) (by assumption)
          have c3 : W1.cell? ⟨b', off' + j * 2 + 1, none⟩ = some (.int .u32 y2.toNat) := by rw [hW1]; first | assumption | go_cell | (go_simp; done) | exact cell_past (by first | assumption | omega) (by assumption)
          clear hW1
          have k0 := cell_regrown c0
          have k1 := cell_regrown c1
          have k2 := cell_regrown c2
          have k3 := cell_regrown c3
          refine wp_region_quiet_below (by kernel_rfl) (by kernel_rfl) ?_
          try simp only [List.append]
          repeat (go_big_quiet_step (first | exact Calls.regrown_of ()))
          refine wpQuiet_nil ?_
          intro w2 hw2
          have hb : Below W1.heap.size W1 w2 := by obtain ⟨q, rfl⟩ := hw2; exact below_regrown _ _ _
          clear hw2
          clear k0 k1 k2 k3
          have hw := chain hw1 (by omega) hb
          obtain ⟨hc, hf, hz⟩ := bcell hb
          clear hb
          try have r0 : w2.cell? ⟨b, off + k * 2, none⟩ = some (.int .u32 y1.toNat) := (hc _ _ (by omega)).trans c0
          try have r1 : w2.cell? ⟨b, off + k * 2 + 1, none⟩ = some (.int .u32 y2.toNat) := (hc _ _ (by omega)).trans c1
          try have r2 : w2.cell? ⟨b', off' + j * 2, none⟩ = some (.int .u32 y1.toNat) := (hc _ _ (by omega)).trans c2
          try have r3 : w2.cell? ⟨b', off' + j * 2 + 1, none⟩ = some (.int .u32 y2.toNat) := (hc _ _ (by omega)).trans c3
          go_wp2_with fail
          go_roundw
          case rel => exact ⟨k + 1, j + 1, by omega, by omega, by go_num, by go_num, HP.out, hw, hw.size⟩
          case measure => simp [intOf]; omega
        · have HP := Lib.hid ((congrArg (fun l => decide (l = [])) (if_neg hxy)).symm.trans hp)
          have hne := snd_ne hxy
          obtain ⟨x1, x2⟩ := x
          obtain ⟨y1, y2⟩ := y
          simp only at d0 d1 e0 e1 hne
          clear hp hxy
          go_wp2_with fail
          refine wp_gen ?_
          intro W1 hW1
          have hw1 : Below w.heap.size w W1 := by rw [hW1]; go_grown
          have hz1 : wr.heap.size ≤ W1.heap.size := by rw [hW1]; go_size
          have c0 : W1.cell? ⟨b, off + k * 2, none⟩ = some (.int .u32 x1.toNat) := by rw [hW1]; first | assumption | go_cell | (go_simp; done) | exact cell_past (by first | assumption | omega) (by assumption)
          have c1 : W1.cell? ⟨b, off + k * 2 + 1, none⟩ = some (.int .u32 x2.toNat) := by rw [hW1]; first | assumption | go_cell | (go_simp; done) | exact cell_past (by first | assumption | omega) (by assumption)
          have c2 : W1.cell? ⟨b', off' + j * 2, none⟩ = some (.int .u32 y1.toNat) := by rw [hW1]; first | assumption | go_cell | (go_simp; done) | exact cell_past (by first | assumption | omega) (by assumption)
          have c3 : W1.cell? ⟨b', off' + j * 2 + 1, none⟩ = some (.int .u32 y2.toNat) := by rw [hW1]; first | assumption | go_cell | (go_simp; done) | exact cell_past (by first | assumption | omega) (by assumption)
          clear hW1
          have k0 := cell_regrown c0
          have k1 := cell_regrown c1
          have k2 := cell_regrown c2
          have k3 := cell_regrown c3
          refine wp_region_quiet_below (by kernel_rfl) (by kernel_rfl) ?_
          try simp only [List.append]
          repeat (go_big_quiet_step (first | exact Calls.regrown_of ()))
          refine wpQuiet_nil ?_
          intro w2 hw2
          have hb : Below W1.heap.size W1 w2 := by obtain ⟨q, rfl⟩ := hw2; exact below_regrown _ _ _
          clear hw2
          clear k0 k1 k2 k3
          have hw := chain hw1 (by omega) hb
          obtain ⟨hc, hf, hz⟩ := bcell hb
          clear hb
          try have r0 : w2.cell? ⟨b, off + k * 2, none⟩ = some (.int .u32 x1.toNat) := (hc _ _ (by omega)).trans c0
          try have r1 : w2.cell? ⟨b, off + k * 2 + 1, none⟩ = some (.int .u32 x2.toNat) := (hc _ _ (by omega)).trans c1
          try have r2 : w2.cell? ⟨b', off' + j * 2, none⟩ = some (.int .u32 y1.toNat) := (hc _ _ (by omega)).trans c2
          try have r3 : w2.cell? ⟨b', off' + j * 2 + 1, none⟩ = some (.int .u32 y2.toNat) := (hc _ _ (by omega)).trans c3
          go_wp2_with fail
          go_roundw
          case rel => exact ⟨k + 1, j, by omega, by omega, by go_num, rfl, HP.out, hw, hw.size⟩
          case measure => simp [intOf]; omega
      · obtain rfl : j = ys.length := by omega
        rw [List.drop_length, rem_nil hlt] at hp
        have HP := Lib.hid hp
        have hg : decide ((ys.length : Int) < (ys.length : Int)) = false := decide_eq_false (by omega)
        clear hp H1 H2 hjt
        go_wp2_with fail
        refine wp_gen ?_
        intro W1 hW1
        have hw1 : Below w.heap.size w W1 := by rw [hW1]; go_grown
        have hz1 : wr.heap.size ≤ W1.heap.size := by rw [hW1]; go_size
        clear hW1
        refine wp_region_quiet_below (by kernel_rfl) (by kernel_rfl) ?_
        try simp only [List.append]
        repeat (go_big_quiet_step (first | exact Calls.regrown_of ()))
        refine wpQuiet_nil ?_
        intro w2 hw2
        have hb : Below W1.heap.size W1 w2 := by obtain ⟨q, rfl⟩ := hw2; exact below_regrown _ _ _
        clear hw2
        have hw := chain hw1 (by omega) hb
        obtain ⟨hc, hf, hz⟩ := bcell hb
        clear hb
        go_wp2_with fail
        go_roundw
        case rel => exact ⟨k + 1, ys.length, by omega, by omega, by go_num, rfl, by rw [List.drop_length]; exact HP.out, hw, hw.size⟩
        case measure => simp [intOf]; omega
    · rw [rem_end hlt] at hp
      have hq : ((j : Int) == (ys.length : Int)) = o := by
        rw [← hp, Bool.eq_iff_iff, beq_iff_eq, decide_eq_true_eq, List.drop_eq_nil_iff]
        omega
      have HQ := Lib.hid hq
      clear hp hq H1 H2
      go_wp2_with fail
      go_returns
      exact ⟨ret_bool HQ.out, hw⟩
end Go.Proofs.Ythokpgnenlfnjaa
