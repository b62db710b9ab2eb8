/-
  slices.Equal on words, and the specification's Equal.
-/
import Derived.Test.YtfjngkdpembdcaaHb
namespace Go.Proofs.Ytfjngkdpembdcaa
open Go.RowKit Go.Sort
attribute [local go_sem ↓] snd_eql snd_neq
theorem maxLen_lt {n : Nat} (h : n ≤ maxLen) : n ≤ 9223372036854775807 := h
theorem pre_eq {xs ys : List Snd} {k : Nat} (h : k < xs.length) (h' : k < ys.length) (hp : xs.take k = ys.take k) (he : xs[k] = ys[k]) : xs.take (k + 1) = ys.take (k + 1) := by
  rw [List.take_succ_eq_append_getElem h, List.take_succ_eq_append_getElem h', hp, he]
theorem snd_ne {x y : Snd} (h : x ≠ y) : (((x.1.toNat : Int) == y.1.toNat) && ((x.2.toNat : Int) == y.2.toNat)) = false := by
  rw [Bool.eq_false_iff]
  intro e
  simp only [Bool.and_eq_true, beq_iff_eq, Int.natCast_inj] at e
  exact h (Prod.ext (BitVec.toNat_inj.1 e.1) (BitVec.toNat_inj.1 e.2))
theorem eq_of_pre {xs ys : List Snd} {k : Nat} (h : ¬ k < xs.length) (hl : xs.length = ys.length) (hp : xs.take k = ys.take k) : xs = ys := by
  rwa [List.take_of_length_le (by omega), List.take_of_length_le (by omega)] at hp
set_option maxHeartbeats 2000000 in
theorem sEqual_any (xs ys : List Snd) (v u : Value) (w : World) (h1 : Wd w v xs) (h2 : Wd w u ys) : Gives 39 #[v, u] w (.bool (decide (xs = ys))) := by
  unfold Gives
  obtain ⟨ao, cap, rfl, c1, m1, H1⟩ := h1.open
  obtain ⟨bo, cap', rfl, c2, m2, H2⟩ := h2.open
  have l1 := maxLen_lt (Nat.le_trans c1 m1); have l2 := maxLen_lt (Nat.le_trans c2 m2)
  clear h1 h2 c1 m1 c2 m2
  by_cases hl : xs.length = ys.length
  · have H1 := Lib.hid H1; have H2 := Lib.hid H2
    generalize hdd : decide (xs = ys) = D
    have HDD := Lib.hid hdd; clear hdd
    go_enter Try.func39, Try.ntmps39
    go_wp2_with fail
    go_loopw [13] (fun i wr => ∃ k : Nat, k ≤ xs.length ∧ i = .int .i64 (k : Int) ∧ xs.take k = ys.take k ∧ Below w.heap.size w wr ∧ w.heap.size ≤ wr.heap.size) (fun i _ => xs.length - (intOf i).toNat)
    case atStart => exact ⟨0, by omega, rfl, by simp, Below.refl _ _, Nat.le_refl _⟩
    case round =>
      obtain ⟨k, hk, rfl, hp, hw, hsz⟩ := hrel
      have HP := Lib.hid hp; clear hp
      by_cases hlt : k < xs.length
      · obtain ⟨b, off, rfl, lb, d0, d1⟩ := H1.out k hlt
        obtain ⟨b', off', rfl, lb', e0, e1⟩ := H2.out k (by omega)
        have d0 := (hw.cell (p := ⟨b, off + k * 2, none⟩) lb).trans d0
        have d1 := (hw.cell (p := ⟨b, off + k * 2 + 1, none⟩) lb).trans d1
        have e0 := (hw.cell (p := ⟨b', off' + k * 2, none⟩) lb').trans e0
        have e1 := (hw.cell (p := ⟨b', off' + k * 2 + 1, none⟩) lb').trans e1
        go_wp2_with fail
        clear H1 H2
        generalize hx : xs[k] = x at d0 d1
        generalize hy : ys[k]'(by omega) = y at e0 e1
        have HX := Lib.hid hx; have HY := Lib.hid hy; clear hx hy
        have hlt' : k < ys.length := by omega
        by_cases hxy : x = y
        · subst hxy
          refine wp_gen ?_
          intro W1 hW1
          have hw1 : Below w.heap.size w W1 := by rw [hW1]; go_grown
          have hz1 : wr.heap.size ≤ W1.heap.size := by rw [hW1]; go_size
          have c0 : W1.cell? ⟨b, off + k * 2, none⟩ = some (.int .u32 x.1.toNat) := by rw [hW1]; first | assumption | go_cell | (go_simp; done) | exact cell_past (by first | assumption | omega) (by assumption)
          have c1 : W1.cell? ⟨b, off + k * 2 + 1, none⟩ = some (.int .u32 x.2.toNat) := by rw [hW1]; first | assumption | go_cell | (go_simp; done) | exact cell_past (by first | assumption | omega) (by assumption)
          have c2 : W1.cell? ⟨b', off' + k * 2, none⟩ = some (.int .u32 x.1.toNat) := by rw [hW1]; first | assumption | go_cell | (go_simp; done) | exact cell_past (by first | assumption | omega) (by assumption)
          have c3 : W1.cell? ⟨b', off' + k * 2 + 1, none⟩ = some (.int .u32 x.2.toNat) := by rw [hW1]; first | assumption | go_cell | (go_simp; done) | exact cell_past (by first | assumption | omega) (by assumption)
          clear hW1
          have k0 := cell_regrown c0
          have k1 := cell_regrown c1
          have k2 := cell_regrown c2
          have k3 := cell_regrown c3
          refine wp_region_quiet_below (by kernel_rfl) (by kernel_rfl) ?_
          try simp only [List.append]
          repeat (go_big_quiet_step (first | exact Calls.regrown_of ()))
          refine wpQuiet_nil ?_
          intro w2 hw2
          have hb : Below W1.heap.size W1 w2 := by obtain ⟨q, rfl⟩ := hw2; exact below_regrown _ _ _
          clear hw2
          clear k0 k1 k2 k3
          have hw := chain hw1 (by omega) hb
          obtain ⟨hc, hf, hz⟩ := bcell hb
          clear hb
          try have r0 : w2.cell? ⟨b, off + k * 2, none⟩ = some (.int .u32 x.1.toNat) := (hc _ _ (by omega)).trans c0
          try have r1 : w2.cell? ⟨b, off + k * 2 + 1, none⟩ = some (.int .u32 x.2.toNat) := (hc _ _ (by omega)).trans c1
          try have r2 : w2.cell? ⟨b', off' + k * 2, none⟩ = some (.int .u32 x.1.toNat) := (hc _ _ (by omega)).trans c2
          try have r3 : w2.cell? ⟨b', off' + k * 2 + 1, none⟩ = some (.int .u32 x.2.toNat) := (hc _ _ (by omega)).trans c3
          go_wp2_with fail
          go_roundw
          case rel => exact ⟨k + 1, by omega, by go_num, pre_eq hlt hlt' HP.out (HX.out.trans HY.out.symm), hw, by have := hw.size; omega⟩
          case measure => simp [intOf]; omega
        · have hne := snd_ne hxy
          have hfin : decide (xs = ys) = false := decide_eq_false fun e => hxy (by rw [← HX.out, ← HY.out]; simp only [e])
          have HF := Lib.hid hfin
          obtain ⟨x1, x2⟩ := x
          obtain ⟨y1, y2⟩ := y
          simp only at d0 d1 e0 e1 hne
          clear hfin hxy
          refine wp_gen ?_
          intro W1 hW1
          have hw1 : Below w.heap.size w W1 := by rw [hW1]; go_grown
          have hz1 : wr.heap.size ≤ W1.heap.size := by rw [hW1]; go_size
          have c0 : W1.cell? ⟨b, off + k * 2, none⟩ = some (.int .u32 x1.toNat) := by rw [hW1]; first | assumption | go_cell | (go_simp; done) | exact cell_past (by first | assumption | omega) (by assumption)
          have c1 : W1.cell? ⟨b, off + k * 2 + 1, none⟩ = some (.int .u32 x2.toNat) := by rw [hW1]; first | assumption | go_cell | (go_simp; done) | exact cell_past (by first | assumption | omega) (by assumption)
          have c2 : W1.cell? ⟨b', off' + k * 2, none⟩ = some (.int .u32 y1.toNat) := by rw [hW1]; first | assumption | go_cell | (go_simp; done) | exact cell_past (by first | assumption | omega) (by assumption)
          have c3 : W1.cell? ⟨b', off' + k * 2 + 1, none⟩ = some (.int .u32 y2.toNat) := by rw [hW1]; first | assumption | go_cell | (go_simp; done) | exact cell_past (by first | assumption | omega) (by assumption)
          clear hW1
          have k0 := cell_regrown c0
          have k1 := cell_regrown c1
          have k2 := cell_regrown c2
          have k3 := cell_regrown c3
          refine wp_region_quiet_below (by kernel_rfl) (by kernel_rfl) ?_
          try simp only [List.append]
          repeat (go_big_quiet_step (first | exact Calls.regrown_of ()))
          refine wpQuiet_nil ?_
          intro w2 hw2
          have hb : Below W1.heap.size W1 w2 := by obtain ⟨q, rfl⟩ := hw2; exact below_regrown _ _ _
          clear hw2
          clear k0 k1 k2 k3
          have hw := chain hw1 (by omega) hb
          obtain ⟨hc, hf, hz⟩ := bcell hb
          clear hb
          try have r0 : w2.cell? ⟨b, off + k * 2, none⟩ = some (.int .u32 x1.toNat) := (hc _ _ (by omega)).trans c0
          try have r1 : w2.cell? ⟨b, off + k * 2 + 1, none⟩ = some (.int .u32 x2.toNat) := (hc _ _ (by omega)).trans c1
          try have r2 : w2.cell? ⟨b', off' + k * 2, none⟩ = some (.int .u32 y1.toNat) := (hc _ _ (by omega)).trans c2
          try have r3 : w2.cell? ⟨b', off' + k * 2 + 1, none⟩ = some (.int .u32 y2.toNat) := (hc _ _ (by omega)).trans c3
          go_wp2_with fail
          go_returns
          exact ⟨ret_bool (HF.out.symm.trans HDD.out), hw⟩
      · have hfin : decide (xs = ys) = true := decide_eq_true (eq_of_pre hlt hl HP.out)
        have HF := Lib.hid hfin
        clear hfin H1 H2
        go_wp2_with fail
        go_returns
        exact ⟨ret_bool (HF.out.symm.trans HDD.out), hw⟩
  · have hfin : decide (xs = ys) = false := decide_eq_false fun e => hl (by rw [e])
    rw [hfin]
    clear hfin H1 H2
    go_enter Try.func39, Try.ntmps39
    go_wp2_with fail
    go_returns
    exact ⟨rfl, Below.refl _ _⟩
set_option maxHeartbeats 2000000 in
theorem rEqual_any (xs ys : List Snd) (v u : Value) (w : World) (h1 : Wd w v xs) (h2 : Wd w u ys) : Gives 23 #[v, u] w (.bool (decide (xs = ys))) := by
  unfold Gives
  obtain ⟨ao, cap, rfl, c1, m1, H1⟩ := h1.open
  obtain ⟨bo, cap', rfl, c2, m2, H2⟩ := h2.open
  have l1 := maxLen_lt (Nat.le_trans c1 m1); have l2 := maxLen_lt (Nat.le_trans c2 m2)
  clear h1 h2 c1 m1 c2 m2
  by_cases hl : xs.length = ys.length
  · have H1 := Lib.hid H1; have H2 := Lib.hid H2
    generalize hdd : decide (xs = ys) = D
    have HDD := Lib.hid hdd; clear hdd
    go_enter Try.func23, Try.ntmps23
    go_wp2_with fail
    go_loopw [5] (fun i wr => ∃ k : Nat, k ≤ xs.length ∧ i = .int .i64 (k : Int) ∧ xs.take k = ys.take k ∧ Below w.heap.size w wr ∧ w.heap.size ≤ wr.heap.size) (fun i _ => xs.length - (intOf i).toNat)
    case atStart => exact ⟨0, by omega, rfl, by simp, Below.refl _ _, Nat.le_refl _⟩
    case round =>
      obtain ⟨k, hk, rfl, hp, hw, hsz⟩ := hrel
      have HP := Lib.hid hp; clear hp
      by_cases hlt : k < xs.length
      · obtain ⟨b, off, rfl, lb, d0, d1⟩ := H1.out k hlt
        obtain ⟨b', off', rfl, lb', e0, e1⟩ := H2.out k (by omega)
        have d0 := (hw.cell (p := ⟨b, off + k * 2, none⟩) lb).trans d0
        have d1 := (hw.cell (p := ⟨b, off + k * 2 + 1, none⟩) lb).trans d1
        have e0 := (hw.cell (p := ⟨b', off' + k * 2, none⟩) lb').trans e0
        have e1 := (hw.cell (p := ⟨b', off' + k * 2 + 1, none⟩) lb').trans e1
        go_wp2_with fail
        clear H1 H2
        generalize hx : xs[k] = x at d0 d1
        generalize hy : ys[k]'(by omega) = y at e0 e1
        have HX := Lib.hid hx; have HY := Lib.hid hy; clear hx hy
        have hlt' : k < ys.length := by omega
        by_cases hxy : x = y
        · subst hxy
          refine wp_gen ?_
          intro W1 hW1
          have hw1 : Below w.heap.size w W1 := by rw [hW1]; go_grown
          have hz1 : wr.heap.size ≤ W1.heap.size := by rw [hW1]; go_size
          have c0 : W1.cell? ⟨b, off + k * 2, none⟩ = some (.int .u32 x.1.toNat) := by rw [hW1]; first | assumption | go_cell | (go_simp; done) | exact cell_past (by first | assumption | omega) (by assumption)
          have c1 : W1.cell? ⟨b, off + k * 2 + 1, none⟩ = some (.int .u32 x.2.toNat) := by rw [hW1]; first | assumption | go_cell | (go_simp; done) | exact cell_past (by first | assumption | omega) (by assumption)
          have c2 : W1.cell? ⟨b', off' + k * 2, none⟩ = some (.int .u32 x.1.toNat) := by rw [hW1]; first | assumption | go_cell | (go_simp; done) | exact cell_past (by first | assumption | omega) (by assumption)
          have c3 : W1.cell? ⟨b', off' + k * 2 + 1, none⟩ = some (.int .u32 x.2.toNat) := by rw [hW1]; first | assumption | go_cell | (go_simp; done) | exact cell_past (by first | assumption | omega) (by assumption)
          clear hW1
          have k0 := cell_regrown c0
          have k1 := cell_regrown c1
          have k2 := cell_regrown c2
          have k3 := cell_regrown c3
          refine wp_region_quiet_below (by kernel_rfl) (by kernel_rfl) ?_
          try simp only [List.append]
          repeat (go_big_quiet_step (first | exact Calls.regrown_of ()))
          refine wpQuiet_nil ?_
          intro w2 hw2
          have hb : Below W1.heap.size W1 w2 := by obtain ⟨q, rfl⟩ := hw2; exact below_regrown _ _ _
          clear hw2
          clear k0 k1 k2 k3
          have hw := chain hw1 (by omega) hb
          obtain ⟨hc, hf, hz⟩ := bcell hb
          clear hb
          try have r0 : w2.cell? ⟨b, off + k * 2, none⟩ = some (.int .u32 x.1.toNat) := (hc _ _ (by omega)).trans c0
          try have r1 : w2.cell? ⟨b, off + k * 2 + 1, none⟩ = some (.int .u32 x.2.toNat) := (hc _ _ (by omega)).trans c1
          try have r2 : w2.cell? ⟨b', off' + k * 2, none⟩ = some (.int .u32 x.1.toNat) := (hc _ _ (by omega)).trans c2
          try have r3 : w2.cell? ⟨b', off' + k * 2 + 1, none⟩ = some (.int .u32 x.2.toNat) := (hc _ _ (by omega)).trans c3
          go_wp2_with fail
          go_roundw
          case rel => exact ⟨k + 1, by omega, by go_num, pre_eq hlt hlt' HP.out (HX.out.trans HY.out.symm), hw, by have := hw.size; omega⟩
          case measure => simp [intOf]; omega
        · have hne := snd_ne hxy
          have hfin : decide (xs = ys) = false := decide_eq_false fun e => hxy (by rw [← HX.out, ← HY.out]; simp only [e])
          have HF := Lib.hid hfin
          obtain ⟨x1, x2⟩ := x
          obtain ⟨y1, y2⟩ := y
          simp only at d0 d1 e0 e1 hne
          clear hfin hxy
          refine wp_gen ?_
          intro W1 hW1
          have hw1 : Below w.heap.size w W1 := by rw [hW1]; go_grown
          have hz1 : wr.heap.size ≤ W1.heap.size := by rw [hW1]; go_size
          have c0 : W1.cell? ⟨b, off + k * 2, none⟩ = some (.int .u32 x1.toNat) := by rw [hW1]; first | assumption | go_cell | (go_simp; done) | exact cell_past (by first | assumption | omega) (by assumption)
          have c1 : W1.cell? ⟨b, off + k * 2 + 1, none⟩ = some (.int .u32 x2.toNat) := by rw [hW1]; first | assumption | go_cell | (go_simp; done) | exact cell_past (by first | assumption | omega) (by assumption)
          have c2 : W1.cell? ⟨b', off' + k * 2, none⟩ = some (.int .u32 y1.toNat) := by rw [hW1]; first | assumption | go_cell | (go_simp; done) | exact cell_past (by first | assumption | omega) (by assumption)
          have c3 : W1.cell? ⟨b', off' + k * 2 + 1, none⟩ = some (.int .u32 y2.toNat) := by rw [hW1]; first | assumption | go_cell | (go_simp; done) | exact cell_past (by first | assumption | omega) (by assumption)
          clear hW1
          have k0 := cell_regrown c0
          have k1 := cell_regrown c1
          have k2 := cell_regrown c2
          have k3 := cell_regrown c3
          refine wp_region_quiet_below (by kernel_rfl) (by kernel_rfl) ?_
          try simp only [List.append]
          repeat (go_big_quiet_step (first | exact Calls.regrown_of ()))
          refine wpQuiet_nil ?_
          intro w2 hw2
          have hb : Below W1.heap.size W1 w2 := by obtain ⟨q, rfl⟩ := hw2; exact below_regrown _ _ _
          clear hw2
          clear k0 k1 k2 k3
          have hw := chain hw1 (by omega) hb
          obtain ⟨hc, hf, hz⟩ := bcell hb
          clear hb
          try have r0 : w2.cell? ⟨b, off + k * 2, none⟩ = some (.int .u32 x1.toNat) := (hc _ _ (by omega)).trans c0
          try have r1 : w2.cell? ⟨b, off + k * 2 + 1, none⟩ = some (.int .u32 x2.toNat) := (hc _ _ (by omega)).trans c1
          try have r2 : w2.cell? ⟨b', off' + k * 2, none⟩ = some (.int .u32 y1.toNat) := (hc _ _ (by omega)).trans c2
          try have r3 : w2.cell? ⟨b', off' + k * 2 + 1, none⟩ = some (.int .u32 y2.toNat) := (hc _ _ (by omega)).trans c3
          go_wp2_with fail
          go_returns
          exact ⟨ret_bool (HF.out.symm.trans HDD.out), hw⟩
      · have hfin : decide (xs = ys) = true := decide_eq_true (eq_of_pre hlt hl HP.out)
        have HF := Lib.hid hfin
        clear hfin H1 H2
        go_wp2_with fail
        go_returns
        exact ⟨ret_bool (HF.out.symm.trans HDD.out), hw⟩
  · have hfin : decide (xs = ys) = false := decide_eq_false fun e => hl (by rw [e])
    rw [hfin]
    clear hfin H1 H2
    go_enter Try.func23, Try.ntmps23
    go_wp2_with fail
    go_returns
    exact ⟨rfl, Below.refl _ _⟩
set_option maxHeartbeats 2000000 in
theorem same_any (xs ys : List Snd) (v u : Value) (w : World) (h1 : Wd w v xs) (h2 : Wd w u ys) : Gives 13 #[v, u] w (.bool (decide (xs = ys))) := by
  unfold Gives
  obtain ⟨ao, cap, rfl, c1, m1, H1⟩ := h1.open
  obtain ⟨bo, cap', rfl, c2, m2, H2⟩ := h2.open
  have l1 := maxLen_lt (Nat.le_trans c1 m1); have l2 := maxLen_lt (Nat.le_trans c2 m2)
  clear h1 h2 c1 m1 c2 m2
  by_cases hl : xs.length = ys.length
  · have H1 := Lib.hid H1; have H2 := Lib.hid H2
    generalize hdd : decide (xs = ys) = D
    have HDD := Lib.hid hdd; clear hdd
    go_enter Try.func13, Try.ntmps13
    go_wp2_with fail
    go_loopw [5] (fun i wr => ∃ k : Nat, k ≤ xs.length ∧ i = .int .i64 (k : Int) ∧ xs.take k = ys.take k ∧ Below w.heap.size w wr ∧ w.heap.size ≤ wr.heap.size) (fun i _ => xs.length - (intOf i).toNat)
    case atStart => exact ⟨0, by omega, rfl, by simp, Below.refl _ _, Nat.le_refl _⟩
    case round =>
      obtain ⟨k, hk, rfl, hp, hw, hsz⟩ := hrel
      have HP := Lib.hid hp; clear hp
      by_cases hlt : k < xs.length
      · obtain ⟨b, off, rfl, lb, d0, d1⟩ := H1.out k hlt
        obtain ⟨b', off', rfl, lb', e0, e1⟩ := H2.out k (by omega)
        have d0 := (hw.cell (p := ⟨b, off + k * 2, none⟩) lb).trans d0
        have d1 := (hw.cell (p := ⟨b, off + k * 2 + 1, none⟩) lb).trans d1
        have e0 := (hw.cell (p := ⟨b', off' + k * 2, none⟩) lb').trans e0
        have e1 := (hw.cell (p := ⟨b', off' + k * 2 + 1, none⟩) lb').trans e1
        go_wp2_with fail
        clear H1 H2
        generalize hx : xs[k] = x at d0 d1
        generalize hy : ys[k]'(by omega) = y at e0 e1
        have HX := Lib.hid hx; have HY := Lib.hid hy; clear hx hy
        have hlt' : k < ys.length := by omega
        by_cases hxy : x = y
        · subst hxy
          refine wp_gen ?_
          intro W1 hW1
          have hw1 : Below w.heap.size w W1 := by rw [hW1]; go_grown
          have hz1 : wr.heap.size ≤ W1.heap.size := by rw [hW1]; go_size
          have c0 : W1.cell? ⟨b, off + k * 2, none⟩ = some (.int .u32 x.1.toNat) := by rw [hW1]; first | assumption | go_cell | (go_simp; done) | exact cell_past (by first | assumption | omega) (by assumption)
          have c1 : W1.cell? ⟨b, off + k * 2 + 1, none⟩ = some (.int .u32 x.2.toNat) := by rw [hW1]; first | assumption | go_cell | (go_simp; done) | exact cell_past (by first | assumption | omega) (by assumption)
          have c2 : W1.cell? ⟨b', off' + k * 2, none⟩ = some (.int .u32 x.1.toNat) := by rw [hW1]; first | assumption | go_cell | (go_simp; done) | exact cell_past (by first | assumption | omega) (by assumption)
          have c3 : W1.cell? ⟨b', off' + k * 2 + 1, none⟩ = some (.int .u32 x.2.toNat) := by rw [hW1]; first | assumption | go_cell | (go_simp; done) | exact cell_past (by first | assumption | omega) (by assumption)
          clear hW1
          have k0 := cell_regrown c0
          have k1 := cell_regrown c1
          have k2 := cell_regrown c2
          have k3 := cell_regrown c3
          refine wp_region_quiet_below (by kernel_rfl) (by kernel_rfl) ?_
          try simp only [List.append]
          repeat (go_big_quiet_step (first | exact Calls.regrown_of ()))
          refine wpQuiet_nil ?_
          intro w2 hw2
          have hb : Below W1.heap.size W1 w2 := by obtain ⟨q, rfl⟩ := hw2; exact below_regrown _ _ _
          clear hw2
          clear k0 k1 k2 k3
          have hw := chain hw1 (by omega) hb
          obtain ⟨hc, hf, hz⟩ := bcell hb
          clear hb
          try have r0 : w2.cell? ⟨b, off + k * 2, none⟩ = some (.int .u32 x.1.toNat) := (hc _ _ (by omega)).trans c0
          try have r1 : w2.cell? ⟨b, off + k * 2 + 1, none⟩ = some (.int .u32 x.2.toNat) := (hc _ _ (by omega)).trans c1
          try have r2 : w2.cell? ⟨b', off' + k * 2, none⟩ = some (.int .u32 x.1.toNat) := (hc _ _ (by omega)).trans c2
          try have r3 : w2.cell? ⟨b', off' + k * 2 + 1, none⟩ = some (.int .u32 x.2.toNat) := (hc _ _ (by omega)).trans c3
          go_wp2_with fail
          go_roundw
          case rel => exact ⟨k + 1, by omega, by go_num, pre_eq hlt hlt' HP.out (HX.out.trans HY.out.symm), hw, by have := hw.size; omega⟩
          case measure => simp [intOf]; omega
        · have hne := snd_ne hxy
          have hfin : decide (xs = ys) = false := decide_eq_false fun e => hxy (by rw [← HX.out, ← HY.out]; simp only [e])
          have HF := Lib.hid hfin
          obtain ⟨x1, x2⟩ := x
          obtain ⟨y1, y2⟩ := y
          simp only at d0 d1 e0 e1 hne
          clear hfin hxy
          refine wp_gen ?_
          intro W1 hW1
          have hw1 : Below w.heap.size w W1 := by rw [hW1]; go_grown
          have hz1 : wr.heap.size ≤ W1.heap.size := by rw [hW1]; go_size
          have c0 : W1.cell? ⟨b, off + k * 2, none⟩ = some (.int .u32 x1.toNat) := by rw [hW1]; first | assumption | go_cell | (go_simp; done) | exact cell_past (by first | assumption | omega) (by assumption)
          have c1 : W1.cell? ⟨b, off + k * 2 + 1, none⟩ = some (.int .u32 x2.toNat) := by rw [hW1]; first | assumption | go_cell | (go_simp; done) | exact cell_past (by first | assumption | omega) (by assumption)
          have c2 : W1.cell? ⟨b', off' + k * 2, none⟩ = some (.int .u32 y1.toNat) := by rw [hW1]; first | assumption | go_cell | (go_simp; done) | exact cell_past (by first | assumption | omega) (by assumption)
          have c3 : W1.cell? ⟨b', off' + k * 2 + 1, none⟩ = some (.int .u32 y2.toNat) := by rw [hW1]; first | assumption | go_cell | (go_simp; done) | exact cell_past (by first | assumption | omega) (by assumption)
          clear hW1
          have k0 := cell_regrown c0
          have k1 := cell_regrown c1
          have k2 := cell_regrown c2
          have k3 := cell_regrown c3
          refine wp_region_quiet_below (by kernel_rfl) (by kernel_rfl) ?_
          try simp only [List.append]
          repeat (go_big_quiet_step (first | exact Calls.regrown_of ()))
          refine wpQuiet_nil ?_
          intro w2 hw2
          have hb : Below W1.heap.size W1 w2 := by obtain ⟨q, rfl⟩ := hw2; exact below_regrown _ _ _
          clear hw2
          clear k0 k1 k2 k3
          have hw := chain hw1 (by omega) hb
          obtain ⟨hc, hf, hz⟩ := bcell hb
          clear hb
          try have r0 : w2.cell? ⟨b, off + k * 2, none⟩ = some (.int .u32 x1.toNat) := (hc _ _ (by omega)).trans c0
          try have r1 : w2.cell? ⟨b, off + k * 2 + 1, none⟩ = some (.int .u32 x2.toNat) := (hc _ _ (by omega)).trans c1
          try have r2 : w2.cell? ⟨b', off' + k * 2, none⟩ = some (.int .u32 y1.toNat) := (hc _ _ (by omega)).trans c2
          try have r3 : w2.cell? ⟨b', off' + k * 2 + 1, none⟩ = some (.int .u32 y2.toNat) := (hc _ _ (by omega)).trans c3
          go_wp2_with fail
          go_returns
          exact ⟨ret_bool (HF.out.symm.trans HDD.out), hw⟩
      · have hfin : decide (xs = ys) = true := decide_eq_true (eq_of_pre hlt hl HP.out)
        have HF := Lib.hid hfin
        clear hfin H1 H2
        go_wp2_with fail
        go_returns
        exact ⟨ret_bool (HF.out.symm.trans HDD.out), hw⟩
  · have hfin : decide (xs = ys) = false := decide_eq_false fun e => hl (by rw [e])
    rw [hfin]
    clear hfin H1 H2
    go_enter Try.func13, Try.ntmps13
    go_wp2_with fail
    go_returns
    exact ⟨rfl, Below.refl _ _⟩
theorem wEqual_any (xs ys : List Snd) (v u : Value) (w : World) (h1 : Wd w v xs) (h2 : Wd w u ys) : Gives 28 #[v, u] w (.bool (decide (xs = ys))) := by
  unfold Gives
  obtain ⟨ao, cap, hv, _⟩ := h1.open
  obtain ⟨bo, cap', hu, _⟩ := h2.open
  have := sEqual_any xs ys v u w h1 h2
  clear h1 h2
  subst hv; subst hu
  go_enter Try.func28, Try.ntmps28
  go_wp2_with fail
  go_at_call 39
  with_reducible refine Gives.then this ?_
  intro w1 hb
  go_wp2_with fail
  go_returns
  exact ⟨rfl, hb⟩
end Go.Proofs.Ytfjngkdpembdcaa
