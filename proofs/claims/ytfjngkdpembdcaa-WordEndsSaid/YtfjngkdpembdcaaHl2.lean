/-
  What two words have in common at the beginning, and at the end: Common.
-/
import Derived.Test.YtfjngkdpembdcaaHd
namespace Go.Proofs.Ytfjngkdpembdcaa
open Go.RowKit Go.Sort
attribute [local go_sem ↓] snd_eql snd_neq
/-- How many sounds two words have in common at the beginning. -/
def cpre : List Snd → List Snd → Nat
  | x :: xs, y :: ys => if x = y then cpre xs ys + 1 else 0
  | _, _ => 0
theorem cpre_nil (xs : List Snd) : cpre xs [] = 0 := by cases xs <;> rfl
theorem cpre_step {xs ys : List Snd} {k : Nat} (h1 : k < xs.length) (h2 : k < ys.length) : cpre (xs.drop k) (ys.drop k) = if xs[k] = ys[k] then cpre (xs.drop (k + 1)) (ys.drop (k + 1)) + 1 else 0 := by
  rw [List.drop_eq_getElem_cons h1, List.drop_eq_getElem_cons h2]; rfl
theorem cpre_end {xs ys : List Snd} {k : Nat} (h : ¬ (k < xs.length ∧ k < ys.length)) : cpre (xs.drop k) (ys.drop k) = 0 := by
  rcases Nat.lt_or_ge k xs.length with h1 | h1
  · have e : ys.drop k = [] := List.drop_of_length_le (by omega)
    rw [e, cpre_nil]
  · have e : xs.drop k = [] := List.drop_of_length_le (by omega)
    rw [e]; rfl
/-- .. and, of what is left, at the end. -/
def csuf (xs ys : List Snd) : Nat := cpre (xs.drop (cpre xs ys)).reverse (ys.drop (cpre xs ys)).reverse
theorem rev_get {xs : List Snd} {n e : Nat} (h : n + e < xs.length) (h' : e < (xs.drop n).reverse.length) : (xs.drop n).reverse[e] = xs[xs.length - 1 - e] := by
  rw [List.getElem_reverse, List.getElem_drop]
  congr 1
  simp only [List.length_drop]
  omega
theorem csuf_step {xs ys : List Snd} {n e : Nat} (h1 : n + e < xs.length) (h2 : n + e < ys.length) : cpre ((xs.drop n).reverse.drop e) ((ys.drop n).reverse.drop e) = if xs[xs.length - 1 - e] = ys[ys.length - 1 - e] then cpre ((xs.drop n).reverse.drop (e + 1)) ((ys.drop n).reverse.drop (e + 1)) + 1 else 0 := by
  rw [cpre_step (by simp; omega) (by simp; omega), rev_get h1, rev_get h2]
theorem csuf_end {xs ys : List Snd} {n e : Nat} (h : ¬ (n + e < xs.length ∧ n + e < ys.length)) : cpre ((xs.drop n).reverse.drop e) ((ys.drop n).reverse.drop e) = 0 := by
  refine cpre_end ?_
  simp only [List.length_reverse, List.length_drop]
  omega
theorem cpre_step' {xs ys : List Snd} {k : Nat} {x y : Snd} (h1 : k < xs.length) (h2 : k < ys.length) (hx : xs[k] = x) (hy : ys[k] = y) : cpre (xs.drop k) (ys.drop k) = if x = y then cpre (xs.drop (k + 1)) (ys.drop (k + 1)) + 1 else 0 := by
  subst hx; subst hy; exact cpre_step h1 h2
theorem csuf_step' {xs ys : List Snd} {n e : Nat} {x y : Snd} (h1 : n + e < xs.length) (h2 : n + e < ys.length) (hx : xs[xs.length - 1 - e] = x) (hy : ys[ys.length - 1 - e] = y) : cpre ((xs.drop n).reverse.drop e) ((ys.drop n).reverse.drop e) = if x = y then cpre ((xs.drop n).reverse.drop (e + 1)) ((ys.drop n).reverse.drop (e + 1)) + 1 else 0 := by
  subst hx; subst hy; exact csuf_step h1 h2
set_option maxHeartbeats 4000000 in
theorem common_any (xs ys : List Snd) (v u : Value) (w : World) (b1 : xs.length ≤ 1000000000) (b2 : ys.length ≤ 1000000000) (h1 : Wd w v xs) (h2 : Wd w u ys) : Gives 22 #[v, u] w (.tuple #[.int .i64 (cpre xs ys : Nat), .int .i64 (csuf xs ys : Nat)]) := by
  unfold Gives
  obtain ⟨ao, cap, rfl, -, -, H1⟩ := h1.open
  obtain ⟨bo, cap', rfl, -, -, H2⟩ := h2.open
  clear h1 h2
  have H1 := Lib.hid H1; have H2 := Lib.hid H2
  have hm0 : cpre xs ys = 0 + cpre (xs.drop 0) (ys.drop 0) := by simp
  have hs : csuf xs ys = cpre (xs.drop (cpre xs ys)).reverse (ys.drop (cpre xs ys)).reverse := rfl
  generalize hn : cpre xs ys = n at *
  generalize hm : csuf xs ys = m at *
  have HM0 := Lib.hid hm0; have HS := Lib.hid hs
  clear hm0 hs hn hm
  by_cases hmin : ys.length < xs.length
  · go_enter Try.func22, Try.ntmps22
    go_wp2_with fail
    go_loopw [7] (fun i wr => ∃ k : Nat, i = .int .i64 (k : Int) ∧ n = k + cpre (xs.drop k) (ys.drop k) ∧ k ≤ ys.length ∧ Below w.heap.size w wr ∧ w.heap.size ≤ wr.heap.size) (fun i _ => ys.length - (intOf i).toNat)
    case atStart => exact ⟨0, rfl, HM0.out, by omega, Below.refl _ _, Nat.le_refl _⟩
    case round =>
      clear HM0
      obtain ⟨k, rfl, hp, hk1, hw, hsz⟩ := hrel
      by_cases hlt : k < ys.length
      · skip
        have H1' := H1; have H2' := H2
        obtain ⟨b, off, ha, lb, d0, d1⟩ := H1.out (k) (by omega)
        obtain ⟨b', off', hb, lb', e0, e1⟩ := H2.out (k) (by omega)
        have d0 := (hw.cell (p := ⟨b, off + (k) * 2, none⟩) lb).trans d0
        have d1 := (hw.cell (p := ⟨b, off + (k) * 2 + 1, none⟩) lb).trans d1
        have e0 := (hw.cell (p := ⟨b', off' + (k) * 2, none⟩) lb').trans e0
        have e1 := (hw.cell (p := ⟨b', off' + (k) * 2 + 1, none⟩) lb').trans e1
        generalize hx : xs[k]'(by omega) = x at d0 d1
        generalize hy : ys[k]'(by omega) = y at e0 e1
        rw [cpre_step' (by omega) (by omega) hx hy] at hp
        clear hx hy
        obtain ⟨x1, x2⟩ := x
        obtain ⟨y1, y2⟩ := y
        simp only at d0 d1 e0 e1
        have lbr : b < wr.heap.size := by omega
        have lbr' : b' < wr.heap.size := by omega
        by_cases hxy : ((x1, x2) : Snd) = (y1, y2)
        · have HP := Lib.hid (hp.trans (congrArg (fun z => k + z) (if_pos hxy)))
          obtain ⟨rfl, rfl⟩ := Prod.mk.inj hxy
          cases ha; cases hb
          clear hp hxy
          go_wp2_with fail
          refine wp_gen ?_
          intro W1 hW1
          have hw1 : Below w.heap.size w W1 := by rw [hW1]; go_grown
          have hz1 : wr.heap.size ≤ W1.heap.size := by rw [hW1]; go_size
          have c0 : W1.cell? ⟨b, off + k * 2, none⟩ = some (.int .u32 x1.toNat) := by rw [hW1]; first | assumption | go_cell | (go_simp; done) | exact cell_past (by first | assumption | omega) (by assumption)
          have c1 : W1.cell? ⟨b, off + k * 2 + 1, none⟩ = some (.int .u32 x2.toNat) := by rw [hW1]; first | assumption | go_cell | (go_simp; done) | exact cell_past (by first | assumption | omega) (by assumption)
          have c2 : W1.cell? ⟨b', off' + k * 2, none⟩ = some (.int .u32 x1.toNat) := by rw [hW1]; first | assumption | go_cell | (go_simp; done) | exact cell_past (by first | assumption | omega) (by assumption)
          have c3 : W1.cell? ⟨b', off' + k * 2 + 1, none⟩ = some (.int .u32 x2.toNat) := by rw [hW1]; first | assumption | go_cell | (go_simp; done) | exact cell_past (by first | assumption | omega) (by assumption)
          clear hW1
          have k0 := cell_regrown c0
          have k1 := cell_regrown c1
          have k2 := cell_regrown c2
          have k3 := cell_regrown c3
          refine wp_region_quiet_below (by kernel_rfl) (by kernel_rfl) ?_
          try simp only [List.append]
          repeat (go_big_quiet_step (first | exact Calls.regrown_of ()))
          refine wpQuiet_nil ?_
          intro w2 hw2
          have hb : Below W1.heap.size W1 w2 := by obtain ⟨q, rfl⟩ := hw2; exact below_regrown _ _ _
          clear hw2
          clear k0 k1 k2 k3
          have hw := chain hw1 (by omega) hb
          obtain ⟨hc, hf, hz⟩ := bcell hb
          clear hb
          try have r0 : w2.cell? ⟨b, off + k * 2, none⟩ = some (.int .u32 x1.toNat) := (hc _ _ (by omega)).trans c0
          try have r1 : w2.cell? ⟨b, off + k * 2 + 1, none⟩ = some (.int .u32 x2.toNat) := (hc _ _ (by omega)).trans c1
          try have r2 : w2.cell? ⟨b', off' + k * 2, none⟩ = some (.int .u32 x1.toNat) := (hc _ _ (by omega)).trans c2
          try have r3 : w2.cell? ⟨b', off' + k * 2 + 1, none⟩ = some (.int .u32 x2.toNat) := (hc _ _ (by omega)).trans c3
          go_wp2_with fail
          go_roundw
          case rel => exact ⟨k + 1, by go_num, by have := HP.out; omega, by omega, hw, hw.size⟩
          case measure => simp [intOf]; omega
        · have HN : n = k := (hp.trans (congrArg (fun z => k + z) (if_neg hxy))).trans (Nat.add_zero k)
          have hne := snd_ne hxy
          simp only at hne
          cases ha; cases hb
          clear hp hxy
          have HN' := Lib.hid HN; clear HN
          go_wp2_with fail
          refine wp_gen ?_
          intro W1 hW1
          have hw1 : Below w.heap.size w W1 := by rw [hW1]; go_grown
          have hz1 : wr.heap.size ≤ W1.heap.size := by rw [hW1]; go_size
          have c0 : W1.cell? ⟨b, off + k * 2, none⟩ = some (.int .u32 x1.toNat) := by rw [hW1]; first | assumption | go_cell | (go_simp; done) | exact cell_past (by first | assumption | omega) (by assumption)
          have c1 : W1.cell? ⟨b, off + k * 2 + 1, none⟩ = some (.int .u32 x2.toNat) := by rw [hW1]; first | assumption | go_cell | (go_simp; done) | exact cell_past (by first | assumption | omega) (by assumption)
          have c2 : W1.cell? ⟨b', off' + k * 2, none⟩ = some (.int .u32 y1.toNat) := by rw [hW1]; first | assumption | go_cell | (go_simp; done) | exact cell_past (by first | assumption | omega) (by assumption)
          have c3 : W1.cell? ⟨b', off' + k * 2 + 1, none⟩ = some (.int .u32 y2.toNat) := by rw [hW1]; first | assumption | go_cell | (go_simp; done) | exact cell_past (by first | assumption | omega) (by assumption)
          clear hW1
          have k0 := cell_regrown c0
          have k1 := cell_regrown c1
          have k2 := cell_regrown c2
          have k3 := cell_regrown c3
          refine wp_region_quiet_below (by kernel_rfl) (by kernel_rfl) ?_
          try simp only [List.append]
          repeat (go_big_quiet_step (first | exact Calls.regrown_of ()))
          refine wpQuiet_nil ?_
          intro w2 hw2
          have hb : Below W1.heap.size W1 w2 := by obtain ⟨q, rfl⟩ := hw2; exact below_regrown _ _ _
          clear hw2
          clear k0 k1 k2 k3
          have hw := chain hw1 (by omega) hb
          obtain ⟨hc, hf, hz⟩ := bcell hb
          clear hb
          try have r0 : w2.cell? ⟨b, off + k * 2, none⟩ = some (.int .u32 x1.toNat) := (hc _ _ (by omega)).trans c0
          try have r1 : w2.cell? ⟨b, off + k * 2 + 1, none⟩ = some (.int .u32 x2.toNat) := (hc _ _ (by omega)).trans c1
          try have r2 : w2.cell? ⟨b', off' + k * 2, none⟩ = some (.int .u32 y1.toNat) := (hc _ _ (by omega)).trans c2
          try have r3 : w2.cell? ⟨b', off' + k * 2 + 1, none⟩ = some (.int .u32 y2.toNat) := (hc _ _ (by omega)).trans c3
          have HN := HN'.out
          have HS := HS.out
          subst HN
          have hs0 : m = 0 + cpre ((xs.drop n).reverse.drop 0) ((ys.drop n).reverse.drop 0) := by rw [HS]; simp
          have HS0 := Lib.hid hs0
          clear hs0 HS
          go_wp2_with fail
          go_loopw [8] (fun i w5 => ∃ e : Nat, i = .int .i64 (e : Int) ∧ m = e + cpre ((xs.drop n).reverse.drop e) ((ys.drop n).reverse.drop e) ∧ n + e ≤ ys.length ∧ Below w.heap.size w w5 ∧ w.heap.size ≤ w5.heap.size) (fun i _ => ys.length - (intOf i).toNat)
          case atStart => exact ⟨0, rfl, HS0.out, by omega, hw, hw.size⟩
          case round =>
            clear HS0 hw
            obtain ⟨e, rfl, hp, he, hw, hsz⟩ := hrel
            by_cases hlt2 : n + e < ys.length
            · skip
              obtain ⟨b, off, ha, lb, d0, d1⟩ := H1.out (xs.length - 1 - e) (by omega)
              obtain ⟨b', off', hb, lb', e0, e1⟩ := H2.out (ys.length - 1 - e) (by omega)
              have d0 := (hw.cell (p := ⟨b, off + (xs.length - 1 - e) * 2, none⟩) lb).trans d0
              have d1 := (hw.cell (p := ⟨b, off + (xs.length - 1 - e) * 2 + 1, none⟩) lb).trans d1
              have e0 := (hw.cell (p := ⟨b', off' + (ys.length - 1 - e) * 2, none⟩) lb').trans e0
              have e1 := (hw.cell (p := ⟨b', off' + (ys.length - 1 - e) * 2 + 1, none⟩) lb').trans e1
              generalize hx : xs[xs.length - 1 - e]'(by omega) = x at d0 d1
              generalize hy : ys[ys.length - 1 - e]'(by omega) = y at e0 e1
              rw [csuf_step' (by omega) (by omega) hx hy] at hp
              have hgd : decide ((n : Int) + (e : Int) < (ys.length : Int)) = true := decide_eq_true (by omega)
              clear hx hy
              obtain ⟨x1, x2⟩ := x
              obtain ⟨y1, y2⟩ := y
              simp only at d0 d1 e0 e1
              have lbr : b < wr.heap.size := by omega
              have lbr' : b' < wr.heap.size := by omega
              by_cases hxy : ((x1, x2) : Snd) = (y1, y2)
              · have HP := Lib.hid (hp.trans (congrArg (fun z => e + z) (if_pos hxy)))
                obtain ⟨rfl, rfl⟩ := Prod.mk.inj hxy
                cases ha; cases hb
                clear hp hxy
                go_wp2_with fail
                refine wp_gen ?_
                intro W1 hW1
                have hw1 : Below w.heap.size w W1 := by rw [hW1]; go_grown
                have hz1 : wr.heap.size ≤ W1.heap.size := by rw [hW1]; go_size
                have c0 : W1.cell? ⟨b, off + (xs.length - 1 - e) * 2, none⟩ = some (.int .u32 x1.toNat) := by rw [hW1]; first | assumption | go_cell | (go_simp; done) | exact cell_past (by first | assumption | omega) (by assumption)
                have c1 : W1.cell? ⟨b, off + (xs.length - 1 - e) * 2 + 1, none⟩ = some (.int .u32 x2.toNat) := by rw [hW1]; first | assumption | go_cell | (go_simp; done) | exact cell_past (by first | assumption | omega) (by assumption)
                have c2 : W1.cell? ⟨b', off' + (ys.length - 1 - e) * 2, none⟩ = some (.int .u32 x1.toNat) := by rw [hW1]; first | assumption | go_cell | (go_simp; done) | exact cell_past (by first | assumption | omega) (by assumption)
                have c3 : W1.cell? ⟨b', off' + (ys.length - 1 - e) * 2 + 1, none⟩ = some (.int .u32 x2.toNat) := by rw [hW1]; first | assumption | go_cell | (go_simp; done) | exact cell_past (by first | assumption | omega) (by assumption)
                clear hW1
                have k0 := cell_regrown c0
                have k1 := cell_regrown c1
                have k2 := cell_regrown c2
                have k3 := cell_regrown c3
                refine wp_region_quiet_below (by kernel_rfl) (by kernel_rfl) ?_
                try simp only [List.append]
                repeat (go_big_quiet_step (first | exact Calls.regrown_of ()))
                refine wpQuiet_nil ?_
                intro w2 hw2
                have hb : Below W1.heap.size W1 w2 := by obtain ⟨q, rfl⟩ := hw2; exact below_regrown _ _ _
                clear hw2
                clear k0 k1 k2 k3
                have hw := chain hw1 (by omega) hb
                obtain ⟨hc, hf, hz⟩ := bcell hb
                clear hb
                try have r0 : w2.cell? ⟨b, off + (xs.length - 1 - e) * 2, none⟩ = some (.int .u32 x1.toNat) := (hc _ _ (by omega)).trans c0
                try have r1 : w2.cell? ⟨b, off + (xs.length - 1 - e) * 2 + 1, none⟩ = some (.int .u32 x2.toNat) := (hc _ _ (by omega)).trans c1
                try have r2 : w2.cell? ⟨b', off' + (ys.length - 1 - e) * 2, none⟩ = some (.int .u32 x1.toNat) := (hc _ _ (by omega)).trans c2
                try have r3 : w2.cell? ⟨b', off' + (ys.length - 1 - e) * 2 + 1, none⟩ = some (.int .u32 x2.toNat) := (hc _ _ (by omega)).trans c3
                go_wp2_with fail
                go_roundw
                case rel => exact ⟨e + 1, by go_num, by have := HP.out; omega, by omega, hw, hw.size⟩
                case measure => simp [intOf]; omega
              · have HP := Lib.hid (hp.trans (congrArg (fun z => e + z) (if_neg hxy)))
                have hne := snd_ne hxy
                simp only at hne
                cases ha; cases hb
                clear hp hxy
                go_wp2_with fail
                refine wp_gen ?_
                intro W1 hW1
                have hw1 : Below w.heap.size w W1 := by rw [hW1]; go_grown
                have hz1 : wr.heap.size ≤ W1.heap.size := by rw [hW1]; go_size
                have c0 : W1.cell? ⟨b, off + (xs.length - 1 - e) * 2, none⟩ = some (.int .u32 x1.toNat) := by rw [hW1]; first | assumption | go_cell | (go_simp; done) | exact cell_past (by first | assumption | omega) (by assumption)
                have c1 : W1.cell? ⟨b, off + (xs.length - 1 - e) * 2 + 1, none⟩ = some (.int .u32 x2.toNat) := by rw [hW1]; first | assumption | go_cell | (go_simp; done) | exact cell_past (by first | assumption | omega) (by assumption)
                have c2 : W1.cell? ⟨b', off' + (ys.length - 1 - e) * 2, none⟩ = some (.int .u32 y1.toNat) := by rw [hW1]; first | assumption | go_cell | (go_simp; done) | exact cell_past (by first | assumption | omega) (by assumption)
                have c3 : W1.cell? ⟨b', off' + (ys.length - 1 - e) * 2 + 1, none⟩ = some (.int .u32 y2.toNat) := by rw [hW1]; first | assumption | go_cell | (go_simp; done) | exact cell_past (by first | assumption | omega) (by assumption)
                clear hW1
                have k0 := cell_regrown c0
                have k1 := cell_regrown c1
                have k2 := cell_regrown c2
                have k3 := cell_regrown c3
                refine wp_region_quiet_below (by kernel_rfl) (by kernel_rfl) ?_
                try simp only [List.append]
                repeat (go_big_quiet_step (first | exact Calls.regrown_of ()))
                refine wpQuiet_nil ?_
                intro w2 hw2
                have hb : Below W1.heap.size W1 w2 := by obtain ⟨q, rfl⟩ := hw2; exact below_regrown _ _ _
                clear hw2
                clear k0 k1 k2 k3
                have hw := chain hw1 (by omega) hb
                obtain ⟨hc, hf, hz⟩ := bcell hb
                clear hb
                try have r0 : w2.cell? ⟨b, off + (xs.length - 1 - e) * 2, none⟩ = some (.int .u32 x1.toNat) := (hc _ _ (by omega)).trans c0
                try have r1 : w2.cell? ⟨b, off + (xs.length - 1 - e) * 2 + 1, none⟩ = some (.int .u32 x2.toNat) := (hc _ _ (by omega)).trans c1
                try have r2 : w2.cell? ⟨b', off' + (ys.length - 1 - e) * 2, none⟩ = some (.int .u32 y1.toNat) := (hc _ _ (by omega)).trans c2
                try have r3 : w2.cell? ⟨b', off' + (ys.length - 1 - e) * 2 + 1, none⟩ = some (.int .u32 y2.toNat) := (hc _ _ (by omega)).trans c3
                go_wp2_with fail
                go_ret2
                exact ⟨by have := HP.out; simp only [Nat.add_zero] at this; (rw [this]; try rfl), hw⟩
            · have HP := Lib.hid (hp.trans (congrArg (fun z => e + z) (csuf_end (by omega))))
              have hgd : decide ((n : Int) + (e : Int) < (ys.length : Int)) = false := decide_eq_false (by omega)
              clear hp
              go_wp2_with fail
              refine wp_gen ?_
              intro W1 hW1
              have hw1 : Below w.heap.size w W1 := by rw [hW1]; go_grown
              have hz1 : wr.heap.size ≤ W1.heap.size := by rw [hW1]; go_size
              clear hW1
              refine wp_region_quiet_below (by kernel_rfl) (by kernel_rfl) ?_
              try simp only [List.append]
              repeat (go_big_quiet_step (first | exact Calls.regrown_of ()))
              refine wpQuiet_nil ?_
              intro w2 hw2
              have hb : Below W1.heap.size W1 w2 := by obtain ⟨q, rfl⟩ := hw2; exact below_regrown _ _ _
              clear hw2
              have hw := chain hw1 (by omega) hb
              obtain ⟨hc, hf, hz⟩ := bcell hb
              clear hb
              go_wp2_with fail
              go_ret2
              exact ⟨by have := HP.out; simp only [Nat.add_zero] at this; (rw [this]; try rfl), hw⟩
      · have HN : n = k := (hp.trans (congrArg (fun z => k + z) (cpre_end (by omega)))).trans (Nat.add_zero k)
        clear hp
        have HN' := Lib.hid HN; clear HN
        go_wp2_with fail
        refine wp_gen ?_
        intro W1 hW1
        have hw1 : Below w.heap.size w W1 := by rw [hW1]; go_grown
        have hz1 : wr.heap.size ≤ W1.heap.size := by rw [hW1]; go_size
        clear hW1
        refine wp_region_quiet_below (by kernel_rfl) (by kernel_rfl) ?_
        try simp only [List.append]
        repeat (go_big_quiet_step (first | exact Calls.regrown_of ()))
        refine wpQuiet_nil ?_
        intro w2 hw2
        have hb : Below W1.heap.size W1 w2 := by obtain ⟨q, rfl⟩ := hw2; exact below_regrown _ _ _
        clear hw2
        have hw := chain hw1 (by omega) hb
        obtain ⟨hc, hf, hz⟩ := bcell hb
        clear hb
        have HN := HN'.out
        have HS := HS.out
        subst HN
        have hs0 : m = 0 + cpre ((xs.drop n).reverse.drop 0) ((ys.drop n).reverse.drop 0) := by rw [HS]; simp
        have HS0 := Lib.hid hs0
        clear hs0 HS
        go_wp2_with fail
        go_loopw [8] (fun i w5 => ∃ e : Nat, i = .int .i64 (e : Int) ∧ m = e + cpre ((xs.drop n).reverse.drop e) ((ys.drop n).reverse.drop e) ∧ n + e ≤ ys.length ∧ Below w.heap.size w w5 ∧ w.heap.size ≤ w5.heap.size) (fun i _ => ys.length - (intOf i).toNat)
        case atStart => exact ⟨0, rfl, HS0.out, by omega, hw, hw.size⟩
        case round =>
          clear HS0 hw
          obtain ⟨e, rfl, hp, he, hw, hsz⟩ := hrel
          by_cases hlt2 : n + e < ys.length
          · skip
            obtain ⟨b, off, ha, lb, d0, d1⟩ := H1.out (xs.length - 1 - e) (by omega)
            obtain ⟨b', off', hb, lb', e0, e1⟩ := H2.out (ys.length - 1 - e) (by omega)
            have d0 := (hw.cell (p := ⟨b, off + (xs.length - 1 - e) * 2, none⟩) lb).trans d0
            have d1 := (hw.cell (p := ⟨b, off + (xs.length - 1 - e) * 2 + 1, none⟩) lb).trans d1
            have e0 := (hw.cell (p := ⟨b', off' + (ys.length - 1 - e) * 2, none⟩) lb').trans e0
            have e1 := (hw.cell (p := ⟨b', off' + (ys.length - 1 - e) * 2 + 1, none⟩) lb').trans e1
            generalize hx : xs[xs.length - 1 - e]'(by omega) = x at d0 d1
            generalize hy : ys[ys.length - 1 - e]'(by omega) = y at e0 e1
            rw [csuf_step' (by omega) (by omega) hx hy] at hp
            have hgd : decide ((n : Int) + (e : Int) < (ys.length : Int)) = true := decide_eq_true (by omega)
            clear hx hy
            obtain ⟨x1, x2⟩ := x
            obtain ⟨y1, y2⟩ := y
            simp only at d0 d1 e0 e1
            have lbr : b < wr.heap.size := by omega
            have lbr' : b' < wr.heap.size := by omega
            by_cases hxy : ((x1, x2) : Snd) = (y1, y2)
            · have HP := Lib.hid (hp.trans (congrArg (fun z => e + z) (if_pos hxy)))
              obtain ⟨rfl, rfl⟩ := Prod.mk.inj hxy
              cases ha; cases hb
              clear hp hxy
              go_wp2_with fail
              refine wp_gen ?_
              intro W1 hW1
              have hw1 : Below w.heap.size w W1 := by rw [hW1]; go_grown
              have hz1 : wr.heap.size ≤ W1.heap.size := by rw [hW1]; go_size
              have c0 : W1.cell? ⟨b, off + (xs.length - 1 - e) * 2, none⟩ = some (.int .u32 x1.toNat) := by rw [hW1]; first | assumption | go_cell | (go_simp; done) | exact cell_past (by first | assumption | omega) (by assumption)
              have c1 : W1.cell? ⟨b, off + (xs.length - 1 - e) * 2 + 1, none⟩ = some (.int .u32 x2.toNat) := by rw [hW1]; first | assumption | go_cell | (go_simp; done) | exact cell_past (by first | assumption | omega) (by assumption)
              have c2 : W1.cell? ⟨b', off' + (ys.length - 1 - e) * 2, none⟩ = some (.int .u32 x1.toNat) := by rw [hW1]; first | assumption | go_cell | (go_simp; done) | exact cell_past (by first | assumption | omega) (by assumption)
              have c3 : W1.cell? ⟨b', off' + (ys.length - 1 - e) * 2 + 1, none⟩ = some (.int .u32 x2.toNat) := by rw [hW1]; first | assumption | go_cell | (go_simp; done) | exact cell_past (by first | assumption | omega) (by assumption)
              clear hW1
              have k0 := cell_regrown c0
              have k1 := cell_regrown c1
              have k2 := cell_regrown c2
              have k3 := cell_regrown c3
              refine wp_region_quiet_below (by kernel_rfl) (by kernel_rfl) ?_
              try simp only [List.append]
              repeat (go_big_quiet_step (first | exact Calls.regrown_of ()))
              refine wpQuiet_nil ?_
              intro w2 hw2
              have hb : Below W1.heap.size W1 w2 := by obtain ⟨q, rfl⟩ := hw2; exact below_regrown _ _ _
              clear hw2
              clear k0 k1 k2 k3
              have hw := chain hw1 (by omega) hb
              obtain ⟨hc, hf, hz⟩ := bcell hb
              clear hb
              try have r0 : w2.cell? ⟨b, off + (xs.length - 1 - e) * 2, none⟩ = some (.int .u32 x1.toNat) := (hc _ _ (by omega)).trans c0
              try have r1 : w2.cell? ⟨b, off + (xs.length - 1 - e) * 2 + 1, none⟩ = some (.int .u32 x2.toNat) := (hc _ _ (by omega)).trans c1
              try have r2 : w2.cell? ⟨b', off' + (ys.length - 1 - e) * 2, none⟩ = some (.int .u32 x1.toNat) := (hc _ _ (by omega)).trans c2
              try have r3 : w2.cell? ⟨b', off' + (ys.length - 1 - e) * 2 + 1, none⟩ = some (.int .u32 x2.toNat) := (hc _ _ (by omega)).trans c3
              go_wp2_with fail
              go_roundw
              case rel => exact ⟨e + 1, by go_num, by have := HP.out; omega, by omega, hw, hw.size⟩
              case measure => simp [intOf]; omega
            · have HP := Lib.hid (hp.trans (congrArg (fun z => e + z) (if_neg hxy)))
              have hne := snd_ne hxy
              simp only at hne
              cases ha; cases hb
              clear hp hxy
              go_wp2_with fail
              refine wp_gen ?_
              intro W1 hW1
              have hw1 : Below w.heap.size w W1 := by rw [hW1]; go_grown
              have hz1 : wr.heap.size ≤ W1.heap.size := by rw [hW1]; go_size
              have c0 : W1.cell? ⟨b, off + (xs.length - 1 - e) * 2, none⟩ = some (.int .u32 x1.toNat) := by rw [hW1]; first | assumption | go_cell | (go_simp; done) | exact cell_past (by first | assumption | omega) (by assumption)
              have c1 : W1.cell? ⟨b, off + (xs.length - 1 - e) * 2 + 1, none⟩ = some (.int .u32 x2.toNat) := by rw [hW1]; first | assumption | go_cell | (go_simp; done) | exact cell_past (by first | assumption | omega) (by assumption)
              have c2 : W1.cell? ⟨b', off' + (ys.length - 1 - e) * 2, none⟩ = some (.int .u32 y1.toNat) := by rw [hW1]; first | assumption | go_cell | (go_simp; done) | exact cell_past (by first | assumption | omega) (by assumption)
              have c3 : W1.cell? ⟨b', off' + (ys.length - 1 - e) * 2 + 1, none⟩ = some (.int .u32 y2.toNat) := by rw [hW1]; first | assumption | go_cell | (go_simp; done) | exact cell_past (by first | assumption | omega) (by assumption)
              clear hW1
              have k0 := cell_regrown c0
              have k1 := cell_regrown c1
              have k2 := cell_regrown c2
              have k3 := cell_regrown c3
              refine wp_region_quiet_below (by kernel_rfl) (by kernel_rfl) ?_
              try simp only [List.append]
              repeat (go_big_quiet_step (first | exact Calls.regrown_of ()))
              refine wpQuiet_nil ?_
              intro w2 hw2
              have hb : Below W1.heap.size W1 w2 := by obtain ⟨q, rfl⟩ := hw2; exact below_regrown _ _ _
              clear hw2
              clear k0 k1 k2 k3
              have hw := chain hw1 (by omega) hb
              obtain ⟨hc, hf, hz⟩ := bcell hb
              clear hb
              try have r0 : w2.cell? ⟨b, off + (xs.length - 1 - e) * 2, none⟩ = some (.int .u32 x1.toNat) := (hc _ _ (by omega)).trans c0
              try have r1 : w2.cell? ⟨b, off + (xs.length - 1 - e) * 2 + 1, none⟩ = some (.int .u32 x2.toNat) := (hc _ _ (by omega)).trans c1
              try have r2 : w2.cell? ⟨b', off' + (ys.length - 1 - e) * 2, none⟩ = some (.int .u32 y1.toNat) := (hc _ _ (by omega)).trans c2
              try have r3 : w2.cell? ⟨b', off' + (ys.length - 1 - e) * 2 + 1, none⟩ = some (.int .u32 y2.toNat) := (hc _ _ (by omega)).trans c3
              go_wp2_with fail
              go_ret2
              exact ⟨by have := HP.out; simp only [Nat.add_zero] at this; (rw [this]; try rfl), hw⟩
          · have HP := Lib.hid (hp.trans (congrArg (fun z => e + z) (csuf_end (by omega))))
            have hgd : decide ((n : Int) + (e : Int) < (ys.length : Int)) = false := decide_eq_false (by omega)
            clear hp
            go_wp2_with fail
            refine wp_gen ?_
            intro W1 hW1
            have hw1 : Below w.heap.size w W1 := by rw [hW1]; go_grown
            have hz1 : wr.heap.size ≤ W1.heap.size := by rw [hW1]; go_size
            clear hW1
            refine wp_region_quiet_below (by kernel_rfl) (by kernel_rfl) ?_
            try simp only [List.append]
            repeat (go_big_quiet_step (first | exact Calls.regrown_of ()))
            refine wpQuiet_nil ?_
            intro w2 hw2
            have hb : Below W1.heap.size W1 w2 := by obtain ⟨q, rfl⟩ := hw2; exact below_regrown _ _ _
            clear hw2
            have hw := chain hw1 (by omega) hb
            obtain ⟨hc, hf, hz⟩ := bcell hb
            clear hb
            go_wp2_with fail
            go_ret2
            exact ⟨by have := HP.out; simp only [Nat.add_zero] at this; (rw [this]; try rfl), hw⟩
  · go_enter Try.func22, Try.ntmps22
    go_wp2_with fail
    go_loopw [7] (fun i wr => ∃ k : Nat, i = .int .i64 (k : Int) ∧ n = k + cpre (xs.drop k) (ys.drop k) ∧ k ≤ xs.length ∧ Below w.heap.size w wr ∧ w.heap.size ≤ wr.heap.size) (fun i _ => xs.length - (intOf i).toNat)
    case atStart => exact ⟨0, rfl, HM0.out, by omega, Below.refl _ _, Nat.le_refl _⟩
    case round =>
      clear HM0
      obtain ⟨k, rfl, hp, hk1, hw, hsz⟩ := hrel
      by_cases hlt : k < xs.length
      · skip
        have H1' := H1; have H2' := H2
        obtain ⟨b, off, ha, lb, d0, d1⟩ := H1.out (k) (by omega)
        obtain ⟨b', off', hb, lb', e0, e1⟩ := H2.out (k) (by omega)
        have d0 := (hw.cell (p := ⟨b, off + (k) * 2, none⟩) lb).trans d0
        have d1 := (hw.cell (p := ⟨b, off + (k) * 2 + 1, none⟩) lb).trans d1
        have e0 := (hw.cell (p := ⟨b', off' + (k) * 2, none⟩) lb').trans e0
        have e1 := (hw.cell (p := ⟨b', off' + (k) * 2 + 1, none⟩) lb').trans e1
        generalize hx : xs[k]'(by omega) = x at d0 d1
        generalize hy : ys[k]'(by omega) = y at e0 e1
        rw [cpre_step' (by omega) (by omega) hx hy] at hp
        clear hx hy
        obtain ⟨x1, x2⟩ := x
        obtain ⟨y1, y2⟩ := y
        simp only at d0 d1 e0 e1
        have lbr : b < wr.heap.size := by omega
        have lbr' : b' < wr.heap.size := by omega
        by_cases hxy : ((x1, x2) : Snd) = (y1, y2)
        · have HP := Lib.hid (hp.trans (congrArg (fun z => k + z) (if_pos hxy)))
          obtain ⟨rfl, rfl⟩ := Prod.mk.inj hxy
          cases ha; cases hb
          clear hp hxy
          go_wp2_with fail
          refine wp_gen ?_
          intro W1 hW1
          have hw1 : Below w.heap.size w W1 := by rw [hW1]; go_grown
          have hz1 : wr.heap.size ≤ W1.heap.size := by rw [hW1]; go_size
          have c0 : W1.cell? ⟨b, off + k * 2, none⟩ = some (.int .u32 x1.toNat) := by rw [hW1]; first | assumption | go_cell | (go_simp; done) | exact cell_past (by first | assumption | omega) (by assumption)
          have c1 : W1.cell? ⟨b, off + k * 2 + 1, none⟩ = some (.int .u32 x2.toNat) := by rw [hW1]; first | assumption | go_cell | (go_simp; done) | exact cell_past (by first | assumption | omega) (by assumption)
          have c2 : W1.cell? ⟨b', off' + k * 2, none⟩ = some (.int .u32 x1.toNat) := by rw [hW1]; first | assumption | go_cell | (go_simp; done) | exact cell_past (by first | assumption | omega) (by assumption)
          have c3 : W1.cell? ⟨b', off' + k * 2 + 1, none⟩ = some (.int .u32 x2.toNat) := by rw [hW1]; first | assumption | go_cell | (go_simp; done) | exact cell_past (by first | assumption | omega) (by assumption)
          clear hW1
          have k0 := cell_regrown c0
          have k1 := cell_regrown c1
          have k2 := cell_regrown c2
          have k3 := cell_regrown c3
          refine wp_region_quiet_below (by kernel_rfl) (by kernel_rfl) ?_
          try simp only [List.append]
          repeat (go_big_quiet_step (first | exact Calls.regrown_of ()))
          refine wpQuiet_nil ?_
          intro w2 hw2
          have hb : Below W1.heap.size W1 w2 := by obtain ⟨q, rfl⟩ := hw2; exact below_regrown _ _ _
          clear hw2
          clear k0 k1 k2 k3
          have hw := chain hw1 (by omega) hb
          obtain ⟨hc, hf, hz⟩ := bcell hb
          clear hb
          try have r0 : w2.cell? ⟨b, off + k * 2, none⟩ = some (.int .u32 x1.toNat) := (hc _ _ (by omega)).trans c0
          try have r1 : w2.cell? ⟨b, off + k * 2 + 1, none⟩ = some (.int .u32 x2.toNat) := (hc _ _ (by omega)).trans c1
          try have r2 : w2.cell? ⟨b', off' + k * 2, none⟩ = some (.int .u32 x1.toNat) := (hc _ _ (by omega)).trans c2
          try have r3 : w2.cell? ⟨b', off' + k * 2 + 1, none⟩ = some (.int .u32 x2.toNat) := (hc _ _ (by omega)).trans c3
          go_wp2_with fail
          go_roundw
          case rel => exact ⟨k + 1, by go_num, by have := HP.out; omega, by omega, hw, hw.size⟩
          case measure => simp [intOf]; omega
        · have HN : n = k := (hp.trans (congrArg (fun z => k + z) (if_neg hxy))).trans (Nat.add_zero k)
          have hne := snd_ne hxy
          simp only at hne
          cases ha; cases hb
          clear hp hxy
          have HN' := Lib.hid HN; clear HN
          go_wp2_with fail
          refine wp_gen ?_
          intro W1 hW1
          have hw1 : Below w.heap.size w W1 := by rw [hW1]; go_grown
          have hz1 : wr.heap.size ≤ W1.heap.size := by rw [hW1]; go_size
          have c0 : W1.cell? ⟨b, off + k * 2, none⟩ = some (.int .u32 x1.toNat) := by rw [hW1]; first | assumption | go_cell | (go_simp; done) | exact cell_past (by first | assumption | omega) (by assumption)
          have c1 : W1.cell? ⟨b, off + k * 2 + 1, none⟩ = some (.int .u32 x2.toNat) := by rw [hW1]; first | assumption | go_cell | (go_simp; done) | exact cell_past (by first | assumption | omega) (by assumption)
          have c2 : W1.cell? ⟨b', off' + k * 2, none⟩ = some (.int .u32 y1.toNat) := by rw [hW1]; first | assumption | go_cell | (go_simp; done) | exact cell_past (by first | assumption | omega) (by assumption)
          have c3 : W1.cell? ⟨b', off' + k * 2 + 1, none⟩ = some (.int .u32 y2.toNat) := by rw [hW1]; first | assumption | go_cell | (go_simp; done) | exact cell_past (by first | assumption | omega) (by assumption)
          clear hW1
          have k0 := cell_regrown c0
          have k1 := cell_regrown c1
          have k2 := cell_regrown c2
          have k3 := cell_regrown c3
          refine wp_region_quiet_below (by kernel_rfl) (by kernel_rfl) ?_
          try simp only [List.append]
          repeat (go_big_quiet_step (first | exact Calls.regrown_of ()))
          refine wpQuiet_nil ?_
          intro w2 hw2
          have hb : Below W1.heap.size W1 w2 := by obtain ⟨q, rfl⟩ := hw2; exact below_regrown _ _ _
          clear hw2
          clear k0 k1 k2 k3
          have hw := chain hw1 (by omega) hb
          obtain ⟨hc, hf, hz⟩ := bcell hb
          clear hb
          try have r0 : w2.cell? ⟨b, off + k * 2, none⟩ = some (.int .u32 x1.toNat) := (hc _ _ (by omega)).trans c0
          try have r1 : w2.cell? ⟨b, off + k * 2 + 1, none⟩ = some (.int .u32 x2.toNat) := (hc _ _ (by omega)).trans c1
          try have r2 : w2.cell? ⟨b', off' + k * 2, none⟩ = some (.int .u32 y1.toNat) := (hc _ _ (by omega)).trans c2
          try have r3 : w2.cell? ⟨b', off' + k * 2 + 1, none⟩ = some (.int .u32 y2.toNat) := (hc _ _ (by omega)).trans c3
          have HN := HN'.out
          have HS := HS.out
          subst HN
          have hs0 : m = 0 + cpre ((xs.drop n).reverse.drop 0) ((ys.drop n).reverse.drop 0) := by rw [HS]; simp
          have HS0 := Lib.hid hs0
          clear hs0 HS
          go_wp2_with fail
          go_loopw [8] (fun i w5 => ∃ e : Nat, i = .int .i64 (e : Int) ∧ m = e + cpre ((xs.drop n).reverse.drop e) ((ys.drop n).reverse.drop e) ∧ n + e ≤ xs.length ∧ Below w.heap.size w w5 ∧ w.heap.size ≤ w5.heap.size) (fun i _ => xs.length - (intOf i).toNat)
          case atStart => exact ⟨0, rfl, HS0.out, by omega, hw, hw.size⟩
          case round =>
            clear HS0 hw
            obtain ⟨e, rfl, hp, he, hw, hsz⟩ := hrel
            by_cases hlt2 : n + e < xs.length
            · skip
              obtain ⟨b, off, ha, lb, d0, d1⟩ := H1.out (xs.length - 1 - e) (by omega)
              obtain ⟨b', off', hb, lb', e0, e1⟩ := H2.out (ys.length - 1 - e) (by omega)
              have d0 := (hw.cell (p := ⟨b, off + (xs.length - 1 - e) * 2, none⟩) lb).trans d0
              have d1 := (hw.cell (p := ⟨b, off + (xs.length - 1 - e) * 2 + 1, none⟩) lb).trans d1
              have e0 := (hw.cell (p := ⟨b', off' + (ys.length - 1 - e) * 2, none⟩) lb').trans e0
              have e1 := (hw.cell (p := ⟨b', off' + (ys.length - 1 - e) * 2 + 1, none⟩) lb').trans e1
              generalize hx : xs[xs.length - 1 - e]'(by omega) = x at d0 d1
              generalize hy : ys[ys.length - 1 - e]'(by omega) = y at e0 e1
              rw [csuf_step' (by omega) (by omega) hx hy] at hp
              have hgd : decide ((n : Int) + (e : Int) < (xs.length : Int)) = true := decide_eq_true (by omega)
              clear hx hy
              obtain ⟨x1, x2⟩ := x
              obtain ⟨y1, y2⟩ := y
              simp only at d0 d1 e0 e1
              have lbr : b < wr.heap.size := by omega
              have lbr' : b' < wr.heap.size := by omega
              by_cases hxy : ((x1, x2) : Snd) = (y1, y2)
              · have HP := Lib.hid (hp.trans (congrArg (fun z => e + z) (if_pos hxy)))
                obtain ⟨rfl, rfl⟩ := Prod.mk.inj hxy
                cases ha; cases hb
                clear hp hxy
                go_wp2_with fail
                refine wp_gen ?_
                intro W1 hW1
                have hw1 : Below w.heap.size w W1 := by rw [hW1]; go_grown
                have hz1 : wr.heap.size ≤ W1.heap.size := by rw [hW1]; go_size
                have c0 : W1.cell? ⟨b, off + (xs.length - 1 - e) * 2, none⟩ = some (.int .u32 x1.toNat) := by rw [hW1]; first | assumption | go_cell | (go_simp; done) | exact cell_past (by first | assumption | omega) (by assumption)
                have c1 : W1.cell? ⟨b, off + (xs.length - 1 - e) * 2 + 1, none⟩ = some (.int .u32 x2.toNat) := by rw [hW1]; first | assumption | go_cell | (go_simp; done) | exact cell_past (by first | assumption | omega) (by assumption)
                have c2 : W1.cell? ⟨b', off' + (ys.length - 1 - e) * 2, none⟩ = some (.int .u32 x1.toNat) := by rw [hW1]; first | assumption | go_cell | (go_simp; done) | exact cell_past (by first | assumption | omega) (by assumption)
                have c3 : W1.cell? ⟨b', off' + (ys.length - 1 - e) * 2 + 1, none⟩ = some (.int .u32 x2.toNat) := by rw [hW1]; first | assumption | go_cell | (go_simp; done) | exact cell_past (by first | assumption | omega) (by assumption)
                clear hW1
                have k0 := cell_regrown c0
                have k1 := cell_regrown c1
                have k2 := cell_regrown c2
                have k3 := cell_regrown c3
                refine wp_region_quiet_below (by kernel_rfl) (by kernel_rfl) ?_
                try simp only [List.append]
                repeat (go_big_quiet_step (first | exact Calls.regrown_of ()))
                refine wpQuiet_nil ?_
                intro w2 hw2
                have hb : Below W1.heap.size W1 w2 := by obtain ⟨q, rfl⟩ := hw2; exact below_regrown _ _ _
                clear hw2
                clear k0 k1 k2 k3
                have hw := chain hw1 (by omega) hb
                obtain ⟨hc, hf, hz⟩ := bcell hb
                clear hb
                try have r0 : w2.cell? ⟨b, off + (xs.length - 1 - e) * 2, none⟩ = some (.int .u32 x1.toNat) := (hc _ _ (by omega)).trans c0
                try have r1 : w2.cell? ⟨b, off + (xs.length - 1 - e) * 2 + 1, none⟩ = some (.int .u32 x2.toNat) := (hc _ _ (by omega)).trans c1
                try have r2 : w2.cell? ⟨b', off' + (ys.length - 1 - e) * 2, none⟩ = some (.int .u32 x1.toNat) := (hc _ _ (by omega)).trans c2
                try have r3 : w2.cell? ⟨b', off' + (ys.length - 1 - e) * 2 + 1, none⟩ = some (.int .u32 x2.toNat) := (hc _ _ (by omega)).trans c3
                go_wp2_with fail
                go_roundw
                case rel => exact ⟨e + 1, by go_num, by have := HP.out; omega, by omega, hw, hw.size⟩
                case measure => simp [intOf]; omega
              · have HP := Lib.hid (hp.trans (congrArg (fun z => e + z) (if_neg hxy)))
                have hne := snd_ne hxy
                simp only at hne
                cases ha; cases hb
                clear hp hxy
                go_wp2_with fail
                refine wp_gen ?_
                intro W1 hW1
                have hw1 : Below w.heap.size w W1 := by rw [hW1]; go_grown
                have hz1 : wr.heap.size ≤ W1.heap.size := by rw [hW1]; go_size
                have c0 : W1.cell? ⟨b, off + (xs.length - 1 - e) * 2, none⟩ = some (.int .u32 x1.toNat) := by rw [hW1]; first | assumption | go_cell | (go_simp; done) | exact cell_past (by first | assumption | omega) (by assumption)
                have c1 : W1.cell? ⟨b, off + (xs.length - 1 - e) * 2 + 1, none⟩ = some (.int .u32 x2.toNat) := by rw [hW1]; first | assumption | go_cell | (go_simp; done) | exact cell_past (by first | assumption | omega) (by assumption)
                have c2 : W1.cell? ⟨b', off' + (ys.length - 1 - e) * 2, none⟩ = some (.int .u32 y1.toNat) := by rw [hW1]; first | assumption | go_cell | (go_simp; done) | exact cell_past (by first | assumption | omega) (by assumption)
                have c3 : W1.cell? ⟨b', off' + (ys.length - 1 - e) * 2 + 1, none⟩ = some (.int .u32 y2.toNat) := by rw [hW1]; first | assumption | go_cell | (go_simp; done) | exact cell_past (by first | assumption | omega) (by assumption)
                clear hW1
                have k0 := cell_regrown c0
                have k1 := cell_regrown c1
                have k2 := cell_regrown c2
                have k3 := cell_regrown c3
                refine wp_region_quiet_below (by kernel_rfl) (by kernel_rfl) ?_
                try simp only [List.append]
                repeat (go_big_quiet_step (first | exact Calls.regrown_of ()))
                refine wpQuiet_nil ?_
                intro w2 hw2
                have hb : Below W1.heap.size W1 w2 := by obtain ⟨q, rfl⟩ := hw2; exact below_regrown _ _ _
                clear hw2
                clear k0 k1 k2 k3
                have hw := chain hw1 (by omega) hb
                obtain ⟨hc, hf, hz⟩ := bcell hb
                clear hb
                try have r0 : w2.cell? ⟨b, off + (xs.length - 1 - e) * 2, none⟩ = some (.int .u32 x1.toNat) := (hc _ _ (by omega)).trans c0
                try have r1 : w2.cell? ⟨b, off + (xs.length - 1 - e) * 2 + 1, none⟩ = some (.int .u32 x2.toNat) := (hc _ _ (by omega)).trans c1
                try have r2 : w2.cell? ⟨b', off' + (ys.length - 1 - e) * 2, none⟩ = some (.int .u32 y1.toNat) := (hc _ _ (by omega)).trans c2
                try have r3 : w2.cell? ⟨b', off' + (ys.length - 1 - e) * 2 + 1, none⟩ = some (.int .u32 y2.toNat) := (hc _ _ (by omega)).trans c3
                go_wp2_with fail
                go_ret2
                exact ⟨by have := HP.out; simp only [Nat.add_zero] at this; (rw [this]; try rfl), hw⟩
            · have HP := Lib.hid (hp.trans (congrArg (fun z => e + z) (csuf_end (by omega))))
              have hgd : decide ((n : Int) + (e : Int) < (xs.length : Int)) = false := decide_eq_false (by omega)
              clear hp
              go_wp2_with fail
              refine wp_gen ?_
              intro W1 hW1
              have hw1 : Below w.heap.size w W1 := by rw [hW1]; go_grown
              have hz1 : wr.heap.size ≤ W1.heap.size := by rw [hW1]; go_size
              clear hW1
              refine wp_region_quiet_below (by kernel_rfl) (by kernel_rfl) ?_
              try simp only [List.append]
              repeat (go_big_quiet_step (first | exact Calls.regrown_of ()))
              refine wpQuiet_nil ?_
              intro w2 hw2
              have hb : Below W1.heap.size W1 w2 := by obtain ⟨q, rfl⟩ := hw2; exact below_regrown _ _ _
              clear hw2
              have hw := chain hw1 (by omega) hb
              obtain ⟨hc, hf, hz⟩ := bcell hb
              clear hb
              go_wp2_with fail
              go_ret2
              exact ⟨by have := HP.out; simp only [Nat.add_zero] at this; (rw [this]; try rfl), hw⟩
      · have HN : n = k := (hp.trans (congrArg (fun z => k + z) (cpre_end (by omega)))).trans (Nat.add_zero k)
        clear hp
        have HN' := Lib.hid HN; clear HN
        go_wp2_with fail
        refine wp_gen ?_
        intro W1 hW1
        have hw1 : Below w.heap.size w W1 := by rw [hW1]; go_grown
        have hz1 : wr.heap.size ≤ W1.heap.size := by rw [hW1]; go_size
        clear hW1
        refine wp_region_quiet_below (by kernel_rfl) (by kernel_rfl) ?_
        try simp only [List.append]
        repeat (go_big_quiet_step (first | exact Calls.regrown_of ()))
        refine wpQuiet_nil ?_
        intro w2 hw2
        have hb : Below W1.heap.size W1 w2 := by obtain ⟨q, rfl⟩ := hw2; exact below_regrown _ _ _
        clear hw2
        have hw := chain hw1 (by omega) hb
        obtain ⟨hc, hf, hz⟩ := bcell hb
        clear hb
        have HN := HN'.out
        have HS := HS.out
        subst HN
        have hs0 : m = 0 + cpre ((xs.drop n).reverse.drop 0) ((ys.drop n).reverse.drop 0) := by rw [HS]; simp
        have HS0 := Lib.hid hs0
        clear hs0 HS
        go_wp2_with fail
        go_loopw [8] (fun i w5 => ∃ e : Nat, i = .int .i64 (e : Int) ∧ m = e + cpre ((xs.drop n).reverse.drop e) ((ys.drop n).reverse.drop e) ∧ n + e ≤ xs.length ∧ Below w.heap.size w w5 ∧ w.heap.size ≤ w5.heap.size) (fun i _ => xs.length - (intOf i).toNat)
        case atStart => exact ⟨0, rfl, HS0.out, by omega, hw, hw.size⟩
        case round =>
          clear HS0 hw
          obtain ⟨e, rfl, hp, he, hw, hsz⟩ := hrel
          by_cases hlt2 : n + e < xs.length
          · skip
            obtain ⟨b, off, ha, lb, d0, d1⟩ := H1.out (xs.length - 1 - e) (by omega)
            obtain ⟨b', off', hb, lb', e0, e1⟩ := H2.out (ys.length - 1 - e) (by omega)
            have d0 := (hw.cell (p := ⟨b, off + (xs.length - 1 - e) * 2, none⟩) lb).trans d0
            have d1 := (hw.cell (p := ⟨b, off + (xs.length - 1 - e) * 2 + 1, none⟩) lb).trans d1
            have e0 := (hw.cell (p := ⟨b', off' + (ys.length - 1 - e) * 2, none⟩) lb').trans e0
            have e1 := (hw.cell (p := ⟨b', off' + (ys.length - 1 - e) * 2 + 1, none⟩) lb').trans e1
            generalize hx : xs[xs.length - 1 - e]'(by omega) = x at d0 d1
            generalize hy : ys[ys.length - 1 - e]'(by omega) = y at e0 e1
            rw [csuf_step' (by omega) (by omega) hx hy] at hp
            have hgd : decide ((n : Int) + (e : Int) < (xs.length : Int)) = true := decide_eq_true (by omega)
            clear hx hy
            obtain ⟨x1, x2⟩ := x
            obtain ⟨y1, y2⟩ := y
            simp only at d0 d1 e0 e1
            have lbr : b < wr.heap.size := by omega
            have lbr' : b' < wr.heap.size := by omega
            by_cases hxy : ((x1, x2) : Snd) = (y1, y2)
            · have HP := Lib.hid (hp.trans (congrArg (fun z => e + z) (if_pos hxy)))
              obtain ⟨rfl, rfl⟩ := Prod.mk.inj hxy
              cases ha; cases hb
              clear hp hxy
              go_wp2_with fail
              refine wp_gen ?_
              intro W1 hW1
              have hw1 : Below w.heap.size w W1 := by rw [hW1]; go_grown
              have hz1 : wr.heap.size ≤ W1.heap.size := by rw [hW1]; go_size
              have c0 : W1.cell? ⟨b, off + (xs.length - 1 - e) * 2, none⟩ = some (.int .u32 x1.toNat) := by rw [hW1]; first | assumption | go_cell | (go_simp; done) | exact cell_past (by first | assumption | omega) (by assumption)
              have c1 : W1.cell? ⟨b, off + (xs.length - 1 - e) * 2 + 1, none⟩ = some (.int .u32 x2.toNat) := by rw [hW1]; first | assumption | go_cell | (go_simp; done) | exact cell_past (by first | assumption | omega) (by assumption)
              have c2 : W1.cell? ⟨b', off' + (ys.length - 1 - e) * 2, none⟩ = some (.int .u32 x1.toNat) := by rw [hW1]; first | assumption | go_cell | (go_simp; done) | exact cell_past (by first | assumption | omega) (by assumption)
              have c3 : W1.cell? ⟨b', off' + (ys.length - 1 - e) * 2 + 1, none⟩ = some (.int .u32 x2.toNat) := by rw [hW1]; first | assumption | go_cell | (go_simp; done) | exact cell_past (by first | assumption | omega) (by assumption)
              clear hW1
              have k0 := cell_regrown c0
              have k1 := cell_regrown c1
              have k2 := cell_regrown c2
              have k3 := cell_regrown c3
              refine wp_region_quiet_below (by kernel_rfl) (by kernel_rfl) ?_
              try simp only [List.append]
              repeat (go_big_quiet_step (first | exact Calls.regrown_of ()))
              refine wpQuiet_nil ?_
              intro w2 hw2
              have hb : Below W1.heap.size W1 w2 := by obtain ⟨q, rfl⟩ := hw2; exact below_regrown _ _ _
              clear hw2
              clear k0 k1 k2 k3
              have hw := chain hw1 (by omega) hb
              obtain ⟨hc, hf, hz⟩ := bcell hb
              clear hb
              try have r0 : w2.cell? ⟨b, off + (xs.length - 1 - e) * 2, none⟩ = some (.int .u32 x1.toNat) := (hc _ _ (by omega)).trans c0
              try have r1 : w2.cell? ⟨b, off + (xs.length - 1 - e) * 2 + 1, none⟩ = some (.int .u32 x2.toNat) := (hc _ _ (by omega)).trans c1
              try have r2 : w2.cell? ⟨b', off' + (ys.length - 1 - e) * 2, none⟩ = some (.int .u32 x1.toNat) := (hc _ _ (by omega)).trans c2
              try have r3 : w2.cell? ⟨b', off' + (ys.length - 1 - e) * 2 + 1, none⟩ = some (.int .u32 x2.toNat) := (hc _ _ (by omega)).trans c3
              go_wp2_with fail
              go_roundw
              case rel => exact ⟨e + 1, by go_num, by have := HP.out; omega, by omega, hw, hw.size⟩
              case measure => simp [intOf]; omega
            · have HP := Lib.hid (hp.trans (congrArg (fun z => e + z) (if_neg hxy)))
              have hne := snd_ne hxy
              simp only at hne
              cases ha; cases hb
              clear hp hxy
              go_wp2_with fail
              refine wp_gen ?_
              intro W1 hW1
              have hw1 : Below w.heap.size w W1 := by rw [hW1]; go_grown
              have hz1 : wr.heap.size ≤ W1.heap.size := by rw [hW1]; go_size
              have c0 : W1.cell? ⟨b, off + (xs.length - 1 - e) * 2, none⟩ = some (.int .u32 x1.toNat) := by rw [hW1]; first | assumption | go_cell | (go_simp; done) | exact cell_past (by first | assumption | omega) (by assumption)
              have c1 : W1.cell? ⟨b, off + (xs.length - 1 - e) * 2 + 1, none⟩ = some (.int .u32 x2.toNat) := by rw [hW1]; first | assumption | go_cell | (go_simp; done) | exact cell_past (by first | assumption | omega) (by assumption)
              have c2 : W1.cell? ⟨b', off' + (ys.length - 1 - e) * 2, none⟩ = some (.int .u32 y1.toNat) := by rw [hW1]; first | assumption | go_cell | (go_simp; done) | exact cell_past (by first | assumption | omega) (by assumption)
              have c3 : W1.cell? ⟨b', off' + (ys.length - 1 - e) * 2 + 1, none⟩ = some (.int .u32 y2.toNat) := by rw [hW1]; first | assumption | go_cell | (go_simp; done) | exact cell_past (by first | assumption | omega) (by assumption)
              clear hW1
              have k0 := cell_regrown c0
              have k1 := cell_regrown c1
              have k2 := cell_regrown c2
              have k3 := cell_regrown c3
              refine wp_region_quiet_below (by kernel_rfl) (by kernel_rfl) ?_
              try simp only [List.append]
              repeat (go_big_quiet_step (first | exact Calls.regrown_of ()))
              refine wpQuiet_nil ?_
              intro w2 hw2
              have hb : Below W1.heap.size W1 w2 := by obtain ⟨q, rfl⟩ := hw2; exact below_regrown _ _ _
              clear hw2
              clear k0 k1 k2 k3
              have hw := chain hw1 (by omega) hb
              obtain ⟨hc, hf, hz⟩ := bcell hb
              clear hb
              try have r0 : w2.cell? ⟨b, off + (xs.length - 1 - e) * 2, none⟩ = some (.int .u32 x1.toNat) := (hc _ _ (by omega)).trans c0
              try have r1 : w2.cell? ⟨b, off + (xs.length - 1 - e) * 2 + 1, none⟩ = some (.int .u32 x2.toNat) := (hc _ _ (by omega)).trans c1
              try have r2 : w2.cell? ⟨b', off' + (ys.length - 1 - e) * 2, none⟩ = some (.int .u32 y1.toNat) := (hc _ _ (by omega)).trans c2
              try have r3 : w2.cell? ⟨b', off' + (ys.length - 1 - e) * 2 + 1, none⟩ = some (.int .u32 y2.toNat) := (hc _ _ (by omega)).trans c3
              go_wp2_with fail
              go_ret2
              exact ⟨by have := HP.out; simp only [Nat.add_zero] at this; (rw [this]; try rfl), hw⟩
          · have HP := Lib.hid (hp.trans (congrArg (fun z => e + z) (csuf_end (by omega))))
            have hgd : decide ((n : Int) + (e : Int) < (xs.length : Int)) = false := decide_eq_false (by omega)
            clear hp
            go_wp2_with fail
            refine wp_gen ?_
            intro W1 hW1
            have hw1 : Below w.heap.size w W1 := by rw [hW1]; go_grown
            have hz1 : wr.heap.size ≤ W1.heap.size := by rw [hW1]; go_size
            clear hW1
            refine wp_region_quiet_below (by kernel_rfl) (by kernel_rfl) ?_
            try simp only [List.append]
            repeat (go_big_quiet_step (first | exact Calls.regrown_of ()))
            refine wpQuiet_nil ?_
            intro w2 hw2
            have hb : Below W1.heap.size W1 w2 := by obtain ⟨q, rfl⟩ := hw2; exact below_regrown _ _ _
            clear hw2
            have hw := chain hw1 (by omega) hb
            obtain ⟨hc, hf, hz⟩ := bcell hb
            clear hb
            go_wp2_with fail
            go_ret2
            exact ⟨by have := HP.out; simp only [Nat.add_zero] at this; (rw [this]; try rfl), hw⟩
end Go.Proofs.Ytfjngkdpembdcaa
