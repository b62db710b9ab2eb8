/-
  WordRuns, walked.
-/
import Derived.Test.YthokpgnenlfnjaaHx
import Derived.Test.YthokpgnenlfnjaaRb
namespace Go.Proofs.Ythokpgnenlfnjaa
open Go.RowKit Go.Sort
attribute [local go_sem ↓] snd_eql snd_neq
theorem Rn.open {w : World} {v : Value} {l : List (Nat × Nat)} (h : Rn w v l) : ∃ ao cap, v = .slice ao l.length cap ∧ l.length ≤ 9223372036854775807 ∧ ∀ i (h : i < l.length), ∃ b, ao = some ⟨b, 0, none⟩ ∧ b < w.heap.size ∧ w.cell? ⟨b, i * 2, none⟩ = some (.int .i64 (l[i].1 : Int)) ∧ w.cell? ⟨b, i * 2 + 1, none⟩ = some (.int .i64 (l[i].2 : Int)) := by
  rcases h with ⟨rfl, rfl⟩ | ⟨b, cap, rfl, c1, m1, lb, h3⟩
  · exact ⟨none, 0, rfl, by simp, fun i h => by simp at h⟩
  · exact ⟨_, cap, rfl, maxLen_lt (Nat.le_trans c1 m1), fun i h => ⟨b, rfl, lb, h3 i h⟩⟩
theorem Wd.cells {w : World} {v : Value} {ss : List Snd} (h : Wd w v ss) : ∃ ao cap, v = .slice ao ss.length cap ∧ ss.length ≤ 9223372036854775807 ∧ ∀ i (h : i < ss.length), ∃ b off, ao = some ⟨b, off, none⟩ ∧ b < w.heap.size ∧ w.cell? ⟨b, off + i * 2, none⟩ = some (.int .u32 (ss[i].1.toNat : Int)) ∧ w.cell? ⟨b, off + i * 2 + 1, none⟩ = some (.int .u32 (ss[i].2.toNat : Int)) := by
  obtain ⟨ao, cap, hv, c1, m1, H⟩ := h.open
  exact ⟨ao, cap, hv, maxLen_lt (Nat.le_trans c1 m1), H⟩
theorem get_eq {xs : List Snd} {a b : Nat} (ha : a < xs.length) (hb : b < xs.length) (h : xs[a]? = xs[b]?) : xs[a] = xs[b] := by
  rw [List.getElem?_eq_getElem ha, List.getElem?_eq_getElem hb] at h
  exact Option.some.inj h
theorem get_ne {xs : List Snd} {a b : Nat} (ha : a < xs.length) (hb : b < xs.length) (h : xs[a]? ≠ xs[b]?) : ¬ xs[a] = xs[b] := fun e => h (by rw [List.getElem?_eq_getElem ha, List.getElem?_eq_getElem hb, e])
set_option maxRecDepth 100000 in
set_option maxHeartbeats 8000000 in
theorem runsLaw_any (xs : List Snd) (v : Value) (w0 : World) (ha : Wd w0 v xs) : Gives 12 #[v] w0 (.bool true) := by
  unfold Gives
  have hw := Below.refl w0.heap.size w0
  by_cases h1 : xs.length ≤ 100
  · have hR := wRuns_any xs v (by omega) w0 ha
    have DA := Lib.hid ha
    obtain ⟨ao, ac, hv, l1, -⟩ := ha.cells
    subst hv
    have HR := Lib.hid hR
    clear ha hR
    go_enter Try.func12, Try.ntmps12
    go_wp2_with fail
    go_at_call 35
    refine HR.out.mono ?_
    rintro e w ⟨vr, l, rfl, ho, hch0, hb⟩
    have hwl := Lib.hid hb
    obtain ⟨ar, cr, hv, lr, HL⟩ := ho.rn.open
    subst hv
    obtain ⟨_, _, hva, -, HX⟩ := (DA.out.below hb).cells
    cases hva
    have HL := Lib.hid HL; have HX := Lib.hid HX
    have HC0 := Lib.hid hch0
    clear ho hb hch0 hw HR
    go_wp2_with fail
    go_loopw [5, 4] (fun s t wr => ∃ (i a : Nat), s = .int .i64 (i : Int) ∧ t = .int .i64 (a : Int) ∧ i ≤ l.length ∧ Chain xs (l.drop i) a xs.length ∧ (0 < a → a < xs.length → xs[a]? ≠ xs[a - 1]?) ∧ Below w.heap.size w wr ∧ w.heap.size ≤ wr.heap.size) (fun s _ _ => l.length - (intOf s).toNat)
    case atStart => exact ⟨0, 0, rfl, rfl, by omega, HC0.out, fun h => by omega, Below.refl _ _, Nat.le_refl _⟩
    case round =>
      clear HC0
      obtain ⟨i, a, rfl, rfl, hi, hch, hbd, hw, hsz⟩ := hrel
      by_cases hlt : i < l.length
      · obtain ⟨b, har, lb, c0, c1⟩ := HL.out i hlt
        have c0 := (hw.cell (p := ⟨b, i * 2, none⟩) lb).trans c0
        have c1 := (hw.cell (p := ⟨b, i * 2 + 1, none⟩) lb).trans c1
        rw [List.drop_eq_getElem_cons hlt] at hch
        generalize l[i] = x at *
        obtain ⟨p, q⟩ := x
        obtain ⟨e1, e2, e3, e4, e5, e6⟩ := hch
        simp only at e1 e2 e3 e4 e5 e6 c0 c1
        subst e1
        have E4 := Lib.hid e4; have E6 := Lib.hid e6; have HBD := Lib.hid hbd
        have BD : Hid (0 < q → q < xs.length → xs[q]? ≠ xs[q - 1]?) := Lib.hid (fun _ hq => by
          rw [E4.out (q - 1) (by omega) (by omega)]; exact e5 hq)
        have lbr : b < wr.heap.size := by omega
        have g1 : decide ((q : Int) ≤ (p : Int)) = false := decide_eq_false (by omega)
        have g2 : decide ((xs.length : Int) < (q : Int)) = false := decide_eq_false (by omega)
        have g1n : decide (q ≤ p) = false := decide_eq_false (by omega)
        have g2n : decide (xs.length < q) = false := decide_eq_false (by omega)
        have hp1 : p < xs.length := by omega
        clear e4 e5 e6 hbd
        cases har
        go_wp2_with fail
        refine wp_gen ?_
        intro W1 hW1
        have hw1 : Below w.heap.size w W1 := by rw [hW1]; go_grown
        have hz1 : wr.heap.size ≤ W1.heap.size := by rw [hW1]; go_size
        have c0 : W1.cell? ⟨b, i * 2, none⟩ = some (.int .i64 (p : Int)) := by rw [hW1]; first | assumption | go_cell | (go_simp; done) | exact cell_past (by first | assumption | omega) (by assumption)
        have c1 : W1.cell? ⟨b, i * 2 + 1, none⟩ = some (.int .i64 (q : Int)) := by rw [hW1]; first | assumption | go_cell | (go_simp; done) | exact cell_past (by first | assumption | omega) (by assumption)
        clear hW1
        have k0 := cell_regrown c0
        have k1 := cell_regrown c1
        refine wp_region_quiet_below (by kernel_rfl) (by kernel_rfl) ?_
        try simp only [List.append]
        repeat (go_big_quiet_step (first | exact Calls.regrown_of ()))
        refine wpQuiet_nil ?_
        intro w2 hw2
        have hb : Below W1.heap.size W1 w2 := by obtain ⟨q, rfl⟩ := hw2; exact below_regrown _ _ _
        clear hw2
        clear k0 k1
        have hw := chain hw1 (by omega) hb
        obtain ⟨hc, hf, hz⟩ := bcell hb
        clear hb
        try have r0 : w2.cell? ⟨b, i * 2, none⟩ = some (.int .i64 (p : Int)) := (hc _ _ (by omega)).trans c0
        try have r1 : w2.cell? ⟨b, i * 2 + 1, none⟩ = some (.int .i64 (q : Int)) := (hc _ _ (by omega)).trans c1
        clear c0 c1 r0 r1
        by_cases hp0 : 0 < p
        · have hne0 := get_ne hp1 (by omega) (HBD.out hp0 hp1)
          obtain ⟨bx, ox, hax, lx, d0, d1⟩ := HX.out p hp1
          obtain ⟨by', oy, hay, ly, f0, f1⟩ := HX.out (p - 1) (by omega)
          have d0 := (hw.cell (p := ⟨bx, ox + p * 2, none⟩) lx).trans d0
          have d1 := (hw.cell (p := ⟨bx, ox + p * 2 + 1, none⟩) lx).trans d1
          have f0 := (hw.cell (p := ⟨by', oy + (p - 1) * 2, none⟩) ly).trans f0
          have f1 := (hw.cell (p := ⟨by', oy + (p - 1) * 2 + 1, none⟩) ly).trans f1
          generalize xs[p] = x at d0 d1 hne0
          generalize xs[p - 1]'(by omega) = y at f0 f1 hne0
          have hne := snd_ne hne0
          obtain ⟨x1, x2⟩ := x
          obtain ⟨y1, y2⟩ := y
          simp only at d0 d1 f0 f1 hne
          have lxr : bx < wr.heap.size := by omega
          have lyr : by' < wr.heap.size := by omega
          have g3 : decide ((0 : Int) < (p : Int)) = true := decide_eq_true (by omega)
          have g3n : decide (0 < p) = true := decide_eq_true (by omega)
          have hap : ao = some ⟨bx, ox, none⟩ := hax
          have hay' := hap.symm.trans hay
          cases hay'
          have hgoal := hap
          clear hne0 hay
          subst hgoal
          clear hax hap
          go_wp2_with fail
          refine wp_gen ?_
          intro W1 hW1
          have hw1 : Below w.heap.size w W1 := by rw [hW1]; go_grown
          have hz1 : wr.heap.size ≤ W1.heap.size := by rw [hW1]; go_size
          have c0 : W1.cell? ⟨bx, ox + p * 2, none⟩ = some (.int .u32 x1.toNat) := by rw [hW1]; first | assumption | go_cell | (go_simp; done) | exact cell_past (by first | assumption | omega) (by assumption)
          have c1 : W1.cell? ⟨bx, ox + p * 2 + 1, none⟩ = some (.int .u32 x2.toNat) := by rw [hW1]; first | assumption | go_cell | (go_simp; done) | exact cell_past (by first | assumption | omega) (by assumption)
          have c2 : W1.cell? ⟨bx, ox + (p - 1) * 2, none⟩ = some (.int .u32 y1.toNat) := by rw [hW1]; first | assumption | go_cell | (go_simp; done) | exact cell_past (by first | assumption | omega) (by assumption)
          have c3 : W1.cell? ⟨bx, ox + (p - 1) * 2 + 1, none⟩ = some (.int .u32 y2.toNat) := by rw [hW1]; first | assumption | go_cell | (go_simp; done) | exact cell_past (by first | assumption | omega) (by assumption)
          clear hW1
          have k0 := cell_regrown c0
          have k1 := cell_regrown c1
          have k2 := cell_regrown c2
          have k3 := cell_regrown c3
          refine wp_region_quiet_below (by kernel_rfl) (by kernel_rfl) ?_
          try simp only [List.append]
          repeat (go_big_quiet_step (first | exact Calls.regrown_of ()))
          refine wpQuiet_nil ?_
          intro w2 hw2
          have hb : Below W1.heap.size W1 w2 := by obtain ⟨q, rfl⟩ := hw2; exact below_regrown _ _ _
          clear hw2
          clear k0 k1 k2 k3
          have hw := chain hw1 (by omega) hb
          obtain ⟨hc, hf, hz⟩ := bcell hb
          clear hb
          try have r0 : w2.cell? ⟨bx, ox + p * 2, none⟩ = some (.int .u32 x1.toNat) := (hc _ _ (by omega)).trans c0
          try have r1 : w2.cell? ⟨bx, ox + p * 2 + 1, none⟩ = some (.int .u32 x2.toNat) := (hc _ _ (by omega)).trans c1
          try have r2 : w2.cell? ⟨bx, ox + (p - 1) * 2, none⟩ = some (.int .u32 y1.toNat) := (hc _ _ (by omega)).trans c2
          try have r3 : w2.cell? ⟨bx, ox + (p - 1) * 2 + 1, none⟩ = some (.int .u32 y2.toNat) := (hc _ _ (by omega)).trans c3
          clear d0 d1 f0 f1 hne g3
          clear HBD
          go_wp2_with fail
          go_loopw [8] (fun j w4 => ∃ k : Nat, j = .int .i64 (k : Int) ∧ p ≤ k ∧ k ≤ q ∧ Below w.heap.size w w4 ∧ w.heap.size ≤ w4.heap.size) (fun j _ => q - (intOf j).toNat)
          case atStart => exact ⟨p, rfl, Nat.le_refl _, by omega, hw, hw.size⟩
          case round =>
            clear hw
            obtain ⟨k, rfl, hk1, hk2, hw, hsz⟩ := hrel
            by_cases hkq : k < q
            · have ek := get_eq (by omega) hp1 (E4.out k hk1 hkq)
              obtain ⟨bx, ox, hax, lx, d0, d1⟩ := HX.out k (by omega)
              obtain ⟨by', oy, hay, ly, f0, f1⟩ := HX.out p hp1
              rw [ek] at d0 d1
              have d0 := (hw.cell (p := ⟨bx, ox + k * 2, none⟩) lx).trans d0
              have d1 := (hw.cell (p := ⟨bx, ox + k * 2 + 1, none⟩) lx).trans d1
              have f0 := (hw.cell (p := ⟨by', oy + p * 2, none⟩) ly).trans f0
              have f1 := (hw.cell (p := ⟨by', oy + p * 2 + 1, none⟩) ly).trans f1
              generalize xs[p] = x at d0 d1 f0 f1
              obtain ⟨x1, x2⟩ := x
              simp only at d0 d1 f0 f1
              have lxr : bx < wr.heap.size := by omega
              have lyr : by' < wr.heap.size := by omega
              cases hax; cases hay
              clear ek HX
              go_wp2_with fail
              refine wp_gen ?_
              intro W1 hW1
              have hw1 : Below w.heap.size w W1 := by rw [hW1]; go_grown
              have hz1 : wr.heap.size ≤ W1.heap.size := by rw [hW1]; go_size
              have c0 : W1.cell? ⟨bx, ox + k * 2, none⟩ = some (.int .u32 x1.toNat) := by rw [hW1]; first | assumption | go_cell | (go_simp; done) | exact cell_past (by first | assumption | omega) (by assumption)
              have c1 : W1.cell? ⟨bx, ox + k * 2 + 1, none⟩ = some (.int .u32 x2.toNat) := by rw [hW1]; first | assumption | go_cell | (go_simp; done) | exact cell_past (by first | assumption | omega) (by assumption)
              have c2 : W1.cell? ⟨bx, ox + p * 2, none⟩ = some (.int .u32 x1.toNat) := by rw [hW1]; first | assumption | go_cell | (go_simp; done) | exact cell_past (by first | assumption | omega) (by assumption)
              have c3 : W1.cell? ⟨bx, ox + p * 2 + 1, none⟩ = some (.int .u32 x2.toNat) := by rw [hW1]; first | assumption | go_cell | (go_simp; done) | exact cell_past (by first | assumption | omega) (by assumption)
              clear hW1
              have k0 := cell_regrown c0
              have k1 := cell_regrown c1
              have k2 := cell_regrown c2
              have k3 := cell_regrown c3
              refine wp_region_quiet_below (by kernel_rfl) (by kernel_rfl) ?_
              try simp only [List.append]
              repeat (go_big_quiet_step (first | exact Calls.regrown_of ()))
              refine wpQuiet_nil ?_
              intro w2 hw2
              have hb : Below W1.heap.size W1 w2 := by obtain ⟨q, rfl⟩ := hw2; exact below_regrown _ _ _
              clear hw2
              clear k0 k1 k2 k3
              have hw := chain hw1 (by omega) hb
              obtain ⟨hc, hf, hz⟩ := bcell hb
              clear hb
              try have r0 : w2.cell? ⟨bx, ox + k * 2, none⟩ = some (.int .u32 x1.toNat) := (hc _ _ (by omega)).trans c0
              try have r1 : w2.cell? ⟨bx, ox + k * 2 + 1, none⟩ = some (.int .u32 x2.toNat) := (hc _ _ (by omega)).trans c1
              try have r2 : w2.cell? ⟨bx, ox + p * 2, none⟩ = some (.int .u32 x1.toNat) := (hc _ _ (by omega)).trans c2
              try have r3 : w2.cell? ⟨bx, ox + p * 2 + 1, none⟩ = some (.int .u32 x2.toNat) := (hc _ _ (by omega)).trans c3
              go_wp2_with fail
              go_roundw
              case rel => exact ⟨k + 1, by go_num, by omega, by omega, hw, hw.size⟩
              case measure => simp [intOf]; omega
            · go_wp2_with fail
              go_roundw
              case rel => exact ⟨i + 1, q, by go_num, rfl, by omega, E6.out, BD.out, hw, hw.size⟩
              case measure => simp [intOf]; omega
        · have g3 : decide ((0 : Int) < (p : Int)) = false := decide_eq_false (by omega)
          have g3n : decide (0 < p) = false := decide_eq_false (by omega)
          go_wp2_with fail
          refine wp_gen ?_
          intro W1 hW1
          have hw1 : Below w.heap.size w W1 := by rw [hW1]; go_grown
          have hz1 : wr.heap.size ≤ W1.heap.size := by rw [hW1]; go_size
          clear hW1
          refine wp_region_quiet_below (by kernel_rfl) (by kernel_rfl) ?_
          try simp only [List.append]
          repeat (go_big_quiet_step (first | exact Calls.regrown_of ()))
          refine wpQuiet_nil ?_
          intro w2 hw2
          have hb : Below W1.heap.size W1 w2 := by obtain ⟨q, rfl⟩ := hw2; exact below_regrown _ _ _
          clear hw2
          have hw := chain hw1 (by omega) hb
          obtain ⟨hc, hf, hz⟩ := bcell hb
          clear hb
          clear g3
          clear HBD
          go_wp2_with fail
          go_loopw [8] (fun j w4 => ∃ k : Nat, j = .int .i64 (k : Int) ∧ p ≤ k ∧ k ≤ q ∧ Below w.heap.size w w4 ∧ w.heap.size ≤ w4.heap.size) (fun j _ => q - (intOf j).toNat)
          case atStart => exact ⟨p, rfl, Nat.le_refl _, by omega, hw, hw.size⟩
          case round =>
            clear hw
            obtain ⟨k, rfl, hk1, hk2, hw, hsz⟩ := hrel
            by_cases hkq : k < q
            · have ek := get_eq (by omega) hp1 (E4.out k hk1 hkq)
              obtain ⟨bx, ox, hax, lx, d0, d1⟩ := HX.out k (by omega)
              obtain ⟨by', oy, hay, ly, f0, f1⟩ := HX.out p hp1
              rw [ek] at d0 d1
              have d0 := (hw.cell (p := ⟨bx, ox + k * 2, none⟩) lx).trans d0
              have d1 := (hw.cell (p := ⟨bx, ox + k * 2 + 1, none⟩) lx).trans d1
              have f0 := (hw.cell (p := ⟨by', oy + p * 2, none⟩) ly).trans f0
              have f1 := (hw.cell (p := ⟨by', oy + p * 2 + 1, none⟩) ly).trans f1
              generalize xs[p] = x at d0 d1 f0 f1
              obtain ⟨x1, x2⟩ := x
              simp only at d0 d1 f0 f1
              have lxr : bx < wr.heap.size := by omega
              have lyr : by' < wr.heap.size := by omega
              cases hax; cases hay
              clear ek HX
              go_wp2_with fail
              refine wp_gen ?_
              intro W1 hW1
              have hw1 : Below w.heap.size w W1 := by rw [hW1]; go_grown
              have hz1 : wr.heap.size ≤ W1.heap.size := by rw [hW1]; go_size
              have c0 : W1.cell? ⟨bx, ox + k * 2, none⟩ = some (.int .u32 x1.toNat) := by rw [hW1]; first | assumption | go_cell | (go_simp; done) | exact cell_past (by first | assumption | omega) (by assumption)
              have c1 : W1.cell? ⟨bx, ox + k * 2 + 1, none⟩ = some (.int .u32 x2.toNat) := by rw [hW1]; first | assumption | go_cell | (go_simp; done) | exact cell_past (by first | assumption | omega) (by assumption)
              have c2 : W1.cell? ⟨bx, ox + p * 2, none⟩ = some (.int .u32 x1.toNat) := by rw [hW1]; first | assumption | go_cell | (go_simp; done) | exact cell_past (by first | assumption | omega) (by assumption)
              have c3 : W1.cell? ⟨bx, ox + p * 2 + 1, none⟩ = some (.int .u32 x2.toNat) := by rw [hW1]; first | assumption | go_cell | (go_simp; done) | exact cell_past (by first | assumption | omega) (by assumption)
              clear hW1
              have k0 := cell_regrown c0
              have k1 := cell_regrown c1
              have k2 := cell_regrown c2
              have k3 := cell_regrown c3
              refine wp_region_quiet_below (by kernel_rfl) (by kernel_rfl) ?_
              try simp only [List.append]
              repeat (go_big_quiet_step (first | exact Calls.regrown_of ()))
              refine wpQuiet_nil ?_
              intro w2 hw2
              have hb : Below W1.heap.size W1 w2 := by obtain ⟨q, rfl⟩ := hw2; exact below_regrown _ _ _
              clear hw2
              clear k0 k1 k2 k3
              have hw := chain hw1 (by omega) hb
              obtain ⟨hc, hf, hz⟩ := bcell hb
              clear hb
              try have r0 : w2.cell? ⟨bx, ox + k * 2, none⟩ = some (.int .u32 x1.toNat) := (hc _ _ (by omega)).trans c0
              try have r1 : w2.cell? ⟨bx, ox + k * 2 + 1, none⟩ = some (.int .u32 x2.toNat) := (hc _ _ (by omega)).trans c1
              try have r2 : w2.cell? ⟨bx, ox + p * 2, none⟩ = some (.int .u32 x1.toNat) := (hc _ _ (by omega)).trans c2
              try have r3 : w2.cell? ⟨bx, ox + p * 2 + 1, none⟩ = some (.int .u32 x2.toNat) := (hc _ _ (by omega)).trans c3
              go_wp2_with fail
              go_roundw
              case rel => exact ⟨k + 1, by go_num, by omega, by omega, hw, hw.size⟩
              case measure => simp [intOf]; omega
            · go_wp2_with fail
              go_roundw
              case rel => exact ⟨i + 1, q, by go_num, rfl, by omega, E6.out, BD.out, hw, hw.size⟩
              case measure => simp [intOf]; omega
      · obtain rfl : i = l.length := by omega
        rw [List.drop_length] at hch
        have hae : a = xs.length := hch
        subst hae
        clear hch hbd HX HL
        have h9 := Below.refl wr.heap.size wr
        go_wp2_with (go_at_call 15; with_reducible refine Gives.then (works_any _) ?_; intro w9 hb; have h9 := h9.trans (hb.mono h9.size); clear hb)
        go_returns
        exact ⟨by first | rfl | (simp; done), hwl.out.trans ((hw.trans (h9.mono hw.size)).mono hwl.out.size)⟩
  · obtain ⟨ao, ac, hv, l1, -⟩ := ha.cells
    subst hv
    clear ha
    go_enter Try.func12, Try.ntmps12
    go_wp2_with (go_at_call 15; with_reducible refine Gives.then (works_any _) ?_; intro w1 hb; have hw := hw.trans (hb.mono hw.size); clear hb)
    go_returns
    exact ⟨rfl, hw⟩
end Go.Proofs.Ythokpgnenlfnjaa
