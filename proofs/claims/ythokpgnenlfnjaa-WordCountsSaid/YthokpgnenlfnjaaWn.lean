/-
  WordCounts, walked.
-/
import Derived.Test.YthokpgnenlfnjaaHx
import Derived.Test.YthokpgnenlfnjaaRc
import Derived.Test.YthokpgnenlfnjaaCo
namespace Go.Proofs.Ythokpgnenlfnjaa
open Go.RowKit Go.Sort
theorem eqRun (a b c d : Int) (w : World) : (Op.equalIn (9999 + 1) 42 (.agg #[.int .i64 a, .int .i64 b]) (.agg #[.int .i64 c, .int .i64 d])).run Try.prog w = .ok (a == c && b == d) w := by
  have hu := Try.underlying3
  have hg := Try.isAgg3
  have hz := Try.sizeOf3
  rw [Op.equalIn]
  simp only [Sem.run_bind, run_underlying Try.underlying42, Result.andThen_ok]
  simp only [Std.Legacy.Range.forIn_eq_forIn_range', Std.Legacy.Range.size, Nat.sub_zero, Nat.add_sub_cancel, Nat.div_one, List.range'_succ, List.range'_zero, List.forIn_cons, List.forIn_nil]
  go_simp
  by_cases h1 : a = c
  · by_cases h2 : b = d
    · simp [h1, h2]
    · simp [h1, h2]
  · simp [h1]
theorem run_neql (a b c d : Int) (w : World) : (binOp .neq 42 (.agg #[.int .i64 a, .int .i64 b]) (.agg #[.int .i64 c, .int .i64 d])).run Try.prog w = .ok (.bool (!(a == c && b == d))) w := by
  rw [run_neq_struct, eqRun]; rfl
attribute [local go_sem ↓] run_neql
set_option maxRecDepth 100000 in
set_option maxHeartbeats 8000000 in
theorem counts_any (xs : List Snd) (v : Value) (c d : BitVec 32) (w0 : World) (ha : Wd w0 v xs) : Gives 6 #[v, sn c.toNat d.toNat] w0 (.bool true) := by
  unfold Gives
  have DA := Lib.hid ha
  obtain ⟨ao, ac, hv, l1, -⟩ := ha.cells
  subst hv
  clear ha
  by_cases h1 : xs.length ≤ 300
  · go_enter Try.func6, Try.ntmps6
    go_wp2_with fail
    generalize hwB : w0.alloc (.cells #[.int .u32 (c.toNat : Int), .int .u32 (d.toNat : Int)] 32) = wB
    have hBw : Below w0.heap.size w0 wB := by rw [← hwB]; go_grown
    have hBs : wB.heap.size = w0.heap.size + 1 := by rw [← hwB, World.size_alloc]
    have k0 : wB.cell? ⟨w0.heap.size, 0, none⟩ = some (.int .u32 (c.toNat : Int)) := by rw [← hwB]; exact cell_block (World.alloc_heap_new w0 _) rfl
    have k1 : wB.cell? ⟨w0.heap.size, 1, none⟩ = some (.int .u32 (d.toNat : Int)) := by rw [← hwB]; exact cell_block (World.alloc_heap_new w0 _) rfl
    clear hwB
    have DB := Lib.hid (DA.out.below hBw)
    go_wp2_with fail
    go_at_call 35
    refine (wRuns_any xs _ (by omega) wB DB.out).mono ?_
    rintro e w1 ⟨v1, l, rfl, ho1, hc1, hb1⟩
    obtain ⟨_, _, _, hv1⟩ := ho1.form
    subst hv1
    have HO1 := Lib.hid ho1; have HC1 := Lib.hid hc1
    clear ho1 hc1
    go_wp2_with fail
    go_at_call 36
    refine (rRuns_any xs _ (by omega) w1 (DB.out.below hb1)).mono ?_
    rintro e w ⟨v2, m, rfl, ho2, hc2, hb2⟩
    obtain rfl : m = l := Chain.one _ _ _ _ hc2 HC1.out
    have ho1 := HO1.out.below hb2
    have hbw := hb1.trans (hb2.mono hb1.size)
    obtain ⟨a1, n1, hv1, lr, HL1⟩ := ho1.rn.open
    obtain ⟨a2, n2, hv2, -, HL2⟩ := ho2.rn.open
    cases hv1
    cases hv2
    have k0 := (hbw.cell (p := ⟨w0.heap.size, 0, none⟩) (by simp only []; omega)).trans k0
    have k1 := (hbw.cell (p := ⟨w0.heap.size, 1, none⟩) (by simp only []; omega)).trans k1
    have D := Lib.hid (DB.out.below hbw)
    have hwl := Lib.hid (hBw.trans (hbw.mono hBw.size))
    have HL1 := Lib.hid HL1; have HL2 := Lib.hid HL2
    have K0 := Lib.hid k0; have K1 := Lib.hid k1
    have hbs : w0.heap.size < w.heap.size := by have := hbw.size; omega
    clear HO1 HC1 ho1 ho2 hc2 hb1 hb2 hbw hBw k0 k1 DB hBs
    go_wp2_with fail
    go_loopw [7] (fun s wr => ∃ i : Nat, s = .int .i64 (i : Int) ∧ i ≤ m.length ∧ Below w.heap.size w wr ∧ w.heap.size ≤ wr.heap.size) (fun s _ => m.length - (intOf s).toNat)
    case atStart => exact ⟨0, rfl, by omega, Below.refl _ _, Nat.le_refl _⟩
    case round =>
      obtain ⟨i, rfl, hi, hw, hsz⟩ := hrel
      by_cases hlt : i < m.length
      · obtain ⟨b, har, lb, d0, d1⟩ := HL1.out i hlt
        obtain ⟨b', har', lb', e0, e1⟩ := HL2.out i hlt
        have d0 := (hw.cell (p := ⟨b, i * 2, none⟩) lb).trans d0
        have d1 := (hw.cell (p := ⟨b, i * 2 + 1, none⟩) lb).trans d1
        have e0 := (hw.cell (p := ⟨b', i * 2, none⟩) lb').trans e0
        have e1 := (hw.cell (p := ⟨b', i * 2 + 1, none⟩) lb').trans e1
        generalize m[i] = x at d0 d1 e0 e1
        obtain ⟨p, q⟩ := x
        simp only at d0 d1 e0 e1
        have lbr : b < wr.heap.size := by omega
        have lbr' : b' < wr.heap.size := by omega
        cases har; cases har'
        clear HL1 HL2
        go_wp2_with fail
        refine wp_gen ?_
        intro W1 hW1
        have hw1 : Below w.heap.size w W1 := by rw [hW1]; go_grown
        have hz1 : wr.heap.size ≤ W1.heap.size := by rw [hW1]; go_size
        have c0 : W1.cell? ⟨b, i * 2, none⟩ = some (.int .i64 (p : Int)) := by rw [hW1]; first | assumption | go_cell | (go_simp; done) | exact cell_past (by first | assumption | omega) (by assumption)
        have c1 : W1.cell? ⟨b, i * 2 + 1, none⟩ = some (.int .i64 (q : Int)) := by rw [hW1]; first | assumption | go_cell | (go_simp; done) | exact cell_past (by first | assumption | omega) (by assumption)
        have c2 : W1.cell? ⟨b', i * 2, none⟩ = some (.int .i64 (p : Int)) := by rw [hW1]; first | assumption | go_cell | (go_simp; done) | exact cell_past (by first | assumption | omega) (by assumption)
        have c3 : W1.cell? ⟨b', i * 2 + 1, none⟩ = some (.int .i64 (q : Int)) := by rw [hW1]; first | assumption | go_cell | (go_simp; done) | exact cell_past (by first | assumption | omega) (by assumption)
        clear hW1
        have k0 := cell_regrown c0
        have k1 := cell_regrown c1
        have k2 := cell_regrown c2
        have k3 := cell_regrown c3
        refine wp_region_quiet_below (by kernel_rfl) (by kernel_rfl) ?_
        try simp only [List.append]
        repeat (go_big_quiet_step (first | exact Calls.regrown_of ()))
        refine wpQuiet_nil ?_
        intro w2 hw2
        have hb : Below W1.heap.size W1 w2 := by obtain ⟨q, rfl⟩ := hw2; exact below_regrown _ _ _
        clear hw2
        clear k0 k1 k2 k3
        have hw := chain hw1 (by omega) hb
        obtain ⟨hc, hf, hz⟩ := bcell hb
        clear hb
        try have r0 : w2.cell? ⟨b, i * 2, none⟩ = some (.int .i64 (p : Int)) := (hc _ _ (by omega)).trans c0
        try have r1 : w2.cell? ⟨b, i * 2 + 1, none⟩ = some (.int .i64 (q : Int)) := (hc _ _ (by omega)).trans c1
        try have r2 : w2.cell? ⟨b', i * 2, none⟩ = some (.int .i64 (p : Int)) := (hc _ _ (by omega)).trans c2
        try have r3 : w2.cell? ⟨b', i * 2 + 1, none⟩ = some (.int .i64 (q : Int)) := (hc _ _ (by omega)).trans c3
        go_wp2_with fail
        go_roundw
        case rel => exact ⟨i + 1, by go_num, by omega, hw, hw.size⟩
        case measure => simp [intOf]; omega
      · clear HL1 HL2
        have k0 := (hw.cell (p := ⟨w0.heap.size, 0, none⟩) hbs).trans K0.out
        have k1 := (hw.cell (p := ⟨w0.heap.size, 1, none⟩) hbs).trans K1.out
        obtain ⟨N, hN⟩ : ∃ N, cnt xs (c, d) = N := ⟨_, rfl⟩
        have HN := Lib.hid hN
        have lbw : w0.heap.size < wr.heap.size := by omega
        clear hN
        go_wp2_with fail
        refine wp_gen ?_
        intro W1 hW1
        have hw1 : Below w.heap.size w W1 := by rw [hW1]; go_grown
        have hz1 : wr.heap.size ≤ W1.heap.size := by rw [hW1]; go_size
        have c0 : W1.cell? ⟨w0.heap.size, 0, none⟩ = some (.int .u32 (c.toNat : Int)) := by rw [hW1]; first | assumption | go_cell | (go_simp; done) | exact cell_past (by first | assumption | omega) (by assumption)
        have c1 : W1.cell? ⟨w0.heap.size, 1, none⟩ = some (.int .u32 (d.toNat : Int)) := by rw [hW1]; first | assumption | go_cell | (go_simp; done) | exact cell_past (by first | assumption | omega) (by assumption)
        clear hW1
        have k0 := cell_regrown c0
        have k1 := cell_regrown c1
        refine wp_region_quiet_below (by kernel_rfl) (by kernel_rfl) ?_
        try simp only [List.append]
        repeat (go_big_quiet_step (first | (go_at_call 37; with_reducible exact Calls.regrown_of (Gives.eq (count_any xs _ c d _ (D.out.below (hw1.trans ((below_regrown _ _ _).mono hw1.size)))) rfl (v' := .int .i64 (N : Int)) (by rw [HN.out]))) | (go_at_call 38; with_reducible exact Calls.regrown_of (Gives.eq (rcount_any xs _ c d _ (D.out.below (hw1.trans ((below_regrown _ _ _).mono hw1.size)))) rfl (v' := .int .i64 (N : Int)) (by rw [HN.out]))) | (go_at_call 15; with_reducible exact Calls.regrown_of (works_any _))))
        refine wpQuiet_nil ?_
        intro w2 hw2
        have hb : Below W1.heap.size W1 w2 := by obtain ⟨q, rfl⟩ := hw2; exact below_regrown _ _ _
        clear hw2
        clear k0 k1
        have hw := chain hw1 (by omega) hb
        obtain ⟨hc, hf, hz⟩ := bcell hb
        clear hb
        try have r0 : w2.cell? ⟨w0.heap.size, 0, none⟩ = some (.int .u32 (c.toNat : Int)) := (hc _ _ (by omega)).trans c0
        try have r1 : w2.cell? ⟨w0.heap.size, 1, none⟩ = some (.int .u32 (d.toNat : Int)) := (hc _ _ (by omega)).trans c1
        go_wp2_with fail
        go_returns
        exact ⟨by first | rfl | (simp; done), hwl.out.trans (hw.mono hwl.out.size)⟩
  · have hw := Below.refl w0.heap.size w0
    go_enter Try.func6, Try.ntmps6
    go_wp2_with (go_at_call 15; with_reducible refine Gives.then (works_any _) ?_; intro w1 hb; have hw := chain (B := w0.heap.size) (a := w0) (by go_grown) (by go_size) hb)
    go_returns
    exact ⟨rfl, hw⟩
end Go.Proofs.Ythokpgnenlfnjaa
