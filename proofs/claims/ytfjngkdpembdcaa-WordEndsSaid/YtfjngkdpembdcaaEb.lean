/-
  WordEnds, walked.
-/
import Derived.Test.YtfjngkdpembdcaaEa
import Derived.Deep.RegionHeld3
namespace Go.Proofs.Ytfjngkdpembdcaa
open Go.RowKit Go.Sort
theorem eqRun (a b c d : Int) (w : World) : (Op.equalIn (9999 + 1) 45 (.agg #[.int .i64 a, .int .i64 b]) (.agg #[.int .i64 c, .int .i64 d])).run Try.prog w = .ok (a == c && b == d) w := by
  have hu := Try.underlying3
  have hg := Try.isAgg3
  have hz := Try.sizeOf3
  rw [Op.equalIn]
  simp only [Sem.run_bind, run_underlying Try.underlying45, Result.andThen_ok]
  simp only [Std.Legacy.Range.forIn_eq_forIn_range', Std.Legacy.Range.size, Nat.sub_zero, Nat.add_sub_cancel, Nat.div_one, List.range'_succ, List.range'_zero, List.forIn_cons, List.forIn_nil]
  go_simp
  by_cases h1 : a = c
  · by_cases h2 : b = d
    · simp [h1, h2]
    · simp [h1, h2]
  · simp [h1]
theorem run_neql (a b c d : Int) (w : World) : (binOp .neq 45 (.agg #[.int .i64 a, .int .i64 b]) (.agg #[.int .i64 c, .int .i64 d])).run Try.prog w = .ok (.bool (!(a == c && b == d))) w := by
  rw [run_neq_struct, eqRun]; rfl
attribute [local go_sem ↓] run_neql
theorem calls_gen {P : Program} {f : Nat} {args : Array Value} {W : World} {Q : Ending → World → Prop} (h : ∀ W1, W1 = W → Calls P f args W1 Q) : Calls P f args W Q := h W rfl
theorem Wd.alloc {w : World} {v : Value} {ss : List Snd} (h : Wd w v ss) (o : Obj) : Wd (w.alloc o) v ss := h.below ((Below.refl _ w).alloc (Nat.le_refl _) o)
theorem chB {w W w1 : World} (h : Below w.heap.size w W) (hb : Below W.heap.size W w1) : Below w.heap.size w w1 := h.trans (hb.mono h.size)
theorem keepB {w W : World} {b : Nat} {u v : Value} (q0 : w.cell? ⟨b, 0, none⟩ = some u) (q1 : w.cell? ⟨b, 1, none⟩ = some v) (lb : b < w.heap.size) (h : Below w.heap.size w W) : W.cell? ⟨b, 0, none⟩ = some u ∧ W.cell? ⟨b, 1, none⟩ = some v ∧ Below w.heap.size w W := ⟨(h.cell (p := ⟨b, 0, none⟩) lb).trans q0, (h.cell (p := ⟨b, 1, none⟩) lb).trans q1, h⟩
theorem five_words (w0 W : World) (hW : W = ((((w0.alloc (.cells (Array.replicate 64 (.int .u32 0)) 32)).alloc (.cells (Array.replicate 66 (.int .u32 0)) 32)).alloc (.cells #[.int .u32 16777216, .int .u32 0] 32)).alloc (.cells #[.int .u32 3, .int .u32 2] 32)).alloc (.cells #[.int .u32 8388608, .int .u32 0] 32)) :
    Wd W (.slice (some ⟨w0.heap.size, 0, none⟩) 32 32) wLong ∧ Wd W (.slice (some ⟨w0.heap.size + 1, 0, none⟩) 33 33) wOver ∧ Wd W (.slice (some ⟨w0.heap.size + 1 + 1, 0, none⟩) 1 1) wBad ∧ Wd W (.slice (some ⟨w0.heap.size + 1 + 1 + 1, 0, none⟩) 1 1) wBoth ∧ Wd W (.slice (some ⟨w0.heap.size + 1 + 1 + 1 + 1, 0, none⟩) 1 1) wLast ∧ Below w0.heap.size w0 W ∧ w0.heap.size + 1 + 1 < W.heap.size ∧ W.cell? ⟨w0.heap.size + 1 + 1, 0, none⟩ = some (.int .u32 16777216) ∧ W.cell? ⟨w0.heap.size + 1 + 1, 1, none⟩ = some (.int .u32 0) := by
  subst hW
  have h1 := make_words 32 w0 (by decide)
  have h2 := make_words 33 (w0.alloc (.cells (Array.replicate 64 (.int .u32 0)) 32)) (by decide)
  have h3 := make_one 16777216#32 0#32 ((w0.alloc (.cells (Array.replicate 64 (.int .u32 0)) 32)).alloc (.cells (Array.replicate 66 (.int .u32 0)) 32))
  have h4 := make_one 3#32 2#32 (((w0.alloc (.cells (Array.replicate 64 (.int .u32 0)) 32)).alloc (.cells (Array.replicate 66 (.int .u32 0)) 32)).alloc (.cells #[.int .u32 16777216, .int .u32 0] 32))
  have h5 := make_one 8388608#32 0#32 ((((w0.alloc (.cells (Array.replicate 64 (.int .u32 0)) 32)).alloc (.cells (Array.replicate 66 (.int .u32 0)) 32)).alloc (.cells #[.int .u32 16777216, .int .u32 0] 32)).alloc (.cells #[.int .u32 3, .int .u32 2] 32))
  simp only [World.size_alloc] at h2 h3 h4 h5
  have b3 := ((h3.alloc (.cells #[.int .u32 3, .int .u32 2] 32)).alloc (.cells #[.int .u32 8388608, .int .u32 0] 32))
  have hB : Below w0.heap.size w0 (((((w0.alloc (.cells (Array.replicate 64 (.int .u32 0)) 32)).alloc (.cells (Array.replicate 66 (.int .u32 0)) 32)).alloc (.cells #[.int .u32 16777216, .int .u32 0] 32)).alloc (.cells #[.int .u32 3, .int .u32 2] 32)).alloc (.cells #[.int .u32 8388608, .int .u32 0] 32)) := by
    have h := Below.refl w0.heap.size w0
    have h := h.alloc h.size (.cells (Array.replicate 64 (.int .u32 0)) 32)
    have h := h.alloc h.size (.cells (Array.replicate 66 (.int .u32 0)) 32)
    have h := h.alloc h.size (.cells #[.int .u32 16777216, .int .u32 0] 32)
    have h := h.alloc h.size (.cells #[.int .u32 3, .int .u32 2] 32)
    exact h.alloc h.size _
  refine ⟨((((h1.alloc _).alloc _).alloc _).alloc _), (((h2.alloc _).alloc _).alloc _), b3, h4.alloc _, h5, hB, by simp only [World.size_alloc]; omega, ?_, ?_⟩
  all_goals (
    rcases b3 with ⟨e | ⟨_, e⟩, _⟩ | ⟨_, _, _, e, -, -, -, h⟩
    · cases e
    · simp at e
    · simp only [Value.slice.injEq, Option.some.injEq, Addr.mk.injEq, and_true] at e
      obtain ⟨⟨rfl, rfl⟩, _, rfl⟩ := e
      have h := h 0 (by decide)
      first | exact h.1 | exact h.2)
set_option maxRecDepth 100000 in
set_option maxHeartbeats 16000000 in
theorem ends_any (w0 : World) : Gives 5 #[] w0 (.bool true) := by
  unfold Gives
  have hmk1 : ∀ w, Sem.run Try.prog (Instr.makeSlice 24 (Value.int IntKind.i64 32) (Value.int IntKind.i64 32)) w = .ok (.slice (some ⟨w.heap.size, 0, none⟩) 32 32) (w.alloc (.cells (Array.replicate 64 (.int .u32 0)) 32)) := fun _ => by kernel_rfl
  have hmk2 : ∀ w, Sem.run Try.prog (Instr.makeSlice 24 (Value.int IntKind.i64 33) (Value.int IntKind.i64 33)) w = .ok (.slice (some ⟨w.heap.size, 0, none⟩) 33 33) (w.alloc (.cells (Array.replicate 66 (.int .u32 0)) 32)) := fun _ => by kernel_rfl
  have hmk3 : ∀ w, Sem.run Try.prog (Instr.makeSlice 22 (Value.int IntKind.i64 256) (Value.int IntKind.i64 256)) w = .ok (.slice (some ⟨w.heap.size, 0, none⟩) 256 256) (w.alloc (.cells (Array.replicate 256 (.slice none 0 0)) 24)) := fun _ => by kernel_rfl
  have hmk4 : ∀ w, Sem.run Try.prog (Instr.makeSlice 22 (Value.int IntKind.i64 257) (Value.int IntKind.i64 257)) w = .ok (.slice (some ⟨w.heap.size, 0, none⟩) 257 257) (w.alloc (.cells (Array.replicate 257 (.slice none 0 0)) 24)) := fun _ => by kernel_rfl
  go_enter Try.func5, Try.ntmps5
  go_wp2_with fail
  refine calls_gen ?_
  intro w1 hw1
  obtain ⟨dL, dO, dB, d2, dT, hw, lb, q0, q1⟩ := five_words w0 w1 hw1
  clear hw1 hmk1 hmk2
  obtain ⟨bb, hbb⟩ : ∃ b, b = w0.heap.size + 1 + 1 := ⟨_, rfl⟩
  obtain ⟨bo, hbo⟩ : ∃ b, b = w0.heap.size + 1 := ⟨_, rfl⟩
  rw [← hbo] at hbb
  simp only [← hbo, ← hbb] at *
  clear hbo hbb
  go_wp2_with (first | (go_at_call 11; (with_reducible refine Gives.then (e_long _ _ dL) ?_); intro w1 hb; have dL := dL.below hb; have dO := dO.below hb; have dB := dB.below hb; have d2 := d2.below hb; have dT := dT.below hb; have q0 := (hb.cell (p := ⟨bb, 0, none⟩) lb).trans q0; have q1 := (hb.cell (p := ⟨bb, 1, none⟩) lb).trans q1; have lb := Nat.lt_of_lt_of_le lb hb.size; have hw := hw.trans (hb.mono hw.size); clear hb) | (go_at_call 11; (with_reducible refine Gives.then (e_over _ _ dO) ?_); intro w1 hb; have dL := dL.below hb; have dO := dO.below hb; have dB := dB.below hb; have d2 := d2.below hb; have dT := dT.below hb; have q0 := (hb.cell (p := ⟨bb, 0, none⟩) lb).trans q0; have q1 := (hb.cell (p := ⟨bb, 1, none⟩) lb).trans q1; have lb := Nat.lt_of_lt_of_le lb hb.size; have hw := hw.trans (hb.mono hw.size); clear hb) | (go_at_call 11; (with_reducible refine Gives.then (e_bad _ _ dB) ?_); intro w1 hb; have dL := dL.below hb; have dO := dO.below hb; have dB := dB.below hb; have d2 := d2.below hb; have dT := dT.below hb; have q0 := (hb.cell (p := ⟨bb, 0, none⟩) lb).trans q0; have q1 := (hb.cell (p := ⟨bb, 1, none⟩) lb).trans q1; have lb := Nat.lt_of_lt_of_le lb hb.size; have hw := hw.trans (hb.mono hw.size); clear hb) | (go_at_call 11; (with_reducible refine Gives.then (e_both _ _ d2) ?_); intro w1 hb; have dL := dL.below hb; have dO := dO.below hb; have dB := dB.below hb; have d2 := d2.below hb; have dT := dT.below hb; have q0 := (hb.cell (p := ⟨bb, 0, none⟩) lb).trans q0; have q1 := (hb.cell (p := ⟨bb, 1, none⟩) lb).trans q1; have lb := Nat.lt_of_lt_of_le lb hb.size; have hw := hw.trans (hb.mono hw.size); clear hb) | (go_at_call 11; (with_reducible refine Gives.then (e_last _ _ dT) ?_); intro w1 hb; have dL := dL.below hb; have dO := dO.below hb; have dB := dB.below hb; have d2 := d2.below hb; have dT := dT.below hb; have q0 := (hb.cell (p := ⟨bb, 0, none⟩) lb).trans q0; have q1 := (hb.cell (p := ⟨bb, 1, none⟩) lb).trans q1; have lb := Nat.lt_of_lt_of_le lb hb.size; have hw := hw.trans (hb.mono hw.size); clear hb) | (go_at_call 11; (with_reducible refine Gives.then (e_nil _) ?_); intro w1 hb; have dL := dL.below hb; have dO := dO.below hb; have dB := dB.below hb; have d2 := d2.below hb; have dT := dT.below hb; have q0 := (hb.cell (p := ⟨bb, 0, none⟩) lb).trans q0; have q1 := (hb.cell (p := ⟨bb, 1, none⟩) lb).trans q1; have lb := Nat.lt_of_lt_of_le lb hb.size; have hw := hw.trans (hb.mono hw.size); clear hb) | (go_at_call 11; (with_reducible refine Gives.then (e_more _ _ dA) ?_); intro w1 hb; clear dA; have dL := dL.below hb; have dO := dO.below hb; have dB := dB.below hb; have d2 := d2.below hb; have dT := dT.below hb; have q0 := (hb.cell (p := ⟨bb, 0, none⟩) lb).trans q0; have q1 := (hb.cell (p := ⟨bb, 1, none⟩) lb).trans q1; have lb := Nat.lt_of_lt_of_le lb hb.size; have hw := hw.trans (hb.mono hw.size); clear hb) | (at_builtin; refine wpList_grow (by first | rfl | simp [go_sem]) (.tmp 65) (.tmp 66) rfl bo 33 bb 1 1 wOver wBad rfl rfl dO dB (by decide) (by decide) (by decide) ?_; intro vA w1 oA hb; have dA := oA.wd; obtain ⟨aA, nA, cA, hvA⟩ := dA.form; subst hvA; clear oA; have dL := dL.below hb; have dO := dO.below hb; have dB := dB.below hb; have d2 := d2.below hb; have dT := dT.below hb; have q0 := (hb.cell (p := ⟨bb, 0, none⟩) lb).trans q0; have q1 := (hb.cell (p := ⟨bb, 1, none⟩) lb).trans q1; have lb := Nat.lt_of_lt_of_le lb hb.size; have hw := hw.trans (hb.mono hw.size); clear hb))
  clear d2 dT
  go_at_call 16
  with_reducible refine Makes.then (spell_any [112, 97, 116, 97] (by decide) _) ?_
  intro v1 w1 o hb
  have d1 : Wd w1 v1 sPata := o.wd
  obtain ⟨a_, n_, c_, hv⟩ := d1.form
  subst hv
  clear o
  have dL := dL.below hb
  have dO := dO.below hb
  have dB := dB.below hb
  have q0 := (hb.cell (p := ⟨bb, 0, none⟩) lb).trans q0
  have q1 := (hb.cell (p := ⟨bb, 1, none⟩) lb).trans q1
  have lb := Nat.lt_of_lt_of_le lb hb.size
  have hw := hw.trans (hb.mono hw.size)
  clear hb
  go_wp2_with fail
  go_at_call 15
  refine MakesE.then (e_cut1 _ _ d1) ?_
  intro v1 w1 o hb
  have dN := o.wd
  obtain ⟨a_, n_, c_, hv⟩ := dN.form
  subst hv
  clear o
  clear dN
  have dL := dL.below hb
  have dO := dO.below hb
  have dB := dB.below hb
  have d1 := d1.below hb
  have q0 := (hb.cell (p := ⟨bb, 0, none⟩) lb).trans q0
  have q1 := (hb.cell (p := ⟨bb, 1, none⟩) lb).trans q1
  have lb := Nat.lt_of_lt_of_le lb hb.size
  have hw := hw.trans (hb.mono hw.size)
  clear hb
  go_wp2_with fail
  clear d1
  go_at_call 16
  with_reducible refine Makes.then (spell_any [112, 97, 116, 97] (by decide) _) ?_
  intro v1 w1 o hb
  have d1 : Wd w1 v1 sPata := o.wd
  obtain ⟨a_, n_, c_, hv⟩ := d1.form
  subst hv
  clear o
  have dL := dL.below hb
  have dO := dO.below hb
  have dB := dB.below hb
  have q0 := (hb.cell (p := ⟨bb, 0, none⟩) lb).trans q0
  have q1 := (hb.cell (p := ⟨bb, 1, none⟩) lb).trans q1
  have lb := Nat.lt_of_lt_of_le lb hb.size
  have hw := hw.trans (hb.mono hw.size)
  clear hb
  go_wp2_with fail
  go_at_call 15
  refine MakesE.then (e_cut2 _ _ d1) ?_
  intro v1 w1 o hb
  have dN := o.wd
  obtain ⟨a_, n_, c_, hv⟩ := dN.form
  subst hv
  clear o
  clear dN
  have dL := dL.below hb
  have dO := dO.below hb
  have dB := dB.below hb
  have d1 := d1.below hb
  have q0 := (hb.cell (p := ⟨bb, 0, none⟩) lb).trans q0
  have q1 := (hb.cell (p := ⟨bb, 1, none⟩) lb).trans q1
  have lb := Nat.lt_of_lt_of_le lb hb.size
  have hw := hw.trans (hb.mono hw.size)
  clear hb
  go_wp2_with fail
  clear d1
  go_at_call 15
  refine MakesE.then (e_cut3 _ _ dB) ?_
  intro v1 w1 o hb
  have dN := o.wd
  obtain ⟨a_, n_, c_, hv⟩ := dN.form
  subst hv
  clear o
  clear dN
  have dL := dL.below hb
  have dO := dO.below hb
  have dB := dB.below hb
  have q0 := (hb.cell (p := ⟨bb, 0, none⟩) lb).trans q0
  have q1 := (hb.cell (p := ⟨bb, 1, none⟩) lb).trans q1
  have lb := Nat.lt_of_lt_of_le lb hb.size
  have hw := hw.trans (hb.mono hw.size)
  clear hb
  go_wp2_with fail
  go_at_call 16
  with_reducible refine Makes.then (spell_any [112] (by decide) _) ?_
  intro v1 w1 o hb
  have d1 : Wd w1 v1 sP := o.wd
  obtain ⟨a_, n_, c_, hv⟩ := d1.form
  subst hv
  clear o
  have dL := dL.below hb
  have dO := dO.below hb
  have dB := dB.below hb
  have q0 := (hb.cell (p := ⟨bb, 0, none⟩) lb).trans q0
  have q1 := (hb.cell (p := ⟨bb, 1, none⟩) lb).trans q1
  have lb := Nat.lt_of_lt_of_le lb hb.size
  have hw := hw.trans (hb.mono hw.size)
  clear hb
  go_wp2_with fail
  go_at_call 17
  refine MakesE.then (e_spl1 _ _ _ dL d1) ?_
  intro v1 w1 o hb
  have dN := o.wd
  obtain ⟨a_, n_, c_, hv⟩ := dN.form
  subst hv
  clear o
  clear dN
  have dL := dL.below hb
  have dO := dO.below hb
  have dB := dB.below hb
  have d1 := d1.below hb
  have q0 := (hb.cell (p := ⟨bb, 0, none⟩) lb).trans q0
  have q1 := (hb.cell (p := ⟨bb, 1, none⟩) lb).trans q1
  have lb := Nat.lt_of_lt_of_le lb hb.size
  have hw := hw.trans (hb.mono hw.size)
  clear hb
  go_wp2_with fail
  clear d1
  go_at_call 17
  refine MakesE.then (e_spl2 _ _ _ dL dO) ?_
  intro v1 w1 o hb
  have dN := o.wd
  obtain ⟨a_, n_, c_, hv⟩ := dN.form
  subst hv
  clear o
  clear dN
  have dL := dL.below hb
  have dO := dO.below hb
  have dB := dB.below hb
  have q0 := (hb.cell (p := ⟨bb, 0, none⟩) lb).trans q0
  have q1 := (hb.cell (p := ⟨bb, 1, none⟩) lb).trans q1
  have lb := Nat.lt_of_lt_of_le lb hb.size
  have hw := hw.trans (hb.mono hw.size)
  clear hb
  go_wp2_with fail
  go_at_call 17
  refine MakesE.then (e_spl3 _ _ _ dO dB) ?_
  intro v1 w1 o hb
  have dN := o.wd
  obtain ⟨a_, n_, c_, hv⟩ := dN.form
  subst hv
  clear o
  clear dN
  have dL := dL.below hb
  have dO := dO.below hb
  have dB := dB.below hb
  have q0 := (hb.cell (p := ⟨bb, 0, none⟩) lb).trans q0
  have q1 := (hb.cell (p := ⟨bb, 1, none⟩) lb).trans q1
  have lb := Nat.lt_of_lt_of_le lb hb.size
  have hw := hw.trans (hb.mono hw.size)
  clear hb
  go_wp2_with fail
  go_at_call 16
  with_reducible refine Makes.then (spell_any [112] (by decide) _) ?_
  intro v1 w1 o hb
  have d1 : Wd w1 v1 sP := o.wd
  obtain ⟨a_, n_, c_, hv⟩ := d1.form
  subst hv
  clear o
  have dL := dL.below hb
  have dO := dO.below hb
  have dB := dB.below hb
  have q0 := (hb.cell (p := ⟨bb, 0, none⟩) lb).trans q0
  have q1 := (hb.cell (p := ⟨bb, 1, none⟩) lb).trans q1
  have lb := Nat.lt_of_lt_of_le lb hb.size
  have hw := hw.trans (hb.mono hw.size)
  clear hb
  go_wp2_with fail
  go_at_call 17
  refine MakesE.then (e_spl4 _ _ _ dL d1) ?_
  intro v1 w1 o hb
  have dN := o.wd
  obtain ⟨a_, c_, hv⟩ := dN.formN 32 (by decide)
  subst hv
  clear o
  clear dN
  have dL := dL.below hb
  have dO := dO.below hb
  have dB := dB.below hb
  have d1 := d1.below hb
  have q0 := (hb.cell (p := ⟨bb, 0, none⟩) lb).trans q0
  have q1 := (hb.cell (p := ⟨bb, 1, none⟩) lb).trans q1
  have lb := Nat.lt_of_lt_of_le lb hb.size
  have hw := hw.trans (hb.mono hw.size)
  clear hb
  go_wp2_with fail
  clear d1
  go_at_call 16
  with_reducible refine Makes.then (spell_any [112, 97] (by decide) _) ?_
  intro v1 w1 o hb
  have d1 : Wd w1 v1 sPa := o.wd
  obtain ⟨a_, n_, c_, hv⟩ := d1.form
  subst hv
  clear o
  have dL := dL.below hb
  have dO := dO.below hb
  have dB := dB.below hb
  have q0 := (hb.cell (p := ⟨bb, 0, none⟩) lb).trans q0
  have q1 := (hb.cell (p := ⟨bb, 1, none⟩) lb).trans q1
  have lb := Nat.lt_of_lt_of_le lb hb.size
  have hw := hw.trans (hb.mono hw.size)
  clear hb
  go_wp2_with fail
  go_at_call 16
  with_reducible refine Makes.then (spell_any [112, 97] (by decide) _) ?_
  intro v1 w1 o hb
  have d2 : Wd w1 v1 sPa := o.wd
  obtain ⟨a_, n_, c_, hv⟩ := d2.form
  subst hv
  clear o
  have dL := dL.below hb
  have dO := dO.below hb
  have dB := dB.below hb
  have d1 := d1.below hb
  have q0 := (hb.cell (p := ⟨bb, 0, none⟩) lb).trans q0
  have q1 := (hb.cell (p := ⟨bb, 1, none⟩) lb).trans q1
  have lb := Nat.lt_of_lt_of_le lb hb.size
  have hw := hw.trans (hb.mono hw.size)
  clear hb
  go_wp2_with fail
  go_at_call 17
  refine MakesE.then (e_spl5 _ _ _ d1 d2) ?_
  intro v1 w1 o hb
  have dN := o.wd
  obtain ⟨a_, n_, c_, hv⟩ := dN.form
  subst hv
  clear o
  have dY := dN
  clear dN
  have dL := dL.below hb
  have dO := dO.below hb
  have dB := dB.below hb
  have d1 := d1.below hb
  have d2 := d2.below hb
  have q0 := (hb.cell (p := ⟨bb, 0, none⟩) lb).trans q0
  have q1 := (hb.cell (p := ⟨bb, 1, none⟩) lb).trans q1
  have lb := Nat.lt_of_lt_of_le lb hb.size
  have hw := hw.trans (hb.mono hw.size)
  clear hb
  go_wp2_with fail
  clear d1 d2
  go_at_call 16
  with_reducible refine Makes.then (spell_any [112, 97, 112, 97] (by decide) _) ?_
  intro v1 w1 o hb
  have d1 : Wd w1 v1 sPapa := o.wd
  obtain ⟨a_, n_, c_, hv⟩ := d1.form
  subst hv
  clear o
  have dL := dL.below hb
  have dO := dO.below hb
  have dB := dB.below hb
  have dY := dY.below hb
  have q0 := (hb.cell (p := ⟨bb, 0, none⟩) lb).trans q0
  have q1 := (hb.cell (p := ⟨bb, 1, none⟩) lb).trans q1
  have lb := Nat.lt_of_lt_of_le lb hb.size
  have hw := hw.trans (hb.mono hw.size)
  clear hb
  go_wp2_with fail
  go_at_call 13
  (with_reducible refine Gives.then (e_same _ _ _ dY d1) ?_)
  intro w1 hb
  have dL := dL.below hb
  have dO := dO.below hb
  have dB := dB.below hb
  have dY := dY.below hb
  have d1 := d1.below hb
  have q0 := (hb.cell (p := ⟨bb, 0, none⟩) lb).trans q0
  have q1 := (hb.cell (p := ⟨bb, 1, none⟩) lb).trans q1
  have lb := Nat.lt_of_lt_of_le lb hb.size
  have hw := hw.trans (hb.mono hw.size)
  clear hb
  go_wp2_with fail
  clear d1 dY
  clear dL
  refine calls_gen ?_
  intro wq hwq
  have hl := make_list 256 w1 (by decide)
  rw [← hwq] at hl
  have hb : Below w1.heap.size w1 wq := by rw [hwq]; exact (Below.refl _ _).alloc (Nat.le_refl _) _
  clear hwq hmk3
  have dO := dO.below hb
  have dB := dB.below hb
  have q0 := (hb.cell (p := ⟨bb, 0, none⟩) lb).trans q0
  have q1 := (hb.cell (p := ⟨bb, 1, none⟩) lb).trans q1
  have lb := Nat.lt_of_lt_of_le lb hb.size
  have hw := hw.trans (hb.mono hw.size)
  clear hb
  go_at_call 8
  refine (e_sort (sE_nils) _ _ hl).mono ?_
  rintro e w1 ⟨v1, rfl, hb⟩
  clear hl
  have dO := dO.below hb
  have dB := dB.below hb
  have q0 := (hb.cell (p := ⟨bb, 0, none⟩) lb).trans q0
  have q1 := (hb.cell (p := ⟨bb, 1, none⟩) lb).trans q1
  have lb := Nat.lt_of_lt_of_le lb hb.size
  have hw := hw.trans (hb.mono hw.size)
  clear hb
  go_wp2_with fail
  refine calls_gen ?_
  intro wq hwq
  have hl := make_list 257 w1 (by decide)
  rw [← hwq] at hl
  have hb : Below w1.heap.size w1 wq := by rw [hwq]; exact (Below.refl _ _).alloc (Nat.le_refl _) _
  clear hwq hmk4
  have dO := dO.below hb
  have dB := dB.below hb
  have q0 := (hb.cell (p := ⟨bb, 0, none⟩) lb).trans q0
  have q1 := (hb.cell (p := ⟨bb, 1, none⟩) lb).trans q1
  have lb := Nat.lt_of_lt_of_le lb hb.size
  have hw := hw.trans (hb.mono hw.size)
  clear hb
  go_at_call 8
  refine (e_sort (sE_more) _ _ hl).mono ?_
  rintro e w1 ⟨v1, rfl, hb⟩
  clear hl
  have dO := dO.below hb
  have dB := dB.below hb
  have q0 := (hb.cell (p := ⟨bb, 0, none⟩) lb).trans q0
  have q1 := (hb.cell (p := ⟨bb, 1, none⟩) lb).trans q1
  have lb := Nat.lt_of_lt_of_le lb hb.size
  have hw := hw.trans (hb.mono hw.size)
  clear hb
  go_wp2_with fail
  refine calls_gen ?_
  intro wq hwq
  have hl := Ws.lit (w := w1) [(.slice none 0 0, []), (.slice (some ⟨bb, 0, none⟩) 1 1, wBad), (.slice (some ⟨bo, 0, none⟩) 33 33, wOver)] #[.slice none 0 0, .slice (some ⟨bb, 0, none⟩) 1 1, .slice (some ⟨bo, 0, none⟩) 33 33] 24 rfl (by simp) (by intro x hx; simp only [List.mem_cons, List.not_mem_nil, or_false] at hx; rcases hx with rfl | rfl | rfl <;> first | exact Wd.nil _ | exact dB | exact dO)
  rw [← hwq] at hl
  have hb : Below w1.heap.size w1 wq := by rw [hwq]; exact (Below.refl _ _).alloc (Nat.le_refl _) _
  clear hwq
  have dO := dO.below hb
  have dB := dB.below hb
  have q0 := (hb.cell (p := ⟨bb, 0, none⟩) lb).trans q0
  have q1 := (hb.cell (p := ⟨bb, 1, none⟩) lb).trans q1
  have lb := Nat.lt_of_lt_of_le lb hb.size
  have hw := hw.trans (hb.mono hw.size)
  clear hb
  go_at_call 8
  refine (e_sort (sE_three _ _) _ _ hl).mono ?_
  rintro e w1 ⟨v1, rfl, hb⟩
  clear hl
  have dO := dO.below hb
  have dB := dB.below hb
  have q0 := (hb.cell (p := ⟨bb, 0, none⟩) lb).trans q0
  have q1 := (hb.cell (p := ⟨bb, 1, none⟩) lb).trans q1
  have lb := Nat.lt_of_lt_of_le lb hb.size
  have hw := hw.trans (hb.mono hw.size)
  clear hb
  go_wp2_with fail
  clear dO
  go_at_call 16
  with_reducible refine Makes.then (spell_any [112, 112, 97, 116, 116] (by decide) _) ?_
  intro v1 w1 o hb
  have d1 : Wd w1 v1 sPpatt := o.wd
  obtain ⟨a_, n_, c_, hv⟩ := d1.form
  subst hv
  clear o
  have dB := dB.below hb
  have q0 := (hb.cell (p := ⟨bb, 0, none⟩) lb).trans q0
  have q1 := (hb.cell (p := ⟨bb, 1, none⟩) lb).trans q1
  have lb := Nat.lt_of_lt_of_le lb hb.size
  have hw := hw.trans (hb.mono hw.size)
  clear hb
  go_wp2_with fail
  go_at_call 18
  refine (e_runs _ _ d1).mono ?_
  rintro e w1 ⟨g, c, rfl, lg, k0, k1, k2, k3, k4, k5, hb⟩
  have dB := dB.below hb
  have d1 := d1.below hb
  have q0 := (hb.cell (p := ⟨bb, 0, none⟩) lb).trans q0
  have q1 := (hb.cell (p := ⟨bb, 1, none⟩) lb).trans q1
  have lb := Nat.lt_of_lt_of_le lb hb.size
  have hw := hw.trans (hb.mono hw.size)
  clear hb
  clear d1
  go_wp2_with fail
  clear k0 k1 k2 k3 k4 k5 lg
  have HW := Lib.hid hw; have HB := Lib.hid dB
  clear hw dB
  obtain ⟨w, hww⟩ : ∃ x, x = w1 := ⟨_, rfl⟩
  subst hww
  go_region_held3 (fun w' => w'.cell? ⟨bb, 0, none⟩ = some (.int .u32 16777216) ∧ w'.cell? ⟨bb, 1, none⟩ = some (.int .u32 0) ∧ Below w.heap.size w w')
    (((try go_split_ands); first | exact keepB q0 q1 lb hB1 | exact keepB q0 q1 lb (Below.refl _ _).drew | exact keepB q0 q1 lb (by assumption)))
    (first
      | (go_at_call 16; (with_reducible refine Makes.then (spell_any [112, 97, 112, 97] (by decide) _) ?_); intro v1 w1 o hb; have dPapa : Wd w1 v1 sPapa := o.wd; obtain ⟨a_, n_, c_, hv⟩ := dPapa.form; subst hv; clear o; have hB1 : Below w.heap.size w w1 := chB (by first | assumption | exact (Below.refl _ _).drew | (go_grown; done)) hb)
      | (go_at_call 16; (with_reducible refine Makes.then (spell_any [116] (by decide) _) ?_); intro v1 w1 o hb; (try have dPapa := dPapa.below hb); have dT : Wd w1 v1 sT := o.wd; obtain ⟨a_, n_, c_, hv⟩ := dT.form; subst hv; clear o; have hB1 : Below w.heap.size w w1 := chB (by first | assumption | exact (Below.refl _ _).drew | (go_grown; done)) hb)
      | (go_at_call 16; (with_reducible refine Makes.then (spell_any [116, 112] (by decide) _) ?_); intro v1 w1 o hb; have dTp : Wd w1 v1 sTp := o.wd; obtain ⟨a_, n_, c_, hv⟩ := dTp.form; subst hv; clear o; have hB1 : Below w.heap.size w w1 := chB (by first | assumption | exact (Below.refl _ _).drew | (go_grown; done)) hb)
      | (go_at_call 16; (with_reducible refine Makes.then (spell_any [112, 97, 116, 97] (by decide) _) ?_); intro v1 w1 o hb; (try have dTp := dTp.below hb); have dPata : Wd w1 v1 sPata := o.wd; obtain ⟨a_, n_, c_, hv⟩ := dPata.form; subst hv; clear o; have hB1 : Below w.heap.size w w1 := chB (by first | assumption | exact (Below.refl _ _).drew | (go_grown; done)) hb)
      | (go_at_call 16; (with_reducible refine Makes.then (spell_any [112, 97] (by decide) _) ?_); intro v1 w1 o hb; have dPa : Wd w1 v1 sPa := o.wd; obtain ⟨a_, n_, c_, hv⟩ := dPa.form; subst hv; clear o; have hB1 : Below w.heap.size w w1 := chB (by first | assumption | exact (Below.refl _ _).drew | (go_grown; done)) hb)
      | (go_at_call 16; (with_reducible refine Makes.then (spell_any [112, 116] (by decide) _) ?_); intro v1 w1 o hb; (try have dPa := dPa.below hb); have dPt : Wd w1 v1 sPt := o.wd; obtain ⟨a_, n_, c_, hv⟩ := dPt.form; subst hv; clear o; have hB1 : Below w.heap.size w w1 := chB (by first | assumption | exact (Below.refl _ _).drew | (go_grown; done)) hb)
      | (go_at_call 19; (with_reducible refine Gives.then (e_find2 _ _ _ dPapa dT) ?_); intro w1 hb; have hB1 : Below w.heap.size w w1 := chB (by first | assumption | exact (Below.refl _ _).drew | (go_grown; done)) hb)
      | (go_at_call 19; (with_reducible refine Gives.then (e_find1 _ _ dPapa) ?_); intro w1 hb; have hB1 : Below w.heap.size w w1 := chB (by first | assumption | exact (Below.refl _ _).drew | (go_grown; done)) hb)
      | (go_at_call 19; (with_reducible refine Gives.then (e_find3 _) ?_); intro w1 hb; have hB1 : Below w.heap.size w w1 := chB (by first | assumption | exact (Below.refl _ _).drew | (go_grown; done)) hb)
      | (go_at_call 20; (with_reducible refine Gives.then (e_in _ _ _ dTp dPata) ?_); intro w1 hb; have hB1 : Below w.heap.size w w1 := chB (by first | assumption | exact (Below.refl _ _).drew | (go_grown; done)) hb)
      | (go_at_call 12; (with_reducible refine Gives.then (e_ord _ _ _ dPa dPt) ?_); intro w1 hb; have hB1 : Below w.heap.size w w1 := chB (by first | assumption | exact (Below.refl _ _).drew | (go_grown; done)) hb)
      | (go_at_call 21; (with_reducible refine Gives.then (e_cnt2 _ _ dPata) ?_); intro w1 hb; have hB1 : Below w.heap.size w w1 := chB (by first | assumption | exact (Below.refl _ _).drew | (go_grown; done)) hb)
      | (go_at_call 21; (with_reducible refine Gives.then (e_cnt3 _ _ dPata) ?_); intro w1 hb; have hB1 : Below w.heap.size w w1 := chB (by first | assumption | exact (Below.refl _ _).drew | (go_grown; done)) hb)
      | (go_at_call 21; (with_reducible refine Gives.then (e_cnt4 _ _ dPata) ?_); intro w1 hb; have hB1 : Below w.heap.size w w1 := chB (by first | assumption | exact (Below.refl _ _).drew | (go_grown; done)) hb)
      | (go_at_call 21; (with_reducible refine Gives.then (e_cnt1 _ _ (HB.out.below (by assumption))) ?_); intro w1 hb; have hB1 : Below w.heap.size w w1 := chB (by first | assumption | exact (Below.refl _ _).drew | (go_grown; done)) hb)
      | (go_at_call 6; (with_reducible refine Gives.then (works_any _) ?_); intro w1 hb; have hB1 : Below w.heap.size w w1 := chB (by first | assumption | exact (Below.refl _ _).drew | (go_grown; done)) hb))
  go_wp2
  go_returns
  exact ⟨rfl, HW.out.trans (Below.mono (by assumption : Below w.heap.size w _) HW.out.size)⟩
end Go.Proofs.Ytfjngkdpembdcaa
