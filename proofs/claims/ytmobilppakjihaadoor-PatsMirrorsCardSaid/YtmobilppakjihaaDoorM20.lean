/-
  Lemmas that the theorem of this claim rests on: 1 texts, one behind the other.
-/
import Derived.Test.YtmobilppakjihaaDoorM19
set_option linter.unusedSimpArgs false
set_option linter.unusedVariables false
/-
  The examples of the statements about patterns (works).
-/
namespace Go.Proofs.YtmobilppakjihaaDoor
open Go.RowKit Go.Sort
theorem pt_none {W : World} {d : Nd} (h : d.sl = .slice none 0 0) : Pt W d .nil := .inl ⟨.inl h, rfl⟩
theorem wd3 {W : World} {b : Nat} {x y z : Snd} (h : W.heap[b]? = some (.cells #[.int .u32 (x.1.toNat : Int), .int .u32 (x.2.toNat : Int), .int .u32 (y.1.toNat : Int), .int .u32 (y.2.toNat : Int), .int .u32 (z.1.toNat : Int), .int .u32 (z.2.toNat : Int)] 24)) : Wd W (.slice (some ⟨b, 0, none⟩) 3 3) [x, y, z] := by
  refine Or.inr ⟨b, 0, 3, rfl, by simp, by decide, (Array.getElem?_eq_some_iff.1 h).1, ?_⟩
  intro i hi
  have : i = 0 ∨ i = 1 ∨ i = 2 := by simp at hi; omega
  rcases this with rfl | rfl | rfl
  all_goals exact ⟨cell_block h rfl, cell_block h rfl⟩
theorem wd4 {W : World} {b : Nat} {x y z u : Snd} (h : W.heap[b]? = some (.cells #[.int .u32 (x.1.toNat : Int), .int .u32 (x.2.toNat : Int), .int .u32 (y.1.toNat : Int), .int .u32 (y.2.toNat : Int), .int .u32 (z.1.toNat : Int), .int .u32 (z.2.toNat : Int), .int .u32 (u.1.toNat : Int), .int .u32 (u.2.toNat : Int)] 24)) : Wd W (.slice (some ⟨b, 0, none⟩) 4 4) [x, y, z, u] := by
  refine Or.inr ⟨b, 0, 4, rfl, by simp, by decide, (Array.getElem?_eq_some_iff.1 h).1, ?_⟩
  intro i hi
  have : i = 0 ∨ i = 1 ∨ i = 2 ∨ i = 3 := by simp at hi; omega
  rcases this with rfl | rfl | rfl | rfl
  all_goals exact ⟨cell_block h rfl, cell_block h rfl⟩
theorem is_new1 {W : World} {b : Nat} (h : W.heap[b]? = some (.cells #[.int .i64 1] 3)) : Is W (.slice (some ⟨b, 0, none⟩) 1 1) [1] := by
  refine Or.inr ⟨b, 1, rfl, by simp, by decide, (Array.getElem?_eq_some_iff.1 h).1, ?_⟩
  intro i hi
  obtain rfl : i = 0 := by simpa using hi
  exact cell_block h rfl
theorem is_new3 {W : World} {b : Nat} (h : W.heap[b]? = some (.cells #[.int .i64 0, .int .i64 1, .int .i64 2] 3)) : Is W (.slice (some ⟨b, 0, none⟩) 3 3) [0, 1, 2] := by
  refine Or.inr ⟨b, 3, rfl, by simp, by decide, (Array.getElem?_eq_some_iff.1 h).1, ?_⟩
  intro i hi
  have : i = 0 ∨ i = 1 ∨ i = 2 := by simp at hi; omega
  rcases this with rfl | rfl | rfl
  all_goals exact cell_block h rfl
theorem pt4 {W : World} {b : Nat} {sl : Value} (h : W.heap[b]? = some (.cells #[.int .i64 1, .int .u32 2, .int .u32 0, .bool false, .int .i64 0, .int .i64 0, .slice none 0 0, .int .i64 1, .int .u32 4, .int .u32 0, .bool false, .int .i64 0, .int .i64 0, .slice none 0 0, .int .i64 1, .int .u32 2, .int .u32 0, .bool false, .int .i64 0, .int .i64 0, .slice none 0 0, .int .i64 1, .int .u32 4, .int .u32 0, .bool false, .int .i64 0, .int .i64 0, .slice none 0 0] 27)) (hs : sl = .slice (some ⟨b, 0, none⟩) 4 4) : Pt W (qN sl) cvcv := by
  refine .inr ⟨b, 0, 4, hs, by decide, by decide, (Array.getElem?_eq_some_iff.1 h).1, ?_⟩
  refine ⟨cell_block h rfl, cell_block h rfl, cell_block h rfl, cell_block h rfl, cell_block h rfl, cell_block h rfl, cell_block h rfl, .inl ⟨.inl rfl, rfl⟩, ?_⟩
  refine ⟨cell_block h rfl, cell_block h rfl, cell_block h rfl, cell_block h rfl, cell_block h rfl, cell_block h rfl, cell_block h rfl, .inl ⟨.inl rfl, rfl⟩, ?_⟩
  refine ⟨cell_block h rfl, cell_block h rfl, cell_block h rfl, cell_block h rfl, cell_block h rfl, cell_block h rfl, cell_block h rfl, .inl ⟨.inl rfl, rfl⟩, ?_⟩
  exact ⟨cell_block h rfl, cell_block h rfl, cell_block h rfl, cell_block h rfl, cell_block h rfl, cell_block h rfl, cell_block h rfl, .inl ⟨.inl rfl, rfl⟩, trivial⟩
theorem pt2 {W : World} {b : Nat} {sl : Value} (h : W.heap[b]? = some (.cells #[.int .i64 1, .int .u32 4, .int .u32 0, .bool false, .int .i64 0, .int .i64 0, .slice none 0 0, .int .i64 6, .int .u32 0, .int .u32 0, .bool false, .int .i64 0, .int .i64 0, .slice none 0 0] 27)) (hs : sl = .slice (some ⟨b, 0, none⟩) 2 2) : Pt W (qN sl) vE := by
  refine .inr ⟨b, 0, 2, hs, by decide, by decide, (Array.getElem?_eq_some_iff.1 h).1, ?_⟩
  refine ⟨cell_block h rfl, cell_block h rfl, cell_block h rfl, cell_block h rfl, cell_block h rfl, cell_block h rfl, cell_block h rfl, .inl ⟨.inl rfl, rfl⟩, ?_⟩
  exact ⟨cell_block h rfl, cell_block h rfl, cell_block h rfl, cell_block h rfl, cell_block h rfl, cell_block h rfl, cell_block h rfl, .inl ⟨.inl rfl, rfl⟩, trivial⟩
set_option maxRecDepth 100000 in
set_option maxHeartbeats 8000000 in
theorem works_any (w : World) (hT : Tab64 w) (ht0 : 0 < w.heap.size) : Gives 22 #[] w (.bool true) := by
  have hT := Lib.hid hT
  unfold Gives
  go_enter Tryd.func22, Tryd.ntmps22
  go_wp2_with fail
  refine calls_gen ?_
  intro V1 hV1
  have s1 : Below w.heap.size w V1 := by rw [hV1]; go_grown
  have s1k := Lib.hid s1
  have q1w := Lib.hid s1
  clear hV1 s1
  go_at_call 54
  refine Gives.then (la_any V1) ?_
  intro w1 hb1
  have cw_n := Lib.hid (q1w.out.trans (hb1.mono q1w.out.size))
  have cw := cw_n
  clear cw_n q1w
  clear s1k
  go_wp2_with fail
  refine calls_gen ?_
  intro V2 hV2
  have s2 : Below w1.heap.size w1 V2 := by rw [hV2]; go_grown
  have s2k := Lib.hid s2
  have q2w := Lib.hid (cw.out.trans (s2.mono cw.out.size))
  clear hV2 s2
  go_at_call 44
  refine Gives.then (lp_any V2) ?_
  intro w2 hb2
  have cw_n := Lib.hid (q2w.out.trans (hb2.mono q2w.out.size))
  clear cw
  have cw := cw_n
  clear cw_n q2w
  clear s2k
  go_wp2_with fail
  refine calls_gen ?_
  intro V3 hV3
  have s3 : Below w2.heap.size w2 V3 := by rw [hV3]; go_grown
  have s3k := Lib.hid s3
  have q3w := Lib.hid (cw.out.trans (s3.mono cw.out.size))
  clear hV3 s3
  go_at_call 54
  refine Gives.then (la_any V3) ?_
  intro w3 hb3
  have cw_n := Lib.hid (q3w.out.trans (hb3.mono q3w.out.size))
  clear cw
  have cw := cw_n
  clear cw_n q3w
  clear s3k
  go_wp2_with fail
  refine calls_gen ?_
  intro V4 hV4
  have s4 : Below w3.heap.size w3 V4 := by rw [hV4]; go_grown
  have s4k := Lib.hid s4
  have q4w := Lib.hid (cw.out.trans (s4.mono cw.out.size))
  have r4 : V4.heap[w3.heap.size]? = some (.cells #[.int .u32 4, .int .u32 2, .int .u32 2, .int .u32 5, .int .u32 4, .int .u32 2] 24) := by rw [hV4]; exact World.alloc_heap_new _ _
  have A := Lib.hid (wd3 (x := sa) (y := sp) (z := sa) r4)
  clear r4
  clear hV4 s4
  go_at_call 44
  refine Gives.then (lp_any V4) ?_
  intro w4 hb4
  have cw_n := Lib.hid (q4w.out.trans (hb4.mono q4w.out.size))
  clear cw
  have cw := cw_n
  clear cw_n q4w
  clear s4k
  have cV4 := Lib.hid hb4
  go_wp2_with fail
  refine calls_gen ?_
  intro V5 hV5
  have s5 : Below w4.heap.size w4 V5 := by rw [hV5]; go_grown
  have s5k := Lib.hid s5
  have q5w := Lib.hid (cw.out.trans (s5.mono cw.out.size))
  have q5V4 := Lib.hid (cV4.out.trans (s5.mono cV4.out.size))
  clear hV5 s5
  go_at_call 44
  refine Gives.then (lp_any V5) ?_
  intro w5 hb5
  have cw_n := Lib.hid (q5w.out.trans (hb5.mono q5w.out.size))
  have cV4_n := Lib.hid (q5V4.out.trans (hb5.mono q5V4.out.size))
  clear cw
  have cw := cw_n
  clear cw_n q5w
  clear cV4
  have cV4 := cV4_n
  clear cV4_n q5V4
  clear s5k
  go_wp2_with fail
  refine calls_gen ?_
  intro V6 hV6
  have s6 : Below w5.heap.size w5 V6 := by rw [hV6]; go_grown
  have s6k := Lib.hid s6
  have q6w := Lib.hid (cw.out.trans (s6.mono cw.out.size))
  have q6V4 := Lib.hid (cV4.out.trans (s6.mono cV4.out.size))
  clear hV6 s6
  go_at_call 54
  refine Gives.then (la_any V6) ?_
  intro w6 hb6
  have cw_n := Lib.hid (q6w.out.trans (hb6.mono q6w.out.size))
  have cV4_n := Lib.hid (q6V4.out.trans (hb6.mono q6V4.out.size))
  clear cw
  have cw := cw_n
  clear cw_n q6w
  clear cV4
  have cV4 := cV4_n
  clear cV4_n q6V4
  clear s6k
  go_wp2_with fail
  refine calls_gen ?_
  intro V7 hV7
  have s7 : Below w6.heap.size w6 V7 := by rw [hV7]; go_grown
  have s7k := Lib.hid s7
  have q7w := Lib.hid (cw.out.trans (s7.mono cw.out.size))
  have q7V4 := Lib.hid (cV4.out.trans (s7.mono cV4.out.size))
  have r7 : V7.heap[w6.heap.size]? = some (.cells #[.int .u32 2, .int .u32 5, .int .u32 2, .int .u32 5, .int .u32 4, .int .u32 2] 24) := by rw [hV7]; exact World.alloc_heap_new _ _
  have P := Lib.hid (wd3 (x := sp) (y := sp) (z := sa) r7)
  clear r7
  clear hV7 s7
  go_at_call 43
  refine Gives.then (lv_any V7) ?_
  intro w7 hb7
  have cw_n := Lib.hid (q7w.out.trans (hb7.mono q7w.out.size))
  have cV4_n := Lib.hid (q7V4.out.trans (hb7.mono q7V4.out.size))
  clear cw
  have cw := cw_n
  clear cw_n q7w
  clear cV4
  have cV4 := cV4_n
  clear cV4_n q7V4
  clear s7k
  have cV7 := Lib.hid hb7
  go_wp2_with fail
  refine calls_gen ?_
  intro V8 hV8
  have s8 : Below w7.heap.size w7 V8 := by rw [hV8]; go_grown
  have s8k := Lib.hid s8
  have q8w := Lib.hid (cw.out.trans (s8.mono cw.out.size))
  have q8V4 := Lib.hid (cV4.out.trans (s8.mono cV4.out.size))
  have q8V7 := Lib.hid (cV7.out.trans (s8.mono cV7.out.size))
  clear hV8 s8
  go_at_call 23
  refine (ends_anyP vN .nil apa _ 0 V8 (pt_none rfl) (A.out.below q8V4.out) (hT.out.below q8w.out ht0) (by have := q8w.out.size; omega)).mono ?_
  rintro e w8 ⟨x, rfl, hx, hb8⟩
  have cw_n := Lib.hid (q8w.out.trans (hb8.mono q8w.out.size))
  have cV4_n := Lib.hid (q8V4.out.trans (hb8.mono q8V4.out.size))
  have cV7_n := Lib.hid (q8V7.out.trans (hb8.mono q8V7.out.size))
  clear cw
  have cw := cw_n
  clear cw_n q8w
  clear cV4
  have cV4 := cV4_n
  clear cV4_n q8V4
  clear cV7
  have cV7 := cV7_n
  clear cV7_n q8V7
  clear s8k
  rw [wk1] at hx; rw [wk1E]
  obtain ⟨xo, xc, hxv⟩ := hx.slice; subst hxv; have X := Lib.hid hx.is; clear hx
  go_wp2_with fail
  refine calls_gen ?_
  intro V9 hV9
  have s9 : Below w8.heap.size w8 V9 := by rw [hV9]; go_grown
  have s9k := Lib.hid s9
  have q9w := Lib.hid (cw.out.trans (s9.mono cw.out.size))
  have q9V4 := Lib.hid (cV4.out.trans (s9.mono cV4.out.size))
  have q9V7 := Lib.hid (cV7.out.trans (s9.mono cV7.out.size))
  have q9w8 := Lib.hid s9
  clear hV9 s9
  go_at_call 55
  refine Gives.then (lc_any V9) ?_
  intro w9 hb9
  have cw_n := Lib.hid (q9w.out.trans (hb9.mono q9w.out.size))
  have cV4_n := Lib.hid (q9V4.out.trans (hb9.mono q9V4.out.size))
  have cV7_n := Lib.hid (q9V7.out.trans (hb9.mono q9V7.out.size))
  have cw8_n := Lib.hid (q9w8.out.trans (hb9.mono q9w8.out.size))
  clear cw
  have cw := cw_n
  clear cw_n q9w
  clear cV4
  have cV4 := cV4_n
  clear cV4_n q9V4
  clear cV7
  have cV7 := cV7_n
  clear cV7_n q9V7
  have cw8 := cw8_n
  clear cw8_n q9w8
  clear s9k
  go_wp2_with fail
  refine calls_gen ?_
  intro V10 hV10
  have s10 : Below w9.heap.size w9 V10 := by rw [hV10]; go_grown
  have s10k := Lib.hid s10
  have q10w := Lib.hid (cw.out.trans (s10.mono cw.out.size))
  have q10V4 := Lib.hid (cV4.out.trans (s10.mono cV4.out.size))
  have q10V7 := Lib.hid (cV7.out.trans (s10.mono cV7.out.size))
  have q10w8 := Lib.hid (cw8.out.trans (s10.mono cw8.out.size))
  clear hV10 s10
  go_at_call 42
  refine (lrep_any cN .nil 0 (-1) V10 (pt_none rfl)).mono ?_
  rintro e w10 ⟨B, rfl, hpt, hb10⟩
  have cw_n := Lib.hid (q10w.out.trans (hb10.mono q10w.out.size))
  have cV4_n := Lib.hid (q10V4.out.trans (hb10.mono q10V4.out.size))
  have cV7_n := Lib.hid (q10V7.out.trans (hb10.mono q10V7.out.size))
  have cw8_n := Lib.hid (q10w8.out.trans (hb10.mono q10w8.out.size))
  clear cw
  have cw := cw_n
  clear cw_n q10w
  clear cV4
  have cV4 := cV4_n
  clear cV4_n q10V4
  clear cV7
  have cV7 := cV7_n
  clear cV7_n q10V7
  clear cw8
  have cw8 := cw8_n
  clear cw8_n q10w8
  clear s10k
  have PT := Lib.hid hpt; clear hpt
  go_wp2_with fail
  refine calls_gen ?_
  intro V11 hV11
  have s11 : Below w10.heap.size w10 V11 := by rw [hV11]; go_grown
  have s11k := Lib.hid s11
  have q11w := Lib.hid (cw.out.trans (s11.mono cw.out.size))
  have q11V4 := Lib.hid (cV4.out.trans (s11.mono cV4.out.size))
  have q11V7 := Lib.hid (cV7.out.trans (s11.mono cV7.out.size))
  have q11w8 := Lib.hid (cw8.out.trans (s11.mono cw8.out.size))
  clear hV11 s11
  go_at_call 23
  refine (ends_anyP (rN 0 (-1) _) (one cN) ppa _ 0 V11 (PT.out.below s11k.out) (P.out.below q11V7.out) (hT.out.below q11w.out ht0) (by have := q11w.out.size; omega)).mono ?_
  rintro e w11 ⟨y, rfl, hy, hb11⟩
  have cw_n := Lib.hid (q11w.out.trans (hb11.mono q11w.out.size))
  have cV4_n := Lib.hid (q11V4.out.trans (hb11.mono q11V4.out.size))
  have cV7_n := Lib.hid (q11V7.out.trans (hb11.mono q11V7.out.size))
  have cw8_n := Lib.hid (q11w8.out.trans (hb11.mono q11w8.out.size))
  clear cw
  have cw := cw_n
  clear cw_n q11w
  clear cV4
  have cV4 := cV4_n
  clear cV4_n q11V4
  clear cV7
  have cV7 := cV7_n
  clear cV7_n q11V7
  clear cw8
  have cw8 := cw8_n
  clear cw8_n q11w8
  clear s11k
  rw [wk2] at hy; rw [wk2E]
  obtain ⟨yo, yc, hyv⟩ := hy.slice; subst hyv; have Y := Lib.hid hy.is; clear hy PT
  go_wp2_with fail
  refine calls_gen ?_
  intro V12 hV12
  have s12 : Below w11.heap.size w11 V12 := by rw [hV12]; go_grown
  have s12k := Lib.hid s12
  have q12w := Lib.hid (cw.out.trans (s12.mono cw.out.size))
  have q12V4 := Lib.hid (cV4.out.trans (s12.mono cV4.out.size))
  have q12V7 := Lib.hid (cV7.out.trans (s12.mono cV7.out.size))
  have q12w8 := Lib.hid (cw8.out.trans (s12.mono cw8.out.size))
  have q12w11 := Lib.hid s12
  clear hV12 s12
  go_at_call 55
  refine Gives.then (lc_any V12) ?_
  intro w12 hb12
  have cw_n := Lib.hid (q12w.out.trans (hb12.mono q12w.out.size))
  have cV4_n := Lib.hid (q12V4.out.trans (hb12.mono q12V4.out.size))
  have cV7_n := Lib.hid (q12V7.out.trans (hb12.mono q12V7.out.size))
  have cw8_n := Lib.hid (q12w8.out.trans (hb12.mono q12w8.out.size))
  have cw11_n := Lib.hid (q12w11.out.trans (hb12.mono q12w11.out.size))
  clear cw
  have cw := cw_n
  clear cw_n q12w
  clear cV4
  have cV4 := cV4_n
  clear cV4_n q12V4
  clear cV7
  have cV7 := cV7_n
  clear cV7_n q12V7
  clear cw8
  have cw8 := cw8_n
  clear cw8_n q12w8
  have cw11 := cw11_n
  clear cw11_n q12w11
  clear s12k
  go_wp2_with fail
  refine calls_gen ?_
  intro V13 hV13
  have s13 : Below w12.heap.size w12 V13 := by rw [hV13]; go_grown
  have s13k := Lib.hid s13
  have q13w := Lib.hid (cw.out.trans (s13.mono cw.out.size))
  have q13V4 := Lib.hid (cV4.out.trans (s13.mono cV4.out.size))
  have q13V7 := Lib.hid (cV7.out.trans (s13.mono cV7.out.size))
  have q13w8 := Lib.hid (cw8.out.trans (s13.mono cw8.out.size))
  have q13w11 := Lib.hid (cw11.out.trans (s13.mono cw11.out.size))
  clear hV13 s13
  go_at_call 42
  refine (lrep_any cN .nil 0 (-1) V13 (pt_none rfl)).mono ?_
  rintro e w13 ⟨B, rfl, hpt, hb13⟩
  have cw_n := Lib.hid (q13w.out.trans (hb13.mono q13w.out.size))
  have cV4_n := Lib.hid (q13V4.out.trans (hb13.mono q13V4.out.size))
  have cV7_n := Lib.hid (q13V7.out.trans (hb13.mono q13V7.out.size))
  have cw8_n := Lib.hid (q13w8.out.trans (hb13.mono q13w8.out.size))
  have cw11_n := Lib.hid (q13w11.out.trans (hb13.mono q13w11.out.size))
  clear cw
  have cw := cw_n
  clear cw_n q13w
  clear cV4
  have cV4 := cV4_n
  clear cV4_n q13V4
  clear cV7
  have cV7 := cV7_n
  clear cV7_n q13V7
  clear cw8
  have cw8 := cw8_n
  clear cw8_n q13w8
  clear cw11
  have cw11 := cw11_n
  clear cw11_n q13w11
  clear s13k
  have PT := Lib.hid hpt; clear hpt
  go_wp2_with fail
  refine calls_gen ?_
  intro V14 hV14
  have s14 : Below w13.heap.size w13 V14 := by rw [hV14]; go_grown
  have s14k := Lib.hid s14
  have q14w := Lib.hid (cw.out.trans (s14.mono cw.out.size))
  have q14V4 := Lib.hid (cV4.out.trans (s14.mono cV4.out.size))
  have q14V7 := Lib.hid (cV7.out.trans (s14.mono cV7.out.size))
  have q14w8 := Lib.hid (cw8.out.trans (s14.mono cw8.out.size))
  have q14w11 := Lib.hid (cw11.out.trans (s14.mono cw11.out.size))
  clear hV14 s14
  go_at_call 25
  refine (begins_any (rN 0 (-1) _) (one cN) ppa _ 2 V14 (PT.out.below s14k.out) (P.out.below q14V7.out) (hT.out.below q14w.out ht0) (by have := q14w.out.size; omega)).mono ?_
  rintro e w14 ⟨z, rfl, hz, hb14⟩
  have cw_n := Lib.hid (q14w.out.trans (hb14.mono q14w.out.size))
  have cV4_n := Lib.hid (q14V4.out.trans (hb14.mono q14V4.out.size))
  have cV7_n := Lib.hid (q14V7.out.trans (hb14.mono q14V7.out.size))
  have cw8_n := Lib.hid (q14w8.out.trans (hb14.mono q14w8.out.size))
  have cw11_n := Lib.hid (q14w11.out.trans (hb14.mono q14w11.out.size))
  clear cw
  have cw := cw_n
  clear cw_n q14w
  clear cV4
  have cV4 := cV4_n
  clear cV4_n q14V4
  clear cV7
  have cV7 := cV7_n
  clear cV7_n q14V7
  clear cw8
  have cw8 := cw8_n
  clear cw8_n q14w8
  clear cw11
  have cw11 := cw11_n
  clear cw11_n q14w11
  clear s14k
  rw [wk3] at hz; rw [wk3E]
  obtain ⟨zo, zc, hzv⟩ := hz.slice; subst hzv; have Z := Lib.hid hz.is; clear hz PT
  go_wp2_with fail
  refine calls_gen ?_
  intro V15 hV15
  have s15 : Below w14.heap.size w14 V15 := by rw [hV15]; go_grown
  have s15k := Lib.hid s15
  have q15w := Lib.hid (cw.out.trans (s15.mono cw.out.size))
  have q15V4 := Lib.hid (cV4.out.trans (s15.mono cV4.out.size))
  have q15V7 := Lib.hid (cV7.out.trans (s15.mono cV7.out.size))
  have q15w8 := Lib.hid (cw8.out.trans (s15.mono cw8.out.size))
  have q15w11 := Lib.hid (cw11.out.trans (s15.mono cw11.out.size))
  have q15w14 := Lib.hid s15
  clear hV15 s15
  go_at_call 55
  refine Gives.then (lc_any V15) ?_
  intro w15 hb15
  have cw_n := Lib.hid (q15w.out.trans (hb15.mono q15w.out.size))
  have cV4_n := Lib.hid (q15V4.out.trans (hb15.mono q15V4.out.size))
  have cV7_n := Lib.hid (q15V7.out.trans (hb15.mono q15V7.out.size))
  have cw8_n := Lib.hid (q15w8.out.trans (hb15.mono q15w8.out.size))
  have cw11_n := Lib.hid (q15w11.out.trans (hb15.mono q15w11.out.size))
  have cw14_n := Lib.hid (q15w14.out.trans (hb15.mono q15w14.out.size))
  clear cw
  have cw := cw_n
  clear cw_n q15w
  clear cV4
  have cV4 := cV4_n
  clear cV4_n q15V4
  clear cV7
  have cV7 := cV7_n
  clear cV7_n q15V7
  clear cw8
  have cw8 := cw8_n
  clear cw8_n q15w8
  clear cw11
  have cw11 := cw11_n
  clear cw11_n q15w11
  have cw14 := cw14_n
  clear cw14_n q15w14
  clear s15k
  go_wp2_with fail
  refine calls_gen ?_
  intro V16 hV16
  have s16 : Below w15.heap.size w15 V16 := by rw [hV16]; go_grown
  have s16k := Lib.hid s16
  have q16w := Lib.hid (cw.out.trans (s16.mono cw.out.size))
  have q16V4 := Lib.hid (cV4.out.trans (s16.mono cV4.out.size))
  have q16V7 := Lib.hid (cV7.out.trans (s16.mono cV7.out.size))
  have q16w8 := Lib.hid (cw8.out.trans (s16.mono cw8.out.size))
  have q16w11 := Lib.hid (cw11.out.trans (s16.mono cw11.out.size))
  have q16w14 := Lib.hid (cw14.out.trans (s16.mono cw14.out.size))
  clear hV16 s16
  go_at_call 43
  refine Gives.then (lv_any V16) ?_
  intro w16 hb16
  have cw_n := Lib.hid (q16w.out.trans (hb16.mono q16w.out.size))
  have cV4_n := Lib.hid (q16V4.out.trans (hb16.mono q16V4.out.size))
  have cV7_n := Lib.hid (q16V7.out.trans (hb16.mono q16V7.out.size))
  have cw8_n := Lib.hid (q16w8.out.trans (hb16.mono q16w8.out.size))
  have cw11_n := Lib.hid (q16w11.out.trans (hb16.mono q16w11.out.size))
  have cw14_n := Lib.hid (q16w14.out.trans (hb16.mono q16w14.out.size))
  clear cw
  have cw := cw_n
  clear cw_n q16w
  clear cV4
  have cV4 := cV4_n
  clear cV4_n q16V4
  clear cV7
  have cV7 := cV7_n
  clear cV7_n q16V7
  clear cw8
  have cw8 := cw8_n
  clear cw8_n q16w8
  clear cw11
  have cw11 := cw11_n
  clear cw11_n q16w11
  clear cw14
  have cw14 := cw14_n
  clear cw14_n q16w14
  clear s16k
  go_wp2_with fail
  refine calls_gen ?_
  intro V17 hV17
  have s17 : Below w16.heap.size w16 V17 := by rw [hV17]; go_grown
  have s17k := Lib.hid s17
  have q17w := Lib.hid (cw.out.trans (s17.mono cw.out.size))
  have q17V4 := Lib.hid (cV4.out.trans (s17.mono cV4.out.size))
  have q17V7 := Lib.hid (cV7.out.trans (s17.mono cV7.out.size))
  have q17w8 := Lib.hid (cw8.out.trans (s17.mono cw8.out.size))
  have q17w11 := Lib.hid (cw11.out.trans (s17.mono cw11.out.size))
  have q17w14 := Lib.hid (cw14.out.trans (s17.mono cw14.out.size))
  clear hV17 s17
  go_at_call 55
  refine Gives.then (lc_any V17) ?_
  intro w17 hb17
  have cw_n := Lib.hid (q17w.out.trans (hb17.mono q17w.out.size))
  have cV4_n := Lib.hid (q17V4.out.trans (hb17.mono q17V4.out.size))
  have cV7_n := Lib.hid (q17V7.out.trans (hb17.mono q17V7.out.size))
  have cw8_n := Lib.hid (q17w8.out.trans (hb17.mono q17w8.out.size))
  have cw11_n := Lib.hid (q17w11.out.trans (hb17.mono q17w11.out.size))
  have cw14_n := Lib.hid (q17w14.out.trans (hb17.mono q17w14.out.size))
  clear cw
  have cw := cw_n
  clear cw_n q17w
  clear cV4
  have cV4 := cV4_n
  clear cV4_n q17V4
  clear cV7
  have cV7 := cV7_n
  clear cV7_n q17V7
  clear cw8
  have cw8 := cw8_n
  clear cw8_n q17w8
  clear cw11
  have cw11 := cw11_n
  clear cw11_n q17w11
  clear cw14
  have cw14 := cw14_n
  clear cw14_n q17w14
  clear s17k
  go_wp2_with fail
  refine calls_gen ?_
  intro V18 hV18
  have s18 : Below w17.heap.size w17 V18 := by rw [hV18]; go_grown
  have s18k := Lib.hid s18
  have q18w := Lib.hid (cw.out.trans (s18.mono cw.out.size))
  have q18V4 := Lib.hid (cV4.out.trans (s18.mono cV4.out.size))
  have q18V7 := Lib.hid (cV7.out.trans (s18.mono cV7.out.size))
  have q18w8 := Lib.hid (cw8.out.trans (s18.mono cw8.out.size))
  have q18w11 := Lib.hid (cw11.out.trans (s18.mono cw11.out.size))
  have q18w14 := Lib.hid (cw14.out.trans (s18.mono cw14.out.size))
  clear hV18 s18
  go_at_call 43
  refine Gives.then (lv_any V18) ?_
  intro w18 hb18
  have cw_n := Lib.hid (q18w.out.trans (hb18.mono q18w.out.size))
  have cV4_n := Lib.hid (q18V4.out.trans (hb18.mono q18V4.out.size))
  have cV7_n := Lib.hid (q18V7.out.trans (hb18.mono q18V7.out.size))
  have cw8_n := Lib.hid (q18w8.out.trans (hb18.mono q18w8.out.size))
  have cw11_n := Lib.hid (q18w11.out.trans (hb18.mono q18w11.out.size))
  have cw14_n := Lib.hid (q18w14.out.trans (hb18.mono q18w14.out.size))
  clear cw
  have cw := cw_n
  clear cw_n q18w
  clear cV4
  have cV4 := cV4_n
  clear cV4_n q18V4
  clear cV7
  have cV7 := cV7_n
  clear cV7_n q18V7
  clear cw8
  have cw8 := cw8_n
  clear cw8_n q18w8
  clear cw11
  have cw11 := cw11_n
  clear cw11_n q18w11
  clear cw14
  have cw14 := cw14_n
  clear cw14_n q18w14
  clear s18k
  go_wp2_with fail
  refine calls_gen ?_
  intro V19 hV19
  have s19 : Below w18.heap.size w18 V19 := by rw [hV19]; go_grown
  have s19k := Lib.hid s19
  have q19w := Lib.hid (cw.out.trans (s19.mono cw.out.size))
  have q19V4 := Lib.hid (cV4.out.trans (s19.mono cV4.out.size))
  have q19V7 := Lib.hid (cV7.out.trans (s19.mono cV7.out.size))
  have q19w8 := Lib.hid (cw8.out.trans (s19.mono cw8.out.size))
  have q19w11 := Lib.hid (cw11.out.trans (s19.mono cw11.out.size))
  have q19w14 := Lib.hid (cw14.out.trans (s19.mono cw14.out.size))
  have r19 : V19.heap[w18.heap.size]? = some (.cells #[.int .i64 1, .int .u32 2, .int .u32 0, .bool false, .int .i64 0, .int .i64 0, .slice none 0 0, .int .i64 1, .int .u32 4, .int .u32 0, .bool false, .int .i64 0, .int .i64 0, .slice none 0 0, .int .i64 1, .int .u32 2, .int .u32 0, .bool false, .int .i64 0, .int .i64 0, .slice none 0 0, .int .i64 1, .int .u32 4, .int .u32 0, .bool false, .int .i64 0, .int .i64 0, .slice none 0 0] 27) := by rw [hV19]; exact World.alloc_heap_new _ _
  have PT := Lib.hid (pt4 (sl := .slice (some ⟨w18.heap.size, 0, none⟩) 4 4) r19 rfl); clear r19
  clear hV19 s19
  go_at_call 41
  refine Gives.then (lseq_any _ _ _ V19) ?_
  intro w19 hb19
  have cw_n := Lib.hid (q19w.out.trans (hb19.mono q19w.out.size))
  have cV4_n := Lib.hid (q19V4.out.trans (hb19.mono q19V4.out.size))
  have cV7_n := Lib.hid (q19V7.out.trans (hb19.mono q19V7.out.size))
  have cw8_n := Lib.hid (q19w8.out.trans (hb19.mono q19w8.out.size))
  have cw11_n := Lib.hid (q19w11.out.trans (hb19.mono q19w11.out.size))
  have cw14_n := Lib.hid (q19w14.out.trans (hb19.mono q19w14.out.size))
  clear cw
  have cw := cw_n
  clear cw_n q19w
  clear cV4
  have cV4 := cV4_n
  clear cV4_n q19V4
  clear cV7
  have cV7 := cV7_n
  clear cV7_n q19V7
  clear cw8
  have cw8 := cw8_n
  clear cw8_n q19w8
  clear cw11
  have cw11 := cw11_n
  clear cw11_n q19w11
  clear cw14
  have cw14 := cw14_n
  clear cw14_n q19w14
  clear s19k
  have cV19 := Lib.hid hb19
  go_wp2_with fail
  refine calls_gen ?_
  intro V20 hV20
  have s20 : Below w19.heap.size w19 V20 := by rw [hV20]; go_grown
  have s20k := Lib.hid s20
  have q20w := Lib.hid (cw.out.trans (s20.mono cw.out.size))
  have q20V4 := Lib.hid (cV4.out.trans (s20.mono cV4.out.size))
  have q20V7 := Lib.hid (cV7.out.trans (s20.mono cV7.out.size))
  have q20w8 := Lib.hid (cw8.out.trans (s20.mono cw8.out.size))
  have q20w11 := Lib.hid (cw11.out.trans (s20.mono cw11.out.size))
  have q20w14 := Lib.hid (cw14.out.trans (s20.mono cw14.out.size))
  have q20V19 := Lib.hid (cV19.out.trans (s20.mono cV19.out.size))
  clear hV20 s20
  go_at_call 44
  refine Gives.then (lp_any V20) ?_
  intro w20 hb20
  have cw_n := Lib.hid (q20w.out.trans (hb20.mono q20w.out.size))
  have cV4_n := Lib.hid (q20V4.out.trans (hb20.mono q20V4.out.size))
  have cV7_n := Lib.hid (q20V7.out.trans (hb20.mono q20V7.out.size))
  have cw8_n := Lib.hid (q20w8.out.trans (hb20.mono q20w8.out.size))
  have cw11_n := Lib.hid (q20w11.out.trans (hb20.mono q20w11.out.size))
  have cw14_n := Lib.hid (q20w14.out.trans (hb20.mono q20w14.out.size))
  have cV19_n := Lib.hid (q20V19.out.trans (hb20.mono q20V19.out.size))
  clear cw
  have cw := cw_n
  clear cw_n q20w
  clear cV4
  have cV4 := cV4_n
  clear cV4_n q20V4
  clear cV7
  have cV7 := cV7_n
  clear cV7_n q20V7
  clear cw8
  have cw8 := cw8_n
  clear cw8_n q20w8
  clear cw11
  have cw11 := cw11_n
  clear cw11_n q20w11
  clear cw14
  have cw14 := cw14_n
  clear cw14_n q20w14
  clear cV19
  have cV19 := cV19_n
  clear cV19_n q20V19
  clear s20k
  go_wp2_with fail
  refine calls_gen ?_
  intro V21 hV21
  have s21 : Below w20.heap.size w20 V21 := by rw [hV21]; go_grown
  have s21k := Lib.hid s21
  have q21w := Lib.hid (cw.out.trans (s21.mono cw.out.size))
  have q21V4 := Lib.hid (cV4.out.trans (s21.mono cV4.out.size))
  have q21V7 := Lib.hid (cV7.out.trans (s21.mono cV7.out.size))
  have q21w8 := Lib.hid (cw8.out.trans (s21.mono cw8.out.size))
  have q21w11 := Lib.hid (cw11.out.trans (s21.mono cw11.out.size))
  have q21w14 := Lib.hid (cw14.out.trans (s21.mono cw14.out.size))
  have q21V19 := Lib.hid (cV19.out.trans (s21.mono cV19.out.size))
  clear hV21 s21
  go_at_call 54
  refine Gives.then (la_any V21) ?_
  intro w21 hb21
  have cw_n := Lib.hid (q21w.out.trans (hb21.mono q21w.out.size))
  have cV4_n := Lib.hid (q21V4.out.trans (hb21.mono q21V4.out.size))
  have cV7_n := Lib.hid (q21V7.out.trans (hb21.mono q21V7.out.size))
  have cw8_n := Lib.hid (q21w8.out.trans (hb21.mono q21w8.out.size))
  have cw11_n := Lib.hid (q21w11.out.trans (hb21.mono q21w11.out.size))
  have cw14_n := Lib.hid (q21w14.out.trans (hb21.mono q21w14.out.size))
  have cV19_n := Lib.hid (q21V19.out.trans (hb21.mono q21V19.out.size))
  clear cw
  have cw := cw_n
  clear cw_n q21w
  clear cV4
  have cV4 := cV4_n
  clear cV4_n q21V4
  clear cV7
  have cV7 := cV7_n
  clear cV7_n q21V7
  clear cw8
  have cw8 := cw8_n
  clear cw8_n q21w8
  clear cw11
  have cw11 := cw11_n
  clear cw11_n q21w11
  clear cw14
  have cw14 := cw14_n
  clear cw14_n q21w14
  clear cV19
  have cV19 := cV19_n
  clear cV19_n q21V19
  clear s21k
  go_wp2_with fail
  refine calls_gen ?_
  intro V22 hV22
  have s22 : Below w21.heap.size w21 V22 := by rw [hV22]; go_grown
  have s22k := Lib.hid s22
  have q22w := Lib.hid (cw.out.trans (s22.mono cw.out.size))
  have q22V4 := Lib.hid (cV4.out.trans (s22.mono cV4.out.size))
  have q22V7 := Lib.hid (cV7.out.trans (s22.mono cV7.out.size))
  have q22w8 := Lib.hid (cw8.out.trans (s22.mono cw8.out.size))
  have q22w11 := Lib.hid (cw11.out.trans (s22.mono cw11.out.size))
  have q22w14 := Lib.hid (cw14.out.trans (s22.mono cw14.out.size))
  have q22V19 := Lib.hid (cV19.out.trans (s22.mono cV19.out.size))
  clear hV22 s22
  go_at_call 44
  refine Gives.then (lp_any V22) ?_
  intro w22 hb22
  have cw_n := Lib.hid (q22w.out.trans (hb22.mono q22w.out.size))
  have cV4_n := Lib.hid (q22V4.out.trans (hb22.mono q22V4.out.size))
  have cV7_n := Lib.hid (q22V7.out.trans (hb22.mono q22V7.out.size))
  have cw8_n := Lib.hid (q22w8.out.trans (hb22.mono q22w8.out.size))
  have cw11_n := Lib.hid (q22w11.out.trans (hb22.mono q22w11.out.size))
  have cw14_n := Lib.hid (q22w14.out.trans (hb22.mono q22w14.out.size))
  have cV19_n := Lib.hid (q22V19.out.trans (hb22.mono q22V19.out.size))
  clear cw
  have cw := cw_n
  clear cw_n q22w
  clear cV4
  have cV4 := cV4_n
  clear cV4_n q22V4
  clear cV7
  have cV7 := cV7_n
  clear cV7_n q22V7
  clear cw8
  have cw8 := cw8_n
  clear cw8_n q22w8
  clear cw11
  have cw11 := cw11_n
  clear cw11_n q22w11
  clear cw14
  have cw14 := cw14_n
  clear cw14_n q22w14
  clear cV19
  have cV19 := cV19_n
  clear cV19_n q22V19
  clear s22k
  go_wp2_with fail
  refine calls_gen ?_
  intro V23 hV23
  have s23 : Below w22.heap.size w22 V23 := by rw [hV23]; go_grown
  have s23k := Lib.hid s23
  have q23w := Lib.hid (cw.out.trans (s23.mono cw.out.size))
  have q23V4 := Lib.hid (cV4.out.trans (s23.mono cV4.out.size))
  have q23V7 := Lib.hid (cV7.out.trans (s23.mono cV7.out.size))
  have q23w8 := Lib.hid (cw8.out.trans (s23.mono cw8.out.size))
  have q23w11 := Lib.hid (cw11.out.trans (s23.mono cw11.out.size))
  have q23w14 := Lib.hid (cw14.out.trans (s23.mono cw14.out.size))
  have q23V19 := Lib.hid (cV19.out.trans (s23.mono cV19.out.size))
  clear hV23 s23
  go_at_call 54
  refine Gives.then (la_any V23) ?_
  intro w23 hb23
  have cw_n := Lib.hid (q23w.out.trans (hb23.mono q23w.out.size))
  have cV4_n := Lib.hid (q23V4.out.trans (hb23.mono q23V4.out.size))
  have cV7_n := Lib.hid (q23V7.out.trans (hb23.mono q23V7.out.size))
  have cw8_n := Lib.hid (q23w8.out.trans (hb23.mono q23w8.out.size))
  have cw11_n := Lib.hid (q23w11.out.trans (hb23.mono q23w11.out.size))
  have cw14_n := Lib.hid (q23w14.out.trans (hb23.mono q23w14.out.size))
  have cV19_n := Lib.hid (q23V19.out.trans (hb23.mono q23V19.out.size))
  clear cw
  have cw := cw_n
  clear cw_n q23w
  clear cV4
  have cV4 := cV4_n
  clear cV4_n q23V4
  clear cV7
  have cV7 := cV7_n
  clear cV7_n q23V7
  clear cw8
  have cw8 := cw8_n
  clear cw8_n q23w8
  clear cw11
  have cw11 := cw11_n
  clear cw11_n q23w11
  clear cw14
  have cw14 := cw14_n
  clear cw14_n q23w14
  clear cV19
  have cV19 := cV19_n
  clear cV19_n q23V19
  clear s23k
  go_wp2_with fail
  refine calls_gen ?_
  intro V24 hV24
  have s24 : Below w23.heap.size w23 V24 := by rw [hV24]; go_grown
  have s24k := Lib.hid s24
  have q24w := Lib.hid (cw.out.trans (s24.mono cw.out.size))
  have q24V4 := Lib.hid (cV4.out.trans (s24.mono cV4.out.size))
  have q24V7 := Lib.hid (cV7.out.trans (s24.mono cV7.out.size))
  have q24w8 := Lib.hid (cw8.out.trans (s24.mono cw8.out.size))
  have q24w11 := Lib.hid (cw11.out.trans (s24.mono cw11.out.size))
  have q24w14 := Lib.hid (cw14.out.trans (s24.mono cw14.out.size))
  have q24V19 := Lib.hid (cV19.out.trans (s24.mono cV19.out.size))
  have r24 : V24.heap[w23.heap.size]? = some (.cells #[.int .u32 2, .int .u32 5, .int .u32 4, .int .u32 2, .int .u32 2, .int .u32 5, .int .u32 4, .int .u32 2] 24) := by rw [hV24]; exact World.alloc_heap_new _ _
  have W4 := Lib.hid (wd4 (x := sp) (y := sa) (z := sp) (u := sa) r24); clear r24
  clear hV24 s24
  go_at_call 29
  refine Gives.then (matches_any (qN _) cvcv papa _ V24 (PT.out.below q24V19.out) W4.out (hT.out.below q24w.out ht0) (by have := q24w.out.size; omega)) ?_
  intro w24 hb24
  have cw_n := Lib.hid (q24w.out.trans (hb24.mono q24w.out.size))
  have cV4_n := Lib.hid (q24V4.out.trans (hb24.mono q24V4.out.size))
  have cV7_n := Lib.hid (q24V7.out.trans (hb24.mono q24V7.out.size))
  have cw8_n := Lib.hid (q24w8.out.trans (hb24.mono q24w8.out.size))
  have cw11_n := Lib.hid (q24w11.out.trans (hb24.mono q24w11.out.size))
  have cw14_n := Lib.hid (q24w14.out.trans (hb24.mono q24w14.out.size))
  have cV19_n := Lib.hid (q24V19.out.trans (hb24.mono q24V19.out.size))
  clear cw
  have cw := cw_n
  clear cw_n q24w
  clear cV4
  have cV4 := cV4_n
  clear cV4_n q24V4
  clear cV7
  have cV7 := cV7_n
  clear cV7_n q24V7
  clear cw8
  have cw8 := cw8_n
  clear cw8_n q24w8
  clear cw11
  have cw11 := cw11_n
  clear cw11_n q24w11
  clear cw14
  have cw14 := cw14_n
  clear cw14_n q24w14
  clear cV19
  have cV19 := cV19_n
  clear cV19_n q24V19
  clear s24k
  rw [wk4, wk4E]; clear PT W4
  clear cV19
  go_wp2_with fail
  refine calls_gen ?_
  intro V25 hV25
  have s25 : Below w24.heap.size w24 V25 := by rw [hV25]; go_grown
  have s25k := Lib.hid s25
  have q25w := Lib.hid (cw.out.trans (s25.mono cw.out.size))
  have q25V4 := Lib.hid (cV4.out.trans (s25.mono cV4.out.size))
  have q25V7 := Lib.hid (cV7.out.trans (s25.mono cV7.out.size))
  have q25w8 := Lib.hid (cw8.out.trans (s25.mono cw8.out.size))
  have q25w11 := Lib.hid (cw11.out.trans (s25.mono cw11.out.size))
  have q25w14 := Lib.hid (cw14.out.trans (s25.mono cw14.out.size))
  clear hV25 s25
  go_at_call 43
  refine Gives.then (lv_any V25) ?_
  intro w25 hb25
  have cw_n := Lib.hid (q25w.out.trans (hb25.mono q25w.out.size))
  have cV4_n := Lib.hid (q25V4.out.trans (hb25.mono q25V4.out.size))
  have cV7_n := Lib.hid (q25V7.out.trans (hb25.mono q25V7.out.size))
  have cw8_n := Lib.hid (q25w8.out.trans (hb25.mono q25w8.out.size))
  have cw11_n := Lib.hid (q25w11.out.trans (hb25.mono q25w11.out.size))
  have cw14_n := Lib.hid (q25w14.out.trans (hb25.mono q25w14.out.size))
  clear cw
  have cw := cw_n
  clear cw_n q25w
  clear cV4
  have cV4 := cV4_n
  clear cV4_n q25V4
  clear cV7
  have cV7 := cV7_n
  clear cV7_n q25V7
  clear cw8
  have cw8 := cw8_n
  clear cw8_n q25w8
  clear cw11
  have cw11 := cw11_n
  clear cw11_n q25w11
  clear cw14
  have cw14 := cw14_n
  clear cw14_n q25w14
  clear s25k
  go_wp2_with fail
  refine calls_gen ?_
  intro V26 hV26
  have s26 : Below w25.heap.size w25 V26 := by rw [hV26]; go_grown
  have s26k := Lib.hid s26
  have q26w := Lib.hid (cw.out.trans (s26.mono cw.out.size))
  have q26V4 := Lib.hid (cV4.out.trans (s26.mono cV4.out.size))
  have q26V7 := Lib.hid (cV7.out.trans (s26.mono cV7.out.size))
  have q26w8 := Lib.hid (cw8.out.trans (s26.mono cw8.out.size))
  have q26w11 := Lib.hid (cw11.out.trans (s26.mono cw11.out.size))
  have q26w14 := Lib.hid (cw14.out.trans (s26.mono cw14.out.size))
  have r26 : V26.heap[w25.heap.size]? = some (.cells #[.int .i64 1, .int .u32 4, .int .u32 0, .bool false, .int .i64 0, .int .i64 0, .slice none 0 0, .int .i64 6, .int .u32 0, .int .u32 0, .bool false, .int .i64 0, .int .i64 0, .slice none 0 0] 27) := by rw [hV26]; exact World.alloc_heap_new _ _
  have PT := Lib.hid (pt2 (sl := .slice (some ⟨w25.heap.size, 0, none⟩) 2 2) r26 rfl); clear r26
  clear hV26 s26
  go_at_call 41
  refine Gives.then (lseq_any _ _ _ V26) ?_
  intro w26 hb26
  have cw_n := Lib.hid (q26w.out.trans (hb26.mono q26w.out.size))
  have cV4_n := Lib.hid (q26V4.out.trans (hb26.mono q26V4.out.size))
  have cV7_n := Lib.hid (q26V7.out.trans (hb26.mono q26V7.out.size))
  have cw8_n := Lib.hid (q26w8.out.trans (hb26.mono q26w8.out.size))
  have cw11_n := Lib.hid (q26w11.out.trans (hb26.mono q26w11.out.size))
  have cw14_n := Lib.hid (q26w14.out.trans (hb26.mono q26w14.out.size))
  clear cw
  have cw := cw_n
  clear cw_n q26w
  clear cV4
  have cV4 := cV4_n
  clear cV4_n q26V4
  clear cV7
  have cV7 := cV7_n
  clear cV7_n q26V7
  clear cw8
  have cw8 := cw8_n
  clear cw8_n q26w8
  clear cw11
  have cw11 := cw11_n
  clear cw11_n q26w11
  clear cw14
  have cw14 := cw14_n
  clear cw14_n q26w14
  clear s26k
  have cV26 := Lib.hid hb26
  go_wp2_with fail
  refine calls_gen ?_
  intro V27 hV27
  have s27 : Below w26.heap.size w26 V27 := by rw [hV27]; go_grown
  have s27k := Lib.hid s27
  have q27w := Lib.hid (cw.out.trans (s27.mono cw.out.size))
  have q27V4 := Lib.hid (cV4.out.trans (s27.mono cV4.out.size))
  have q27V7 := Lib.hid (cV7.out.trans (s27.mono cV7.out.size))
  have q27w8 := Lib.hid (cw8.out.trans (s27.mono cw8.out.size))
  have q27w11 := Lib.hid (cw11.out.trans (s27.mono cw11.out.size))
  have q27w14 := Lib.hid (cw14.out.trans (s27.mono cw14.out.size))
  have q27V26 := Lib.hid (cV26.out.trans (s27.mono cV26.out.size))
  clear hV27 s27
  go_at_call 31
  refine Gives.then (find_anyP (qN _) vE apa _ 0 V27 (PT.out.below q27V26.out) (A.out.below q27V4.out) (hT.out.below q27w.out ht0) (by have := q27w.out.size; omega)) ?_
  intro w27 hb27
  have cw_n := Lib.hid (q27w.out.trans (hb27.mono q27w.out.size))
  have cV4_n := Lib.hid (q27V4.out.trans (hb27.mono q27V4.out.size))
  have cV7_n := Lib.hid (q27V7.out.trans (hb27.mono q27V7.out.size))
  have cw8_n := Lib.hid (q27w8.out.trans (hb27.mono q27w8.out.size))
  have cw11_n := Lib.hid (q27w11.out.trans (hb27.mono q27w11.out.size))
  have cw14_n := Lib.hid (q27w14.out.trans (hb27.mono q27w14.out.size))
  have cV26_n := Lib.hid (q27V26.out.trans (hb27.mono q27V26.out.size))
  clear cw
  have cw := cw_n
  clear cw_n q27w
  clear cV4
  have cV4 := cV4_n
  clear cV4_n q27V4
  clear cV7
  have cV7 := cV7_n
  clear cV7_n q27V7
  clear cw8
  have cw8 := cw8_n
  clear cw8_n q27w8
  clear cw11
  have cw11 := cw11_n
  clear cw11_n q27w11
  clear cw14
  have cw14 := cw14_n
  clear cw14_n q27w14
  clear cV26
  have cV26 := cV26_n
  clear cV26_n q27V26
  clear s27k
  rw [wk5, wk5E]; clear PT A P
  clear cV26
  clear cV4
  clear cV7
  go_wp2_with fail
  refine calls_gen ?_
  intro V28 hV28
  have s28 : Below w27.heap.size w27 V28 := by rw [hV28]; go_grown
  have s28k := Lib.hid s28
  have q28w := Lib.hid (cw.out.trans (s28.mono cw.out.size))
  have q28w8 := Lib.hid (cw8.out.trans (s28.mono cw8.out.size))
  have q28w11 := Lib.hid (cw11.out.trans (s28.mono cw11.out.size))
  have q28w14 := Lib.hid (cw14.out.trans (s28.mono cw14.out.size))
  have r28 : V28.heap[w27.heap.size]? = some (.cells #[.int .i64 1] 3) := by rw [hV28]; exact World.alloc_heap_new _ _
  clear hV28 s28
  go_at_call 27
  refine Gives.then (places_any [1] [1] _ _ V28 (X.out.below q28w8.out) (is_new1 r28)) ?_
  intro w28 hb28
  have cw_n := Lib.hid (q28w.out.trans (hb28.mono q28w.out.size))
  have cw8_n := Lib.hid (q28w8.out.trans (hb28.mono q28w8.out.size))
  have cw11_n := Lib.hid (q28w11.out.trans (hb28.mono q28w11.out.size))
  have cw14_n := Lib.hid (q28w14.out.trans (hb28.mono q28w14.out.size))
  clear cw
  have cw := cw_n
  clear cw_n q28w
  clear cw8
  have cw8 := cw8_n
  clear cw8_n q28w8
  clear cw11
  have cw11 := cw11_n
  clear cw11_n q28w11
  clear cw14
  have cw14 := cw14_n
  clear cw14_n q28w14
  clear s28k
  clear r28
  rw [show decide (([1] : List Nat) = [1]) = true from by decide]
  clear cw8 X
  go_wp2_with fail
  refine calls_gen ?_
  intro V29 hV29
  have s29 : Below w28.heap.size w28 V29 := by rw [hV29]; go_grown
  have s29k := Lib.hid s29
  have q29w := Lib.hid (cw.out.trans (s29.mono cw.out.size))
  have q29w11 := Lib.hid (cw11.out.trans (s29.mono cw11.out.size))
  have q29w14 := Lib.hid (cw14.out.trans (s29.mono cw14.out.size))
  have r29 : V29.heap[w28.heap.size]? = some (.cells #[.int .i64 0, .int .i64 1, .int .i64 2] 3) := by rw [hV29]; exact World.alloc_heap_new _ _
  clear hV29 s29
  go_at_call 27
  refine Gives.then (places_any [0, 1, 2] [0, 1, 2] _ _ V29 (Y.out.below q29w11.out) (is_new3 r29)) ?_
  intro w29 hb29
  have cw_n := Lib.hid (q29w.out.trans (hb29.mono q29w.out.size))
  have cw11_n := Lib.hid (q29w11.out.trans (hb29.mono q29w11.out.size))
  have cw14_n := Lib.hid (q29w14.out.trans (hb29.mono q29w14.out.size))
  clear cw
  have cw := cw_n
  clear cw_n q29w
  clear cw11
  have cw11 := cw11_n
  clear cw11_n q29w11
  clear cw14
  have cw14 := cw14_n
  clear cw14_n q29w14
  clear s29k
  clear r29
  rw [show decide (([0, 1, 2] : List Nat) = [0, 1, 2]) = true from by decide]
  clear cw11 Y
  go_wp2_with fail
  refine calls_gen ?_
  intro V30 hV30
  have s30 : Below w29.heap.size w29 V30 := by rw [hV30]; go_grown
  have s30k := Lib.hid s30
  have q30w := Lib.hid (cw.out.trans (s30.mono cw.out.size))
  have q30w14 := Lib.hid (cw14.out.trans (s30.mono cw14.out.size))
  have r30 : V30.heap[w29.heap.size]? = some (.cells #[.int .i64 0, .int .i64 1, .int .i64 2] 3) := by rw [hV30]; exact World.alloc_heap_new _ _
  clear hV30 s30
  go_at_call 27
  refine Gives.then (places_any [0, 1, 2] [0, 1, 2] _ _ V30 (Z.out.below q30w14.out) (is_new3 r30)) ?_
  intro w30 hb30
  have cw_n := Lib.hid (q30w.out.trans (hb30.mono q30w.out.size))
  have cw14_n := Lib.hid (q30w14.out.trans (hb30.mono q30w14.out.size))
  clear cw
  have cw := cw_n
  clear cw_n q30w
  clear cw14
  have cw14 := cw14_n
  clear cw14_n q30w14
  clear s30k
  clear r30
  rw [show decide (([0, 1, 2] : List Nat) = [0, 1, 2]) = true from by decide]
  clear cw14 Z
  go_wp2_with fail
  refine calls_gen ?_
  intro V31 hV31
  have s31 : Below w30.heap.size w30 V31 := by rw [hV31]; go_grown
  have s31k := Lib.hid s31
  have q31w := Lib.hid (cw.out.trans (s31.mono cw.out.size))
  clear hV31 s31
  go_at_call 43
  refine Gives.then (lv_any V31) ?_
  intro w31 hb31
  have cw_n := Lib.hid (q31w.out.trans (hb31.mono q31w.out.size))
  clear cw
  have cw := cw_n
  clear cw_n q31w
  clear s31k
  go_wp2_with fail
  refine calls_gen ?_
  intro V32 hV32
  have s32 : Below w31.heap.size w31 V32 := by rw [hV32]; go_grown
  have s32k := Lib.hid s32
  have q32w := Lib.hid (cw.out.trans (s32.mono cw.out.size))
  clear hV32 s32
  go_at_call 42
  refine (lrep_any vN .nil 0 1 V32 (pt_none rfl)).mono ?_
  rintro e w32 ⟨B, rfl, hpt, hb32⟩
  have cw_n := Lib.hid (q32w.out.trans (hb32.mono q32w.out.size))
  clear cw
  have cw := cw_n
  clear cw_n q32w
  clear s32k
  have PT := Lib.hid hpt; clear hpt
  go_wp2_with fail
  refine calls_gen ?_
  intro V33 hV33
  have s33 : Below w32.heap.size w32 V33 := by rw [hV33]; go_grown
  have s33k := Lib.hid s33
  have q33w := Lib.hid (cw.out.trans (s33.mono cw.out.size))
  clear hV33 s33
  go_at_call 18
  refine Gives.then (empty_anyP (rN 0 1 _) (one vN) V33 (PT.out.below s33k.out) (hT.out.below q33w.out ht0) (by have := q33w.out.size; omega)) ?_
  intro w33 hb33
  have cw_n := Lib.hid (q33w.out.trans (hb33.mono q33w.out.size))
  clear cw
  have cw := cw_n
  clear cw_n q33w
  clear s33k
  rw [wk6]; clear PT
  go_wp2_with fail
  refine calls_gen ?_
  intro V34 hV34
  have s34 : Below w33.heap.size w33 V34 := by rw [hV34]; go_grown
  have s34k := Lib.hid s34
  have q34w := Lib.hid (cw.out.trans (s34.mono cw.out.size))
  clear hV34 s34
  go_at_call 14
  refine Gives.then (pcheck_any bN .nil V34 (pt_none rfl)) ?_
  intro w34 hb34
  have cw_n := Lib.hid (q34w.out.trans (hb34.mono q34w.out.size))
  clear cw
  have cw := cw_n
  clear cw_n q34w
  clear s34k
  rw [wk7]
  go_wp2_with fail
  go_returns
  exact ⟨rfl, cw.out⟩
end Go.Proofs.YtmobilppakjihaaDoor
