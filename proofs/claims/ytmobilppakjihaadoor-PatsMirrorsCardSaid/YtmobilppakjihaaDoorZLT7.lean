/-
  Lemmas that the theorem of this claim rests on: 5 texts, one behind the other.
-/
import Derived.Test.YtmobilppakjihaaDoorM36
import Derived.Test.YtmobilppakjihaaDoorM25
import Derived.Test.YtmobilppakjihaaDoorM28
import Derived.Test.YtmobilppakjihaaDoorM38
import Derived.Deep.CutRange
import Derived.Test.YtmobilppakjihaaDoorM39
set_option linter.unusedSimpArgs false
set_option linter.unusedVariables false
/-
  Mirror of any pattern, and Copy, with the rows that they make.
-/
namespace Go.Proofs.YtmobilppakjihaaDoor
open Go.RowKit Go.Sort
set_option maxRecDepth 100000 in
set_option maxHeartbeats 4000000 in
theorem pmirR (d : Nd) (k : Fo) (w : World) (hp : Pt w d k) (hE : pkE d k = 0) :
    Calls Tryd.prog 35 #[ndV d] w fun e w' => ∃ d' k', e = .returned (.tuple #[ndV d', .int .i64 0]) ∧ ptq (mirD d) (mirC d k) d' k' = true ∧ PtR w' w.heap.size w'.heap.size d' k' ∧ (∃ ao cap, d'.sl = .slice ao k'.len cap) ∧ Below w.heap.size w w' := by
  have hck := fun (W : World) (hb : Below w.heap.size w W) => pcheck_any d k W (hp.below hb)
  have hmi := fun (W : World) (hb : Below w.heap.size w W) => mirror_all (k.size + 1) d k (by omega) W (hp.below hb) (by have := (pkE_good hE).2.2; omega)
  rw [hE] at hck
  obtain ⟨ao, cap, hsl, -, -, -⟩ := hp.open
  generalize mirD d = md at *
  generalize mirC d k = mk at *
  obtain ⟨kind, ⟨p, m⟩, neg, mi, ma, sl⟩ := d
  simp only at hsl
  subst hsl
  obtain ⟨kl, hkl⟩ : ∃ kl, k.len = kl := ⟨_, rfl⟩
  rw [hkl] at hck hmi ⊢
  unfold ndV at hck hmi ⊢
  simp only at hck hmi ⊢
  have HCK := Lib.hid hck; have HMI := Lib.hid hmi
  clear hck hmi hp hE hkl
  have R0 := Lib.hid (show ((w.alloc (.cells #[.int .i64 kind, .int .u32 (p.toNat : Int), .int .u32 (m.toNat : Int), .bool neg, .int .i64 mi, .int .i64 ma, .slice ao kl cap] 27)).alloc (.cells #[.int .i64 0, .int .u32 0, .int .u32 0, .bool false, .int .i64 0, .int .i64 0, .slice none 0 0] 27)).heap[w.heap.size]? = some (.cells #[.int .i64 kind, .int .u32 (p.toNat : Int), .int .u32 (m.toNat : Int), .bool neg, .int .i64 mi, .int .i64 ma, .slice ao kl cap] 27) from (Below.heap_alloc _ _ _ (by rw [World.size_alloc]; omega)).trans (World.alloc_heap_new w _))
  have Z0 := Lib.hid (show ((w.alloc (.cells #[.int .i64 kind, .int .u32 (p.toNat : Int), .int .u32 (m.toNat : Int), .bool neg, .int .i64 mi, .int .i64 ma, .slice ao kl cap] 27)).alloc (.cells #[.int .i64 0, .int .u32 0, .int .u32 0, .bool false, .int .i64 0, .int .i64 0, .slice none 0 0] 27)).heap[w.heap.size + 1]? = some (.cells #[.int .i64 0, .int .u32 0, .int .u32 0, .bool false, .int .i64 0, .int .i64 0, .slice none 0 0] 27 (0, 0)) from heap_alloc2_new w _ _)
  have HB0 := Lib.hid (show Below w.heap.size w ((w.alloc (.cells #[.int .i64 kind, .int .u32 (p.toNat : Int), .int .u32 (m.toNat : Int), .bool neg, .int .i64 mi, .int .i64 ma, .slice ao kl cap] 27)).alloc (.cells #[.int .i64 0, .int .u32 0, .int .u32 0, .bool false, .int .i64 0, .int .i64 0, .slice none 0 0] 27)) by go_grown)
  go_enter Tryd.func35, Tryd.ntmps35
  go_wp2_with fail
  generalize ((w.alloc (.cells #[.int .i64 kind, .int .u32 (p.toNat : Int), .int .u32 (m.toNat : Int), .bool neg, .int .i64 mi, .int .i64 ma, .slice ao kl cap] 27)).alloc (.cells #[.int .i64 0, .int .u32 0, .int .u32 0, .bool false, .int .i64 0, .int .i64 0, .slice none 0 0] 27)) = v0 at *
  go_at_call 14
  refine Gives.then (HCK.out _ HB0.out) ?_
  intro w1 hb
  have HB1 := Lib.hid (HB0.out.trans (hb.mono HB0.out.size))
  have R1 := Lib.hid ((hb.block _ (Array.getElem?_eq_some_iff.1 R0.out).1).trans R0.out)
  have Z1 := Lib.hid ((hb.block _ (Array.getElem?_eq_some_iff.1 Z0.out).1).trans Z0.out)
  clear hb R0 Z0 HB0 HCK
  have g0 := cell_block R1.out (o := 0) rfl; have g1 := cell_block R1.out (o := 1) rfl; have g2 := cell_block R1.out (o := 2) rfl; have g3 := cell_block R1.out (o := 3) rfl; have g4 := cell_block R1.out (o := 4) rfl; have g5 := cell_block R1.out (o := 5) rfl; have g6 := cell_block R1.out (o := 6) rfl
  go_wp2_with fail
  go_at_call 62
  refine (HMI.out _ HB1.out).mono ?_
  rintro e w2 ⟨d3, k3, rfl, hq, hr, ho, hs, hb⟩
  have HQ := Lib.hid hq; have HS := Lib.hid hs
  obtain ⟨a3, c3, hs3⟩ := hs
  have hlz := (Array.getElem?_eq_some_iff.1 Z1.out).1
  have HLZ := Lib.hid hlz
  have HR := Lib.hid hr
  have HB2 := Lib.hid (HB1.out.trans (hb.mono HB1.out.size))
  have Z2 := Lib.hid ((hb.block _ hlz).trans Z1.out)
  have HSZ := Lib.hid hb.size
  clear hq hr ho hb Z1 R1 HMI g0 g1 g2 g3 g4 g5 g6 hlz
  obtain ⟨kd3, ⟨p3, m3⟩, neg3, mi3, ma3, sl3⟩ := d3
  simp only at hs3
  subst hs3
  simp only
  have h0 := cell_block Z2.out (o := 0) rfl; have h1 := cell_block Z2.out (o := 1) rfl; have h2 := cell_block Z2.out (o := 2) rfl; have h3 := cell_block Z2.out (o := 3) rfl; have h4 := cell_block Z2.out (o := 4) rfl; have h5 := cell_block Z2.out (o := 5) rfl; have h6 := cell_block Z2.out (o := 6) rfl
  have f0 := frozen_block Z2.out (o := 0); have f1 := frozen_block Z2.out (o := 1); have f2 := frozen_block Z2.out (o := 2); have f3 := frozen_block Z2.out (o := 3); have f4 := frozen_block Z2.out (o := 4); have f5 := frozen_block Z2.out (o := 5); have f6 := frozen_block Z2.out (o := 6)
  go_wp2_with fail
  refine bodyPost_gen ?_
  intro Wf hWf
  have RF := Lib.hid (show Wf.heap[w.heap.size + 1]? = some (.cells #[.int .i64 kd3, .int .u32 (p3.toNat : Int), .int .u32 (m3.toNat : Int), .bool neg3, .int .i64 mi3, .int .i64 ma3, .slice a3 k3.len c3] 27 (0, 0)) by rw [hWf]; exact seven Z2.out _ _ _ _ _ _ _)
  have RO := Lib.hid (show Old (w.heap.size + 1 + 1) w2 Wf by rw [hWf]; (repeat (first | (with_reducible exact Old.refl _ _) | refine Old.set ?_ (by simp only []; omega) _)))
  have RL := Lib.hid (show Below w.heap.size w Wf by rw [hWf]; (repeat (first | (with_reducible exact HB2.out) | refine Below.setCell ?_ (by simp only []; omega) _)))
  clear hWf h0 h1 h2 h3 h4 h5 h6 f0 f1 f2 f3 f4 f5 f6
  have q0 : Wf.cell? ⟨w.heap.size + 1, 0, none⟩ = some (.int .i64 kd3) := cell_block RF.out rfl
  have q1 : Wf.cell? ⟨w.heap.size + 1, 1, none⟩ = some (.int .u32 (p3.toNat : Int)) := cell_block RF.out rfl
  have q2 : Wf.cell? ⟨w.heap.size + 1, 2, none⟩ = some (.int .u32 (m3.toNat : Int)) := cell_block RF.out rfl
  have q3 : Wf.cell? ⟨w.heap.size + 1, 3, none⟩ = some (.bool neg3) := cell_block RF.out rfl
  have q4 : Wf.cell? ⟨w.heap.size + 1, 4, none⟩ = some (.int .i64 mi3) := cell_block RF.out rfl
  have q5 : Wf.cell? ⟨w.heap.size + 1, 5, none⟩ = some (.int .i64 ma3) := cell_block RF.out rfl
  have q6 : Wf.cell? ⟨w.heap.size + 1, 6, none⟩ = some (.slice a3 k3.len c3) := cell_block RF.out rfl
  refine bodyPost_ret (v := .tuple #[.agg #[.int .i64 kd3, .int .u32 (p3.toNat : Int), .int .u32 (m3.toNat : Int), .bool neg3, .int .i64 mi3, .int .i64 ma3, .slice a3 k3.len c3], .int .i64 0]) (by simp [results, Tryd.results35, go_sem, q0, q1, q2, q3, q4, q5, q6]) rfl ?_
  have hpt : PtR Wf (w.heap.size + 1 + 1) Wf.heap.size ⟨kd3, (p3, m3), neg3, mi3, ma3, .slice a3 k3.len c3⟩ k3 := HR.out.move (by have := HLZ.out; omega) (by rw [RO.out.1]; exact Nat.le_refl _) (fun b h1 _ => RO.out.2 b (by have := HLZ.out; omega))
  first | exact ⟨⟨kd3, (p3, m3), neg3, mi3, ma3, .slice a3 k3.len c3⟩, k3, rfl, HQ.out, (hpt.move (by omega) (Nat.le_refl _) (fun _ _ _ => rfl)), HS.out, RL.out⟩ | exact ⟨⟨kd3, (p3, m3), neg3, mi3, ma3, .slice a3 k3.len c3⟩, rfl, k3, HQ.out, (hpt.move (by omega) (Nat.le_refl _) (fun _ _ _ => rfl)), HS.out, RL.out⟩
set_option maxRecDepth 100000 in
set_option maxHeartbeats 4000000 in
theorem pmirE (d : Nd) (k : Fo) (w : World) (hp : Pt w d k) (hE : pkE d k ≠ 0) :
    Calls Tryd.prog 35 #[ndV d] w fun e w' => e = .returned (.tuple #[.agg #[.int .i64 0, .int .u32 0, .int .u32 0, .bool false, .int .i64 0, .int .i64 0, .slice none 0 0], .int .i64 (pkE d k)]) ∧ Below w.heap.size w w' := by
  have hck := fun (W : World) (hb : Below w.heap.size w W) => pcheck_any d k W (hp.below hb)
  obtain ⟨E, hEE⟩ : ∃ E, pkE d k = E := ⟨_, rfl⟩
  rw [hEE] at hck hE ⊢
  obtain ⟨ao, cap, hsl, -, -, -⟩ := hp.open
  obtain ⟨kind, ⟨p, m⟩, neg, mi, ma, sl⟩ := d
  simp only at hsl
  subst hsl
  obtain ⟨kl, hkl⟩ : ∃ kl, k.len = kl := ⟨_, rfl⟩
  rw [hkl] at hck ⊢
  unfold ndV at hck ⊢
  simp only at hck ⊢
  have HCK := Lib.hid hck
  have hEb := int_eqf hE
  clear hck hp hEE hkl
  have R0 := Lib.hid (show ((w.alloc (.cells #[.int .i64 kind, .int .u32 (p.toNat : Int), .int .u32 (m.toNat : Int), .bool neg, .int .i64 mi, .int .i64 ma, .slice ao kl cap] 27)).alloc (.cells #[.int .i64 0, .int .u32 0, .int .u32 0, .bool false, .int .i64 0, .int .i64 0, .slice none 0 0] 27)).heap[w.heap.size]? = some (.cells #[.int .i64 kind, .int .u32 (p.toNat : Int), .int .u32 (m.toNat : Int), .bool neg, .int .i64 mi, .int .i64 ma, .slice ao kl cap] 27) from (Below.heap_alloc _ _ _ (by rw [World.size_alloc]; omega)).trans (World.alloc_heap_new w _))
  have Z0 := Lib.hid (show ((w.alloc (.cells #[.int .i64 kind, .int .u32 (p.toNat : Int), .int .u32 (m.toNat : Int), .bool neg, .int .i64 mi, .int .i64 ma, .slice ao kl cap] 27)).alloc (.cells #[.int .i64 0, .int .u32 0, .int .u32 0, .bool false, .int .i64 0, .int .i64 0, .slice none 0 0] 27)).heap[w.heap.size + 1]? = some (.cells #[.int .i64 0, .int .u32 0, .int .u32 0, .bool false, .int .i64 0, .int .i64 0, .slice none 0 0] 27) from heap_alloc2_new w _ _)
  have HB0 := Lib.hid (show Below w.heap.size w ((w.alloc (.cells #[.int .i64 kind, .int .u32 (p.toNat : Int), .int .u32 (m.toNat : Int), .bool neg, .int .i64 mi, .int .i64 ma, .slice ao kl cap] 27)).alloc (.cells #[.int .i64 0, .int .u32 0, .int .u32 0, .bool false, .int .i64 0, .int .i64 0, .slice none 0 0] 27)) by go_grown)
  go_enter Tryd.func35, Tryd.ntmps35
  go_wp2_with fail
  generalize ((w.alloc (.cells #[.int .i64 kind, .int .u32 (p.toNat : Int), .int .u32 (m.toNat : Int), .bool neg, .int .i64 mi, .int .i64 ma, .slice ao kl cap] 27)).alloc (.cells #[.int .i64 0, .int .u32 0, .int .u32 0, .bool false, .int .i64 0, .int .i64 0, .slice none 0 0] 27)) = v0 at *
  go_at_call 14
  refine Gives.then (HCK.out _ HB0.out) ?_
  intro w1 hb
  have HB1 := Lib.hid (HB0.out.trans (hb.mono HB0.out.size))
  have Z1 := Lib.hid ((hb.block _ (Array.getElem?_eq_some_iff.1 Z0.out).1).trans Z0.out)
  clear hb R0 Z0 HB0 HCK
  have h0 := cell_block Z1.out (o := 0) rfl; have h1 := cell_block Z1.out (o := 1) rfl; have h2 := cell_block Z1.out (o := 2) rfl; have h3 := cell_block Z1.out (o := 3) rfl; have h4 := cell_block Z1.out (o := 4) rfl; have h5 := cell_block Z1.out (o := 5) rfl; have h6 := cell_block Z1.out (o := 6) rfl
  have f0 := frozen_block Z1.out (o := 0); have f1 := frozen_block Z1.out (o := 1); have f2 := frozen_block Z1.out (o := 2); have f3 := frozen_block Z1.out (o := 3); have f4 := frozen_block Z1.out (o := 4); have f5 := frozen_block Z1.out (o := 5); have f6 := frozen_block Z1.out (o := 6)
  go_wp2_with fail
  refine bodyPost_gen ?_
  intro Wf hWf
  have RF := Lib.hid (show Wf.heap[w.heap.size + 1]? = some (.cells #[.int .i64 0, .int .u32 0, .int .u32 0, .bool false, .int .i64 0, .int .i64 0, .slice none 0 0] 27 (0, 0)) by rw [hWf]; exact seven Z1.out _ _ _ _ _ _ _)
  have RL := Lib.hid (show Below w.heap.size w Wf by rw [hWf]; (repeat (first | (with_reducible exact HB1.out) | refine Below.setCell ?_ (by simp only []; omega) _)))
  clear hWf
  have q0 : Wf.cell? ⟨w.heap.size + 1, 0, none⟩ = some (.int .i64 0) := cell_block RF.out rfl
  have q1 : Wf.cell? ⟨w.heap.size + 1, 1, none⟩ = some (.int .u32 0) := cell_block RF.out rfl
  have q2 : Wf.cell? ⟨w.heap.size + 1, 2, none⟩ = some (.int .u32 0) := cell_block RF.out rfl
  have q3 : Wf.cell? ⟨w.heap.size + 1, 3, none⟩ = some (.bool false) := cell_block RF.out rfl
  have q4 : Wf.cell? ⟨w.heap.size + 1, 4, none⟩ = some (.int .i64 0) := cell_block RF.out rfl
  have q5 : Wf.cell? ⟨w.heap.size + 1, 5, none⟩ = some (.int .i64 0) := cell_block RF.out rfl
  have q6 : Wf.cell? ⟨w.heap.size + 1, 6, none⟩ = some (.slice none 0 0) := cell_block RF.out rfl
  refine bodyPost_ret (v := .tuple #[.agg #[.int .i64 0, .int .u32 0, .int .u32 0, .bool false, .int .i64 0, .int .i64 0, .slice none 0 0], .int .i64 E]) (by simp [results, Tryd.results35, go_sem, q0, q1, q2, q3, q4, q5, q6]) rfl ?_
  exact ⟨rfl, RL.out⟩
set_option maxRecDepth 100000 in
set_option maxHeartbeats 4000000 in
theorem rmirE (d : Nd) (k : Fo) (w : World) (hp : Pt w d k) (hE : pkE d k ≠ 0) :
    Calls Tryd.prog 36 #[ndV d] w fun e w' => e = .returned (.tuple #[.agg #[.int .i64 0, .int .u32 0, .int .u32 0, .bool false, .int .i64 0, .int .i64 0, .slice none 0 0], .int .i64 (pkE d k)]) ∧ Below w.heap.size w w' := by
  have hck := fun (W : World) (hb : Below w.heap.size w W) => rpcheck_any d k W (hp.below hb)
  obtain ⟨E, hEE⟩ : ∃ E, pkE d k = E := ⟨_, rfl⟩
  rw [hEE] at hck hE ⊢
  obtain ⟨ao, cap, hsl, -, -, -⟩ := hp.open
  obtain ⟨kind, ⟨p, m⟩, neg, mi, ma, sl⟩ := d
  simp only at hsl
  subst hsl
  obtain ⟨kl, hkl⟩ : ∃ kl, k.len = kl := ⟨_, rfl⟩
  rw [hkl] at hck ⊢
  unfold ndV at hck ⊢
  simp only at hck ⊢
  have HCK := Lib.hid hck
  have hEb := int_eqf hE
  clear hck hp hEE hkl
  have R0 := Lib.hid (show ((w.alloc (.cells #[.int .i64 kind, .int .u32 (p.toNat : Int), .int .u32 (m.toNat : Int), .bool neg, .int .i64 mi, .int .i64 ma, .slice ao kl cap] 27)).alloc (.cells #[.int .i64 0, .int .u32 0, .int .u32 0, .bool false, .int .i64 0, .int .i64 0, .slice none 0 0] 27)).heap[w.heap.size]? = some (.cells #[.int .i64 kind, .int .u32 (p.toNat : Int), .int .u32 (m.toNat : Int), .bool neg, .int .i64 mi, .int .i64 ma, .slice ao kl cap] 27) from (Below.heap_alloc _ _ _ (by rw [World.size_alloc]; omega)).trans (World.alloc_heap_new w _))
  have Z0 := Lib.hid (show ((w.alloc (.cells #[.int .i64 kind, .int .u32 (p.toNat : Int), .int .u32 (m.toNat : Int), .bool neg, .int .i64 mi, .int .i64 ma, .slice ao kl cap] 27)).alloc (.cells #[.int .i64 0, .int .u32 0, .int .u32 0, .bool false, .int .i64 0, .int .i64 0, .slice none 0 0] 27)).heap[w.heap.size + 1]? = some (.cells #[.int .i64 0, .int .u32 0, .int .u32 0, .bool false, .int .i64 0, .int .i64 0, .slice none 0 0] 27) from heap_alloc2_new w _ _)
  have HB0 := Lib.hid (show Below w.heap.size w ((w.alloc (.cells #[.int .i64 kind, .int .u32 (p.toNat : Int), .int .u32 (m.toNat : Int), .bool neg, .int .i64 mi, .int .i64 ma, .slice ao kl cap] 27)).alloc (.cells #[.int .i64 0, .int .u32 0, .int .u32 0, .bool false, .int .i64 0, .int .i64 0, .slice none 0 0] 27)) by go_grown)
  go_enter Tryd.func36, Tryd.ntmps36
  go_wp2_with fail
  generalize ((w.alloc (.cells #[.int .i64 kind, .int .u32 (p.toNat : Int), .int .u32 (m.toNat : Int), .bool neg, .int .i64 mi, .int .i64 ma, .slice ao kl cap] 27)).alloc (.cells #[.int .i64 0, .int .u32 0, .int .u32 0, .bool false, .int .i64 0, .int .i64 0, .slice none 0 0] 27)) = v0 at *
  go_at_call 15
  refine Gives.then (HCK.out _ HB0.out) ?_
  intro w1 hb
  have HB1 := Lib.hid (HB0.out.trans (hb.mono HB0.out.size))
  have Z1 := Lib.hid ((hb.block _ (Array.getElem?_eq_some_iff.1 Z0.out).1).trans Z0.out)
  clear hb R0 Z0 HB0 HCK
  have h0 := cell_block Z1.out (o := 0) rfl; have h1 := cell_block Z1.out (o := 1) rfl; have h2 := cell_block Z1.out (o := 2) rfl; have h3 := cell_block Z1.out (o := 3) rfl; have h4 := cell_block Z1.out (o := 4) rfl; have h5 := cell_block Z1.out (o := 5) rfl; have h6 := cell_block Z1.out (o := 6) rfl
  have f0 := frozen_block Z1.out (o := 0); have f1 := frozen_block Z1.out (o := 1); have f2 := frozen_block Z1.out (o := 2); have f3 := frozen_block Z1.out (o := 3); have f4 := frozen_block Z1.out (o := 4); have f5 := frozen_block Z1.out (o := 5); have f6 := frozen_block Z1.out (o := 6)
  go_wp2_with fail
  refine bodyPost_gen ?_
  intro Wf hWf
  have RF := Lib.hid (show Wf.heap[w.heap.size + 1]? = some (.cells #[.int .i64 0, .int .u32 0, .int .u32 0, .bool false, .int .i64 0, .int .i64 0, .slice none 0 0] 27 (0, 0)) by rw [hWf]; exact seven Z1.out _ _ _ _ _ _ _)
  have RL := Lib.hid (show Below w.heap.size w Wf by rw [hWf]; (repeat (first | (with_reducible exact HB1.out) | refine Below.setCell ?_ (by simp only []; omega) _)))
  clear hWf
  have q0 : Wf.cell? ⟨w.heap.size + 1, 0, none⟩ = some (.int .i64 0) := cell_block RF.out rfl
  have q1 : Wf.cell? ⟨w.heap.size + 1, 1, none⟩ = some (.int .u32 0) := cell_block RF.out rfl
  have q2 : Wf.cell? ⟨w.heap.size + 1, 2, none⟩ = some (.int .u32 0) := cell_block RF.out rfl
  have q3 : Wf.cell? ⟨w.heap.size + 1, 3, none⟩ = some (.bool false) := cell_block RF.out rfl
  have q4 : Wf.cell? ⟨w.heap.size + 1, 4, none⟩ = some (.int .i64 0) := cell_block RF.out rfl
  have q5 : Wf.cell? ⟨w.heap.size + 1, 5, none⟩ = some (.int .i64 0) := cell_block RF.out rfl
  have q6 : Wf.cell? ⟨w.heap.size + 1, 6, none⟩ = some (.slice none 0 0) := cell_block RF.out rfl
  refine bodyPost_ret (v := .tuple #[.agg #[.int .i64 0, .int .u32 0, .int .u32 0, .bool false, .int .i64 0, .int .i64 0, .slice none 0 0], .int .i64 E]) (by simp [results, Tryd.results36, go_sem, q0, q1, q2, q3, q4, q5, q6]) rfl ?_
  exact ⟨rfl, RL.out⟩
set_option maxRecDepth 100000 in
set_option maxHeartbeats 4000000 in
theorem rcopy_bad (d : Nd) (k : Fo) (w : World) (hp : Pt w d k) (hE : pkE d k ≠ 0) :
    Calls Tryd.prog 34 #[ndV d] w fun e w' => e = .returned (ndV d) ∧ Below w.heap.size w w' := by
  have hck := fun (W : World) (hb : Below w.heap.size w W) => rpcheck_any d k W (hp.below hb)
  obtain ⟨E, hEE⟩ : ∃ E, pkE d k = E := ⟨_, rfl⟩
  rw [hEE] at hck hE
  obtain ⟨ao, cap, hsl, -, -, -⟩ := hp.open
  obtain ⟨kind, ⟨p, m⟩, neg, mi, ma, sl⟩ := d
  simp only at hsl
  subst hsl
  obtain ⟨kl, hkl⟩ : ∃ kl, k.len = kl := ⟨_, rfl⟩
  rw [hkl] at hck ⊢
  unfold ndV at hck ⊢
  simp only at hck ⊢
  have HCK := Lib.hid hck
  have hEb := int_eqf hE
  clear hck hp hEE hkl
  have R0 := Lib.hid (show ((w.alloc (.cells #[.int .i64 kind, .int .u32 (p.toNat : Int), .int .u32 (m.toNat : Int), .bool neg, .int .i64 mi, .int .i64 ma, .slice ao kl cap] 27)).alloc (.cells #[.int .i64 0, .int .u32 0, .int .u32 0, .bool false, .int .i64 0, .int .i64 0, .slice none 0 0] 27)).heap[w.heap.size]? = some (.cells #[.int .i64 kind, .int .u32 (p.toNat : Int), .int .u32 (m.toNat : Int), .bool neg, .int .i64 mi, .int .i64 ma, .slice ao kl cap] 27) from (Below.heap_alloc _ _ _ (by rw [World.size_alloc]; omega)).trans (World.alloc_heap_new w _))
  have Z0 := Lib.hid (show ((w.alloc (.cells #[.int .i64 kind, .int .u32 (p.toNat : Int), .int .u32 (m.toNat : Int), .bool neg, .int .i64 mi, .int .i64 ma, .slice ao kl cap] 27)).alloc (.cells #[.int .i64 0, .int .u32 0, .int .u32 0, .bool false, .int .i64 0, .int .i64 0, .slice none 0 0] 27)).heap[w.heap.size + 1]? = some (.cells #[.int .i64 0, .int .u32 0, .int .u32 0, .bool false, .int .i64 0, .int .i64 0, .slice none 0 0] 27) from heap_alloc2_new w _ _)
  have HB0 := Lib.hid (show Below w.heap.size w ((w.alloc (.cells #[.int .i64 kind, .int .u32 (p.toNat : Int), .int .u32 (m.toNat : Int), .bool neg, .int .i64 mi, .int .i64 ma, .slice ao kl cap] 27)).alloc (.cells #[.int .i64 0, .int .u32 0, .int .u32 0, .bool false, .int .i64 0, .int .i64 0, .slice none 0 0] 27)) by go_grown)
  go_enter Tryd.func34, Tryd.ntmps34
  go_wp2_with fail
  generalize ((w.alloc (.cells #[.int .i64 kind, .int .u32 (p.toNat : Int), .int .u32 (m.toNat : Int), .bool neg, .int .i64 mi, .int .i64 ma, .slice ao kl cap] 27)).alloc (.cells #[.int .i64 0, .int .u32 0, .int .u32 0, .bool false, .int .i64 0, .int .i64 0, .slice none 0 0] 27)) = v0 at *
  go_at_call 15
  refine Gives.then (HCK.out _ HB0.out) ?_
  intro w1 hb
  have HB1 := Lib.hid (HB0.out.trans (hb.mono HB0.out.size))
  have R1 := Lib.hid ((hb.block _ (Array.getElem?_eq_some_iff.1 R0.out).1).trans R0.out)
  have Z1 := Lib.hid ((hb.block _ (Array.getElem?_eq_some_iff.1 Z0.out).1).trans Z0.out)
  clear hb R0 Z0 HB0 HCK
  have g0 := cell_block R1.out (o := 0) rfl; have g1 := cell_block R1.out (o := 1) rfl; have g2 := cell_block R1.out (o := 2) rfl; have g3 := cell_block R1.out (o := 3) rfl; have g4 := cell_block R1.out (o := 4) rfl; have g5 := cell_block R1.out (o := 5) rfl; have g6 := cell_block R1.out (o := 6) rfl
  have h0 := cell_block Z1.out (o := 0) rfl; have h1 := cell_block Z1.out (o := 1) rfl; have h2 := cell_block Z1.out (o := 2) rfl; have h3 := cell_block Z1.out (o := 3) rfl; have h4 := cell_block Z1.out (o := 4) rfl; have h5 := cell_block Z1.out (o := 5) rfl; have h6 := cell_block Z1.out (o := 6) rfl
  have f0 := frozen_block Z1.out (o := 0); have f1 := frozen_block Z1.out (o := 1); have f2 := frozen_block Z1.out (o := 2); have f3 := frozen_block Z1.out (o := 3); have f4 := frozen_block Z1.out (o := 4); have f5 := frozen_block Z1.out (o := 5); have f6 := frozen_block Z1.out (o := 6)
  go_wp2_with fail
  refine bodyPost_gen ?_
  intro Wf hWf
  have RF := Lib.hid (show Wf.heap[w.heap.size + 1]? = some (.cells #[.int .i64 kind, .int .u32 (p.toNat : Int), .int .u32 (m.toNat : Int), .bool neg, .int .i64 mi, .int .i64 ma, .slice ao kl cap] 27 (0, 0)) by rw [hWf]; exact seven Z1.out _ _ _ _ _ _ _)
  have RL := Lib.hid (show Below w.heap.size w Wf by rw [hWf]; (repeat (first | (with_reducible exact HB1.out) | refine Below.setCell ?_ (by simp only []; omega) _)))
  clear hWf
  have q0 : Wf.cell? ⟨w.heap.size + 1, 0, none⟩ = some (.int .i64 kind) := cell_block RF.out rfl
  have q1 : Wf.cell? ⟨w.heap.size + 1, 1, none⟩ = some (.int .u32 (p.toNat : Int)) := cell_block RF.out rfl
  have q2 : Wf.cell? ⟨w.heap.size + 1, 2, none⟩ = some (.int .u32 (m.toNat : Int)) := cell_block RF.out rfl
  have q3 : Wf.cell? ⟨w.heap.size + 1, 3, none⟩ = some (.bool neg) := cell_block RF.out rfl
  have q4 : Wf.cell? ⟨w.heap.size + 1, 4, none⟩ = some (.int .i64 mi) := cell_block RF.out rfl
  have q5 : Wf.cell? ⟨w.heap.size + 1, 5, none⟩ = some (.int .i64 ma) := cell_block RF.out rfl
  have q6 : Wf.cell? ⟨w.heap.size + 1, 6, none⟩ = some (.slice ao kl cap) := cell_block RF.out rfl
  refine bodyPost_ret (v := .agg #[.int .i64 kind, .int .u32 (p.toNat : Int), .int .u32 (m.toNat : Int), .bool neg, .int .i64 mi, .int .i64 ma, .slice ao kl cap]) (by simp [results, Tryd.results34, go_sem, q0, q1, q2, q3, q4, q5, q6]) rfl ?_
  exact ⟨rfl, RL.out⟩
end Go.Proofs.YtmobilppakjihaaDoor

/-
  Mirror of any pattern, and Copy, with the rows that they make.
-/
namespace Go.Proofs.YtmobilppakjihaaDoor
open Go.RowKit Go.Sort
set_option maxRecDepth 100000 in
set_option maxHeartbeats 4000000 in
theorem rmirR (d : Nd) (k : Fo) (w : World) (hp : Pt w d k) (hE : pkE d k = 0) :
    Calls Tryd.prog 36 #[ndV d] w fun e w' => ∃ d' k', e = .returned (.tuple #[ndV d', .int .i64 0]) ∧ ptq (mirD d) (mirC d k) d' k' = true ∧ PtR w' w.heap.size w'.heap.size d' k' ∧ (∃ ao cap, d'.sl = .slice ao k'.len cap) ∧ Below w.heap.size w w' := by
  have hck := fun (W : World) (hb : Below w.heap.size w W) => rpcheck_any d k W (hp.below hb)
  have hmi := fun (W : World) (hb : Below w.heap.size w W) => rmirror_all (k.size + 1) d k (by omega) W (hp.below hb) (by have := (pkE_good hE).2.2; omega) (pkE_good hE).1 (pkE_good hE).2.1
  rw [hE] at hck
  obtain ⟨ao, cap, hsl, -, -, -⟩ := hp.open
  generalize mirD d = md at *
  generalize mirC d k = mk at *
  obtain ⟨kind, ⟨p, m⟩, neg, mi, ma, sl⟩ := d
  simp only at hsl
  subst hsl
  obtain ⟨kl, hkl⟩ : ∃ kl, k.len = kl := ⟨_, rfl⟩
  rw [hkl] at hck hmi ⊢
  unfold ndV at hck hmi ⊢
  simp only at hck hmi ⊢
  have HCK := Lib.hid hck; have HMI := Lib.hid hmi
  clear hck hmi hp hE hkl
  have R0 := Lib.hid (show ((w.alloc (.cells #[.int .i64 kind, .int .u32 (p.toNat : Int), .int .u32 (m.toNat : Int), .bool neg, .int .i64 mi, .int .i64 ma, .slice ao kl cap] 27)).alloc (.cells #[.int .i64 0, .int .u32 0, .int .u32 0, .bool false, .int .i64 0, .int .i64 0, .slice none 0 0] 27)).heap[w.heap.size]? = some (.cells #[.int .i64 kind, .int .u32 (p.toNat : Int), .int .u32 (m.toNat : Int), .bool neg, .int .i64 mi, .int .i64 ma, .slice ao kl cap] 27) from (Below.heap_alloc _ _ _ (by rw [World.size_alloc]; omega)).trans (World.alloc_heap_new w _))
  have Z0 := Lib.hid (show ((w.alloc (.cells #[.int .i64 kind, .int .u32 (p.toNat : Int), .int .u32 (m.toNat : Int), .bool neg, .int .i64 mi, .int .i64 ma, .slice ao kl cap] 27)).alloc (.cells #[.int .i64 0, .int .u32 0, .int .u32 0, .bool false, .int .i64 0, .int .i64 0, .slice none 0 0] 27)).heap[w.heap.size + 1]? = some (.cells #[.int .i64 0, .int .u32 0, .int .u32 0, .bool false, .int .i64 0, .int .i64 0, .slice none 0 0] 27 (0, 0)) from heap_alloc2_new w _ _)
  have HB0 := Lib.hid (show Below w.heap.size w ((w.alloc (.cells #[.int .i64 kind, .int .u32 (p.toNat : Int), .int .u32 (m.toNat : Int), .bool neg, .int .i64 mi, .int .i64 ma, .slice ao kl cap] 27)).alloc (.cells #[.int .i64 0, .int .u32 0, .int .u32 0, .bool false, .int .i64 0, .int .i64 0, .slice none 0 0] 27)) by go_grown)
  go_enter Tryd.func36, Tryd.ntmps36
  go_wp2_with fail
  generalize ((w.alloc (.cells #[.int .i64 kind, .int .u32 (p.toNat : Int), .int .u32 (m.toNat : Int), .bool neg, .int .i64 mi, .int .i64 ma, .slice ao kl cap] 27)).alloc (.cells #[.int .i64 0, .int .u32 0, .int .u32 0, .bool false, .int .i64 0, .int .i64 0, .slice none 0 0] 27)) = v0 at *
  go_at_call 15
  refine Gives.then (HCK.out _ HB0.out) ?_
  intro w1 hb
  have HB1 := Lib.hid (HB0.out.trans (hb.mono HB0.out.size))
  have R1 := Lib.hid ((hb.block _ (Array.getElem?_eq_some_iff.1 R0.out).1).trans R0.out)
  have Z1 := Lib.hid ((hb.block _ (Array.getElem?_eq_some_iff.1 Z0.out).1).trans Z0.out)
  clear hb R0 Z0 HB0 HCK
  have g0 := cell_block R1.out (o := 0) rfl; have g1 := cell_block R1.out (o := 1) rfl; have g2 := cell_block R1.out (o := 2) rfl; have g3 := cell_block R1.out (o := 3) rfl; have g4 := cell_block R1.out (o := 4) rfl; have g5 := cell_block R1.out (o := 5) rfl; have g6 := cell_block R1.out (o := 6) rfl
  go_wp2_with fail
  go_at_call 61
  refine (HMI.out _ HB1.out).mono ?_
  rintro e w2 ⟨d3, k3, rfl, hq, hr, ho, hs, hb⟩
  have HQ := Lib.hid hq; have HS := Lib.hid hs
  obtain ⟨a3, c3, hs3⟩ := hs
  have hlz := (Array.getElem?_eq_some_iff.1 Z1.out).1
  have HLZ := Lib.hid hlz
  have HR := Lib.hid hr
  have HB2 := Lib.hid (HB1.out.trans (hb.mono HB1.out.size))
  have Z2 := Lib.hid ((hb.block _ hlz).trans Z1.out)
  have HSZ := Lib.hid hb.size
  clear hq hr ho hb Z1 R1 HMI g0 g1 g2 g3 g4 g5 g6 hlz
  obtain ⟨kd3, ⟨p3, m3⟩, neg3, mi3, ma3, sl3⟩ := d3
  simp only at hs3
  subst hs3
  simp only
  have h0 := cell_block Z2.out (o := 0) rfl; have h1 := cell_block Z2.out (o := 1) rfl; have h2 := cell_block Z2.out (o := 2) rfl; have h3 := cell_block Z2.out (o := 3) rfl; have h4 := cell_block Z2.out (o := 4) rfl; have h5 := cell_block Z2.out (o := 5) rfl; have h6 := cell_block Z2.out (o := 6) rfl
  have f0 := frozen_block Z2.out (o := 0); have f1 := frozen_block Z2.out (o := 1); have f2 := frozen_block Z2.out (o := 2); have f3 := frozen_block Z2.out (o := 3); have f4 := frozen_block Z2.out (o := 4); have f5 := frozen_block Z2.out (o := 5); have f6 := frozen_block Z2.out (o := 6)
  go_wp2_with fail
  refine bodyPost_gen ?_
  intro Wf hWf
  have RF := Lib.hid (show Wf.heap[w.heap.size + 1]? = some (.cells #[.int .i64 kd3, .int .u32 (p3.toNat : Int), .int .u32 (m3.toNat : Int), .bool neg3, .int .i64 mi3, .int .i64 ma3, .slice a3 k3.len c3] 27 (0, 0)) by rw [hWf]; exact seven Z2.out _ _ _ _ _ _ _)
  have RO := Lib.hid (show Old (w.heap.size + 1 + 1) w2 Wf by rw [hWf]; (repeat (first | (with_reducible exact Old.refl _ _) | refine Old.set ?_ (by simp only []; omega) _)))
  have RL := Lib.hid (show Below w.heap.size w Wf by rw [hWf]; (repeat (first | (with_reducible exact HB2.out) | refine Below.setCell ?_ (by simp only []; omega) _)))
  clear hWf h0 h1 h2 h3 h4 h5 h6 f0 f1 f2 f3 f4 f5 f6
  have q0 : Wf.cell? ⟨w.heap.size + 1, 0, none⟩ = some (.int .i64 kd3) := cell_block RF.out rfl
  have q1 : Wf.cell? ⟨w.heap.size + 1, 1, none⟩ = some (.int .u32 (p3.toNat : Int)) := cell_block RF.out rfl
  have q2 : Wf.cell? ⟨w.heap.size + 1, 2, none⟩ = some (.int .u32 (m3.toNat : Int)) := cell_block RF.out rfl
  have q3 : Wf.cell? ⟨w.heap.size + 1, 3, none⟩ = some (.bool neg3) := cell_block RF.out rfl
  have q4 : Wf.cell? ⟨w.heap.size + 1, 4, none⟩ = some (.int .i64 mi3) := cell_block RF.out rfl
  have q5 : Wf.cell? ⟨w.heap.size + 1, 5, none⟩ = some (.int .i64 ma3) := cell_block RF.out rfl
  have q6 : Wf.cell? ⟨w.heap.size + 1, 6, none⟩ = some (.slice a3 k3.len c3) := cell_block RF.out rfl
  refine bodyPost_ret (v := .tuple #[.agg #[.int .i64 kd3, .int .u32 (p3.toNat : Int), .int .u32 (m3.toNat : Int), .bool neg3, .int .i64 mi3, .int .i64 ma3, .slice a3 k3.len c3], .int .i64 0]) (by simp [results, Tryd.results36, go_sem, q0, q1, q2, q3, q4, q5, q6]) rfl ?_
  have hpt : PtR Wf (w.heap.size + 1 + 1) Wf.heap.size ⟨kd3, (p3, m3), neg3, mi3, ma3, .slice a3 k3.len c3⟩ k3 := HR.out.move (by have := HLZ.out; omega) (by rw [RO.out.1]; exact Nat.le_refl _) (fun b h1 _ => RO.out.2 b (by have := HLZ.out; omega))
  first | exact ⟨⟨kd3, (p3, m3), neg3, mi3, ma3, .slice a3 k3.len c3⟩, k3, rfl, HQ.out, (hpt.move (by omega) (Nat.le_refl _) (fun _ _ _ => rfl)), HS.out, RL.out⟩ | exact ⟨⟨kd3, (p3, m3), neg3, mi3, ma3, .slice a3 k3.len c3⟩, rfl, k3, HQ.out, (hpt.move (by omega) (Nat.le_refl _) (fun _ _ _ => rfl)), HS.out, RL.out⟩
set_option maxRecDepth 100000 in
set_option maxHeartbeats 4000000 in
theorem rcopy_ok (d : Nd) (k : Fo) (w : World) (hp : Pt w d k) (hE : pkE d k = 0) :
    Calls Tryd.prog 34 #[ndV d] w fun e w' => ∃ d9 k9, e = .returned (ndV d9) ∧ ptq d k d9 k9 = true ∧ Pt w' d9 k9 ∧ (∃ ao cap, d9.sl = .slice ao k9.len cap) ∧ Below w.heap.size w w' := by
  have hck := fun (W : World) (hb : Below w.heap.size w W) => rpcheck_any d k W (hp.below hb)
  have hmi := fun (W : World) (hb : Below w.heap.size w W) => rmirror_all (k.size + 1) d k (by omega) W (hp.below hb) (by have := (pkE_good hE).2.2; omega) (pkE_good hE).1 (pkE_good hE).2.1
  have hmm : Hid (∀ d3 k3, ptq (mirD d) (mirC d k) d3 k3 = true → ∀ W, Pt W d3 k3 → Calls Tryd.prog 61 #[ndV d3] W fun e w' => ∃ d4 k4, e = .returned (ndV d4) ∧ ptq d k d4 k4 = true ∧ PtR w' W.heap.size w'.heap.size d4 k4 ∧ (∃ ao cap, d4.sl = .slice ao k4.len cap) ∧ Below W.heap.size W w') := fun d3 k3 hq W hp3 => by
    have hv := ptq_valid hq (mir_valid hE)
    refine (rmirror_all (k3.size + 1) d3 k3 (by omega) W hp3 (by have := (pkE_good hv).2.2; omega) (pkE_good hv).1 (pkE_good hv).2.1).mono ?_
    rintro e w' ⟨d4, k4, h1, h2, h3, h4, h5, h6⟩
    exact ⟨d4, k4, h1, mir_mir hq h2, h3, h5, h6⟩
  rw [hE] at hck
  have HMM := hmm
  clear hmm
  obtain ⟨ao, cap, hsl, -, -, -⟩ := hp.open
  obtain ⟨D, hD⟩ : ∃ D, d = D := ⟨_, rfl⟩
  have hQ : ∃ Q : Nd → Fo → Prop, (fun d3 k3 => ptq (mirD d) (mirC d k) d3 k3 = true) = Q := ⟨_, rfl⟩
  have hQ2 : ∃ Q : Nd → Fo → Prop, (fun d3 k3 => ptq d k d3 k3 = true) = Q := ⟨_, rfl⟩
  obtain ⟨Q, hQ⟩ := hQ
  obtain ⟨Q2, hQ2⟩ := hQ2
  have e1 : ∀ d3 k3, (ptq (mirD d) (mirC d k) d3 k3 = true) = Q d3 k3 := fun d3 k3 => by rw [← hQ]
  have e2 : ∀ d3 k3, (ptq d k d3 k3 = true) = Q2 d3 k3 := fun d3 k3 => by rw [← hQ2]
  have HM2 := HMM.out
  simp only [e1, e2] at hmi HM2 ⊢
  clear e1 e2 hQ hQ2 HMM hD
  have HMM := Lib.hid HM2
  clear HM2
  obtain ⟨kind, ⟨p, m⟩, neg, mi, ma, sl⟩ := d
  simp only at hsl
  subst hsl
  obtain ⟨kl, hkl⟩ : ∃ kl, k.len = kl := ⟨_, rfl⟩
  rw [hkl] at hck hmi ⊢
  have hck2 := hck
  have hmi2 := hmi
  unfold ndV at hck2
  simp only [ndV] at hmi2
  simp only at hck2
  show Calls _ _ #[.agg #[.int .i64 kind, .int .u32 (p.toNat : Int), .int .u32 (m.toNat : Int), .bool neg, .int .i64 mi, .int .i64 ma, .slice ao kl cap]] _ _
  have HCK := Lib.hid hck2; have HMI := Lib.hid hmi2
  clear hck hmi hck2 hmi2 hp hE hkl
  have R0 := Lib.hid (show ((w.alloc (.cells #[.int .i64 kind, .int .u32 (p.toNat : Int), .int .u32 (m.toNat : Int), .bool neg, .int .i64 mi, .int .i64 ma, .slice ao kl cap] 27)).alloc (.cells #[.int .i64 0, .int .u32 0, .int .u32 0, .bool false, .int .i64 0, .int .i64 0, .slice none 0 0] 27)).heap[w.heap.size]? = some (.cells #[.int .i64 kind, .int .u32 (p.toNat : Int), .int .u32 (m.toNat : Int), .bool neg, .int .i64 mi, .int .i64 ma, .slice ao kl cap] 27) from (Below.heap_alloc _ _ _ (by rw [World.size_alloc]; omega)).trans (World.alloc_heap_new w _))
  have Z0 := Lib.hid (show ((w.alloc (.cells #[.int .i64 kind, .int .u32 (p.toNat : Int), .int .u32 (m.toNat : Int), .bool neg, .int .i64 mi, .int .i64 ma, .slice ao kl cap] 27)).alloc (.cells #[.int .i64 0, .int .u32 0, .int .u32 0, .bool false, .int .i64 0, .int .i64 0, .slice none 0 0] 27)).heap[w.heap.size + 1]? = some (.cells #[.int .i64 0, .int .u32 0, .int .u32 0, .bool false, .int .i64 0, .int .i64 0, .slice none 0 0] 27) from heap_alloc2_new w _ _)
  have HB0 := Lib.hid (show Below w.heap.size w ((w.alloc (.cells #[.int .i64 kind, .int .u32 (p.toNat : Int), .int .u32 (m.toNat : Int), .bool neg, .int .i64 mi, .int .i64 ma, .slice ao kl cap] 27)).alloc (.cells #[.int .i64 0, .int .u32 0, .int .u32 0, .bool false, .int .i64 0, .int .i64 0, .slice none 0 0] 27)) by go_grown)
  go_enter Tryd.func34, Tryd.ntmps34
  go_wp2_with fail
  generalize ((w.alloc (.cells #[.int .i64 kind, .int .u32 (p.toNat : Int), .int .u32 (m.toNat : Int), .bool neg, .int .i64 mi, .int .i64 ma, .slice ao kl cap] 27)).alloc (.cells #[.int .i64 0, .int .u32 0, .int .u32 0, .bool false, .int .i64 0, .int .i64 0, .slice none 0 0] 27)) = v0 at *
  go_at_call 15
  refine Gives.then (HCK.out _ HB0.out) ?_
  intro w1 hb
  have HB1 := Lib.hid (HB0.out.trans (hb.mono HB0.out.size))
  have R1 := Lib.hid ((hb.block _ (Array.getElem?_eq_some_iff.1 R0.out).1).trans R0.out)
  have Z1 := Lib.hid ((hb.block _ (Array.getElem?_eq_some_iff.1 Z0.out).1).trans Z0.out)
  clear hb R0 Z0 HB0 HCK
  have g0 := cell_block R1.out (o := 0) rfl; have g1 := cell_block R1.out (o := 1) rfl; have g2 := cell_block R1.out (o := 2) rfl; have g3 := cell_block R1.out (o := 3) rfl; have g4 := cell_block R1.out (o := 4) rfl; have g5 := cell_block R1.out (o := 5) rfl; have g6 := cell_block R1.out (o := 6) rfl
  go_wp2_with fail
  go_at_call 61
  refine (HMI.out _ HB1.out).mono ?_
  rintro e w2 ⟨d3, k3, rfl, hq3, hr3, -, ⟨a3, c3, hs3⟩, hb⟩
  have HB2 := Lib.hid (HB1.out.trans (hb.mono HB1.out.size))
  have Z2 := Lib.hid ((hb.block _ (Array.getElem?_eq_some_iff.1 Z1.out).1).trans Z1.out)
  have H2 := Lib.hid (HMM.out d3 k3 hq3 w2 (hr3.pt (Nat.le_refl _)))
  clear hb R1 Z1 HB1 HMI HMM g0 g1 g2 g3 g4 g5 g6 hq3 hr3
  obtain ⟨kd3, ⟨p3, m3⟩, neg3, mi3, ma3, sl3⟩ := d3
  simp only at hs3
  subst hs3
  obtain ⟨kl3, hkl3⟩ : ∃ kl, k3.len = kl := ⟨_, rfl⟩
  have h2 := H2.out
  simp only [ndV, hkl3] at h2
  simp only [ndV, hkl3]
  clear H2 hkl3
  have H2 := Lib.hid h2
  clear h2
  go_wp2_with fail
  go_at_call 61
  refine H2.out.mono ?_
  rintro e w3 ⟨d4, k4, rfl, hq4, hr4, hs4, hb⟩
  have HQ := Lib.hid hq4; have HS := Lib.hid hs4
  obtain ⟨a4, c4, hs4⟩ := hs4
  have HR := Lib.hid hr4
  have hlz := (Array.getElem?_eq_some_iff.1 Z2.out).1
  have HLZ := Lib.hid hlz
  have HB3 := Lib.hid (HB2.out.trans (hb.mono HB2.out.size))
  have Z3 := Lib.hid ((hb.block _ hlz).trans Z2.out)
  clear hq4 hr4 hb Z2 HB2 H2 hlz
  obtain ⟨kd4, ⟨p4, m4⟩, neg4, mi4, ma4, sl4⟩ := d4
  simp only at hs4
  subst hs4
  simp only
  have h0 := cell_block Z3.out (o := 0) rfl; have h1 := cell_block Z3.out (o := 1) rfl; have h2 := cell_block Z3.out (o := 2) rfl; have h3 := cell_block Z3.out (o := 3) rfl; have h4 := cell_block Z3.out (o := 4) rfl; have h5 := cell_block Z3.out (o := 5) rfl; have h6 := cell_block Z3.out (o := 6) rfl
  have f0 := frozen_block Z3.out (o := 0); have f1 := frozen_block Z3.out (o := 1); have f2 := frozen_block Z3.out (o := 2); have f3 := frozen_block Z3.out (o := 3); have f4 := frozen_block Z3.out (o := 4); have f5 := frozen_block Z3.out (o := 5); have f6 := frozen_block Z3.out (o := 6)
  go_wp2_with fail
  refine bodyPost_gen ?_
  intro Wf hWf
  have RF := Lib.hid (show Wf.heap[w.heap.size + 1]? = some (.cells #[.int .i64 kd4, .int .u32 (p4.toNat : Int), .int .u32 (m4.toNat : Int), .bool neg4, .int .i64 mi4, .int .i64 ma4, .slice a4 k4.len c4] 27 (0, 0)) by rw [hWf]; exact seven Z3.out _ _ _ _ _ _ _)
  have RO := Lib.hid (show Old (w.heap.size + 1 + 1) w3 Wf by rw [hWf]; (repeat (first | (with_reducible exact Old.refl _ _) | refine Old.set ?_ (by simp only []; omega) _)))
  have RL := Lib.hid (show Below w.heap.size w Wf by rw [hWf]; (repeat (first | (with_reducible exact HB3.out) | refine Below.setCell ?_ (by simp only []; omega) _)))
  clear hWf h0 h1 h2 h3 h4 h5 h6 f0 f1 f2 f3 f4 f5 f6
  have q0 : Wf.cell? ⟨w.heap.size + 1, 0, none⟩ = some (.int .i64 kd4) := cell_block RF.out rfl
  have q1 : Wf.cell? ⟨w.heap.size + 1, 1, none⟩ = some (.int .u32 (p4.toNat : Int)) := cell_block RF.out rfl
  have q2 : Wf.cell? ⟨w.heap.size + 1, 2, none⟩ = some (.int .u32 (m4.toNat : Int)) := cell_block RF.out rfl
  have q3 : Wf.cell? ⟨w.heap.size + 1, 3, none⟩ = some (.bool neg4) := cell_block RF.out rfl
  have q4 : Wf.cell? ⟨w.heap.size + 1, 4, none⟩ = some (.int .i64 mi4) := cell_block RF.out rfl
  have q5 : Wf.cell? ⟨w.heap.size + 1, 5, none⟩ = some (.int .i64 ma4) := cell_block RF.out rfl
  have q6 : Wf.cell? ⟨w.heap.size + 1, 6, none⟩ = some (.slice a4 k4.len c4) := cell_block RF.out rfl
  refine bodyPost_ret (v := .agg #[.int .i64 kd4, .int .u32 (p4.toNat : Int), .int .u32 (m4.toNat : Int), .bool neg4, .int .i64 mi4, .int .i64 ma4, .slice a4 k4.len c4]) (by simp [results, Tryd.results34, go_sem, q0, q1, q2, q3, q4, q5, q6]) rfl ?_
  have hpt : PtR Wf (w.heap.size + 1 + 1) Wf.heap.size ⟨kd4, (p4, m4), neg4, mi4, ma4, .slice a4 k4.len c4⟩ k4 := HR.out.move (by have := HLZ.out; omega) (by rw [RO.out.1]; exact Nat.le_refl _) (fun b h1 _ => RO.out.2 b (by have := HLZ.out; omega))
  first | exact ⟨⟨kd4, (p4, m4), neg4, mi4, ma4, .slice a4 k4.len c4⟩, k4, rfl, HQ.out, hpt.pt (Nat.le_refl _), HS.out, RL.out⟩ | exact ⟨⟨kd4, (p4, m4), neg4, mi4, ma4, .slice a4 k4.len c4⟩, rfl, k4, HQ.out, hpt.pt (Nat.le_refl _), HS.out, RL.out⟩
end Go.Proofs.YtmobilppakjihaaDoor

/-
  PatsMirrors.
-/
namespace Go.Proofs.YtmobilppakjihaaDoor
open Go.RowKit Go.Sort
set_option maxRecDepth 100000 in
set_option maxHeartbeats 8000000 in
theorem mirrors_ok (d : Nd) (k : Fo) (w : World) (hp : Pt w d k) (hT : Tab64 w) (ht0 : 0 < w.heap.size) (hE : pkE d k = 0) :
    Gives 6 #[ndV d] w (.bool true) := by
  unfold Gives
  have hwk : Hid (∀ W : World, Below w.heap.size w W → Gives 22 #[] W (.bool true)) := fun W hb => works_any W (hT.below hb ht0) (by have := hb.size; omega)
  have hco : ∀ W, Below w.heap.size w W → Calls Tryd.prog 34 #[ndV d] W fun e w' => ∃ d9 k9, e = .returned (ndV d9) ∧ Hid (ptq d k d9 k9 = true ∧ Pt w' d9 k9) ∧ (∃ ao cap, d9.sl = .slice ao k9.len cap) ∧ Below W.heap.size W w' := fun W hb => by
    refine (rcopy_ok d k W (hp.below hb) hE).mono ?_
    rintro e w' ⟨d9, k9, h1, h2, h3, h4, h5⟩
    exact ⟨d9, k9, h1, ⟨h2, h3⟩, h4, h5⟩
  have hpm : ∀ W, Below w.heap.size w W → Calls Tryd.prog 35 #[ndV d] W fun e w' => ∃ d1 k1, e = .returned (.tuple #[ndV d1, .int .i64 0]) ∧ Hid (ptq (mirD d) (mirC d k) d1 k1 = true ∧ PtR w' W.heap.size w'.heap.size d1 k1) ∧ (∃ ao cap, d1.sl = .slice ao k1.len cap) ∧ Below W.heap.size W w' := fun W hb => by
    refine (pmirR d k W (hp.below hb) hE).mono ?_
    rintro e w' ⟨d9, k9, h1, h2, h3, h4, h5⟩
    exact ⟨d9, k9, h1, ⟨h2, h3⟩, h4, h5⟩
  have hrm : ∀ W, Below w.heap.size w W → Calls Tryd.prog 36 #[ndV d] W fun e w' => ∃ d2 k2, e = .returned (.tuple #[ndV d2, .int .i64 0]) ∧ Hid (ptq (mirD d) (mirC d k) d2 k2 = true ∧ PtR w' W.heap.size w'.heap.size d2 k2) ∧ (∃ ao cap, d2.sl = .slice ao k2.len cap) ∧ Below W.heap.size W w' := fun W hb => by
    refine (rmirR d k W (hp.below hb) hE).mono ?_
    rintro e w' ⟨d9, k9, h1, h2, h3, h4, h5⟩
    exact ⟨d9, k9, h1, ⟨h2, h3⟩, h4, h5⟩
  have hq1 : Hid (∀ d1 k1 d2 k2, ptq (mirD d) (mirC d k) d1 k1 = true → ptq (mirD d) (mirC d k) d2 k2 = true → ∀ W, Pt W d1 k1 → Pt W d2 k2 → Gives 21 #[ndV d1, ndV d2] W (.bool true)) := fun d1 k1 d2 k2 h1 h2 W p1 p2 => by
    have := requal06_any d1 k1 d2 k2 W p1 p2
    rwa [show eqB d1 k1 d2 k2 = true from by unfold eqB; rw [ptq_valid h1 (mir_valid hE), ptq_valid h2 (mir_valid hE), ptq_trans (ptq_symm h1) h2]; rfl] at this
  have hq2 : Hid (∀ d9 k9, ptq d k d9 k9 = true → ∀ W, Below w.heap.size w W → Pt W d9 k9 → Gives 21 #[ndV d, ndV d9] W (.bool true)) := fun d9 k9 h1 W hb p1 => by
    have := requal06_any d k d9 k9 W (hp.below hb) p1
    rwa [show eqB d k d9 k9 = true from by unfold eqB; rw [hE, ptq_valid h1 hE, h1]; rfl] at this
  have hsp : Hid (∀ d1 k1, ptq (mirD d) (mirC d k) d1 k1 = true → ∀ W lo hi, hi ≤ W.heap.size → lo ≤ W.heap.size → PtR W lo hi d1 k1 → Calls Tryd.prog 37 #[ndV d1] W fun e w' => e = .returned (.tuple #[]) ∧ Below lo W w') := fun d1 k1 h1 W lo hi l1 l2 hr => by
    have hk : k1.size ≤ 100 := by have := (pkE_good (ptq_valid h1 (mir_valid hE))).2.2; omega
    refine (spoil_all _ W d1 lo hi l1 (ptr_rw hr hk)).mono ?_
    rintro e w' ⟨h1, -, h3, h4⟩
    exact ⟨h1, ⟨h4.os, h4.tape, h4.output, h4.size, fun b hb => h3 b (by omega) (.inl hb)⟩⟩
  obtain ⟨ao, cap, hsl, -, -, -⟩ := hp.open
  clear hp hT ht0 hE
  obtain ⟨kind, ⟨p, m⟩, neg, mi, ma, sl⟩ := d
  simp only at hsl
  subst hsl
  obtain ⟨kl, hkl⟩ : ∃ kl, k.len = kl := ⟨_, rfl⟩
  rw [hkl] at hco hpm hrm hq1 hq2 hsp ⊢
  unfold ndV at hco hpm hrm ⊢
  simp only at hco hpm hrm ⊢
  have HCO := Lib.hid hco; have HPM := Lib.hid hpm; have HRM := Lib.hid hrm
  clear hco hpm hrm hkl
  have R0 := Lib.hid (World.alloc_heap_new w (.cells #[.int .i64 kind, .int .u32 (p.toNat : Int), .int .u32 (m.toNat : Int), .bool neg, .int .i64 mi, .int .i64 ma, .slice ao kl cap] 27))
  have HB0 := Lib.hid (show Below w.heap.size w (w.alloc (.cells #[.int .i64 kind, .int .u32 (p.toNat : Int), .int .u32 (m.toNat : Int), .bool neg, .int .i64 mi, .int .i64 ma, .slice ao kl cap] 27)) by go_grown)
  go_enter Tryd.func6, Tryd.ntmps6
  go_wp2_with fail
  generalize (w.alloc (.cells #[.int .i64 kind, .int .u32 (p.toNat : Int), .int .u32 (m.toNat : Int), .bool neg, .int .i64 mi, .int .i64 ma, .slice ao kl cap] 27)) = v0 at *
  go_at_call 34
  refine (HCO.out _ HB0.out).mono ?_
  rintro e w1 ⟨d9, k9, rfl, hq9, ⟨ao9, cap9, hs9⟩, hb⟩
  have HB1 := Lib.hid (HB0.out.trans (hb.mono HB0.out.size))
  have RX1 := Lib.hid ((hb.block _ (Array.getElem?_eq_some_iff.1 R0.out).1).trans R0.out)
  have h29 := hq2.out d9 k9 hq9.out.1
  have P9 := Lib.hid hq9.out.2
  clear hb HB0 R0 HCO hq2 hq9
  obtain ⟨kind9, ⟨p9, m9⟩, neg9, mi9, ma9, sl9⟩ := d9
  simp only at hs9
  subst hs9
  obtain ⟨kl9, hkl9⟩ : ∃ kl, k9.len = kl := ⟨_, rfl⟩
  rw [hkl9] at P9 h29
  simp only [ndV, hkl9] at h29 ⊢
  have HQ2 := Lib.hid h29
  clear h29 hkl9
  have HLX := Lib.hid (Array.getElem?_eq_some_iff.1 RX1.out).1
  have g0 := cell_block RX1.out (o := 0) rfl; have g1 := cell_block RX1.out (o := 1) rfl; have g2 := cell_block RX1.out (o := 2) rfl; have g3 := cell_block RX1.out (o := 3) rfl; have g4 := cell_block RX1.out (o := 4) rfl; have g5 := cell_block RX1.out (o := 5) rfl; have g6 := cell_block RX1.out (o := 6) rfl
  have ga0 := fun O => keep_alloc (X := O) g0 HLX.out; have ga1 := fun O => keep_alloc (X := O) g1 HLX.out; have ga2 := fun O => keep_alloc (X := O) g2 HLX.out; have ga3 := fun O => keep_alloc (X := O) g3 HLX.out; have ga4 := fun O => keep_alloc (X := O) g4 HLX.out; have ga5 := fun O => keep_alloc (X := O) g5 HLX.out; have ga6 := fun O => keep_alloc (X := O) g6 HLX.out
  go_wp2_with fail
  refine calls_gen ?_
  intro V1 hV1
  have hv : Below w1.heap.size w1 V1 := by rw [hV1]; go_grown
  have RN1 := Lib.hid (show V1.heap[w1.heap.size]? = some (.cells #[.int .i64 kind9, .int .u32 (p9.toNat : Int), .int .u32 (m9.toNat : Int), .bool neg9, .int .i64 mi9, .int .i64 ma9, .slice ao9 kl9 cap9] 27) by rw [hV1]; exact World.alloc_heap_new _ _)
  clear hV1 g0 g1 g2 g3 g4 g5 g6 ga0 ga1 ga2 ga3 ga4 ga5 ga6
  have HBV1 := Lib.hid (HB1.out.trans (hv.mono HB1.out.size))
  have RXV1 := Lib.hid ((hv.block _ (Array.getElem?_eq_some_iff.1 RX1.out).1).trans RX1.out)
  have RXV1c := RXV1
  have P9V := Lib.hid (Pt.below P9.out hv)
  clear hv HB1 RX1 P9 HLX
  go_at_call 35
  refine (HPM.out V1 HBV1.out).mono ?_
  rintro e w2 ⟨d1, k1, rfl, hq, ⟨ao1, cap1, hs1⟩, hb⟩
  have HB2 := Lib.hid (HBV1.out.trans (hb.mono HBV1.out.size))
  have HC2 := Lib.hid hb
  have RX2 := Lib.hid ((hb.block _ (Array.getElem?_eq_some_iff.1 RXV1.out).1).trans RXV1.out)
  have RX2c := RX2.out
  have h1q := hq1.out d1 k1
  have hsp1 := hsp.out d1 k1 hq.out.1
  have PR1 := Lib.hid hq.out.2
  have Q1 := Lib.hid hq.out.1
  clear hb HPM hsp hq1 hq RXV1
  obtain ⟨kind1, ⟨p1, m1⟩, neg1, mi1, ma1, sl1⟩ := d1
  simp only at hs1
  subst hs1
  obtain ⟨kl1, hkl1⟩ : ∃ kl, k1.len = kl := ⟨_, rfl⟩
  rw [hkl1] at PR1 Q1 h1q hsp1
  simp only [ndV, hkl1] at h1q hsp1 ⊢
  have HQ1 := Lib.hid h1q; have HSP := Lib.hid hsp1
  clear h1q hsp1 hkl1
  have HLX := Lib.hid (Array.getElem?_eq_some_iff.1 RX2.out).1
  have g0 := cell_block RX2.out (o := 0) rfl; have g1 := cell_block RX2.out (o := 1) rfl; have g2 := cell_block RX2.out (o := 2) rfl; have g3 := cell_block RX2.out (o := 3) rfl; have g4 := cell_block RX2.out (o := 4) rfl; have g5 := cell_block RX2.out (o := 5) rfl; have g6 := cell_block RX2.out (o := 6) rfl
  have ga0 := fun O => keep_alloc (X := O) g0 HLX.out; have ga1 := fun O => keep_alloc (X := O) g1 HLX.out; have ga2 := fun O => keep_alloc (X := O) g2 HLX.out; have ga3 := fun O => keep_alloc (X := O) g3 HLX.out; have ga4 := fun O => keep_alloc (X := O) g4 HLX.out; have ga5 := fun O => keep_alloc (X := O) g5 HLX.out; have ga6 := fun O => keep_alloc (X := O) g6 HLX.out
  clear RX2c
  go_wp2_with fail
  refine calls_gen ?_
  intro V2 hV2
  have hv : Below w2.heap.size w2 V2 := by rw [hV2]; go_grown
  have RY2 := Lib.hid (show V2.heap[w2.heap.size]? = some (.cells #[.int .i64 kind1, .int .u32 (p1.toNat : Int), .int .u32 (m1.toNat : Int), .bool neg1, .int .i64 mi1, .int .i64 ma1, .slice ao1 kl1 cap1] 27) by rw [hV2]; exact World.alloc_heap_new _ _)
  clear hV2 g0 g1 g2 g3 g4 g5 g6 ga0 ga1 ga2 ga3 ga4 ga5 ga6
  have HBV2 := Lib.hid (HB2.out.trans (hv.mono HB2.out.size))
  have HCV2 := Lib.hid (HC2.out.trans (hv.mono HC2.out.size))
  have RXV2 := Lib.hid ((hv.block _ (Array.getElem?_eq_some_iff.1 RX2.out).1).trans RX2.out)
  clear HB2 HC2 RX2 HLX
  go_at_call 36
  refine (HRM.out V2 HBV2.out).mono ?_
  rintro e w3 ⟨d2, k2, rfl, hq, ⟨ao2, cap2, hs2⟩, hb⟩
  have hv3 := hv.trans (hb.mono hv.size)
  have HB3 := Lib.hid (HBV2.out.trans (hb.mono HBV2.out.size))
  have HC3 := Lib.hid (HCV2.out.trans (hb.mono HCV2.out.size))
  have RX3 := Lib.hid ((hb.block _ (Array.getElem?_eq_some_iff.1 RXV2.out).1).trans RXV2.out)
  have RY3 := Lib.hid ((hb.block _ (Array.getElem?_eq_some_iff.1 RY2.out).1).trans RY2.out)
  have P1 := Lib.hid (PtR.move PR1.out (Nat.le_refl _) (Nat.le_refl _) (fun b _ h2 => hv3.block b h2))
  have HS2 := Lib.hid hv3.size
  have P2 := Lib.hid (hq.out.2.pt (Nat.le_refl _))
  have h12 := HQ1.out d2 k2 Q1.out hq.out.1
  clear hb hv hv3 HRM hq HQ1 Q1 RXV2 RY2 HBV2 HCV2 PR1
  obtain ⟨kind2, ⟨p2, m2⟩, neg2, mi2, ma2, sl2⟩ := d2
  simp only at hs2
  subst hs2
  obtain ⟨kl2, hkl2⟩ : ∃ kl, k2.len = kl := ⟨_, rfl⟩
  rw [hkl2] at P2 h12
  simp only [ndV, hkl2] at h12 ⊢
  have HQ1 := Lib.hid h12
  clear h12 hkl2
  have HLX := Lib.hid (Array.getElem?_eq_some_iff.1 RY3.out).1
  have g0 := cell_block RY3.out (o := 0) rfl; have g1 := cell_block RY3.out (o := 1) rfl; have g2 := cell_block RY3.out (o := 2) rfl; have g3 := cell_block RY3.out (o := 3) rfl; have g4 := cell_block RY3.out (o := 4) rfl; have g5 := cell_block RY3.out (o := 5) rfl; have g6 := cell_block RY3.out (o := 6) rfl
  have ga0 := fun O => keep_alloc (X := O) g0 HLX.out; have ga1 := fun O => keep_alloc (X := O) g1 HLX.out; have ga2 := fun O => keep_alloc (X := O) g2 HLX.out; have ga3 := fun O => keep_alloc (X := O) g3 HLX.out; have ga4 := fun O => keep_alloc (X := O) g4 HLX.out; have ga5 := fun O => keep_alloc (X := O) g5 HLX.out; have ga6 := fun O => keep_alloc (X := O) g6 HLX.out
  go_wp2_with fail
  refine calls_gen ?_
  intro V3 hV3
  have hv : Below w3.heap.size w3 V3 := by rw [hV3]; go_grown
  clear hV3 g0 g1 g2 g3 g4 g5 g6 ga0 ga1 ga2 ga3 ga4 ga5 ga6
  have HBV3 := Lib.hid (HB3.out.trans (hv.mono HB3.out.size))
  have HCV3 := Lib.hid (HC3.out.trans (hv.mono HC3.out.size))
  have RXV3 := Lib.hid ((hv.block _ (Array.getElem?_eq_some_iff.1 RX3.out).1).trans RX3.out)
  have RYV3 := Lib.hid ((hv.block _ (Array.getElem?_eq_some_iff.1 RY3.out).1).trans RY3.out)
  have P1V := Lib.hid (PtR.move P1.out (Nat.le_refl _) (Nat.le_refl _) (fun b _ h2 => hv.block b (by have := HS2.out; omega)))
  have P2V := Lib.hid (Pt.below P2.out hv)
  have HS3 := Lib.hid (Nat.le_trans HS2.out hv.size)
  clear hv HB3 HC3 RX3 RY3 HLX P1 P2 HS2
  go_at_call 21
  refine Gives.then (HQ1.out V3 (P1V.out.pt HS3.out) P2V.out) ?_
  intro w4 hb
  have HB4 := Lib.hid (HBV3.out.trans (hb.mono HBV3.out.size))
  have HC4 := Lib.hid (HCV3.out.trans (hb.mono HCV3.out.size))
  have RX4 := Lib.hid ((hb.block _ (Array.getElem?_eq_some_iff.1 RXV3.out).1).trans RXV3.out)
  have RY4 := Lib.hid ((hb.block _ (Array.getElem?_eq_some_iff.1 RYV3.out).1).trans RYV3.out)
  have P14 := Lib.hid (PtR.move P1V.out (Nat.le_refl _) (Nat.le_refl _) (fun b _ h2 => hb.block b (by have := HS3.out; omega)))
  have HS4 := Lib.hid (Nat.le_trans HS3.out hb.size)
  clear hb HBV3 HCV3 RXV3 RYV3 P1V P2V HS3 HQ1
  have g0 := cell_block RY4.out (o := 0) rfl; have g1 := cell_block RY4.out (o := 1) rfl; have g2 := cell_block RY4.out (o := 2) rfl; have g3 := cell_block RY4.out (o := 3) rfl; have g4 := cell_block RY4.out (o := 4) rfl; have g5 := cell_block RY4.out (o := 5) rfl; have g6 := cell_block RY4.out (o := 6) rfl
  go_wp2_with fail
  go_at_call 37
  refine (HSP.out w4 V1.heap.size w2.heap.size HS4.out (by have := HC4.out.size; omega) P14.out).mono ?_
  rintro e w5 ⟨rfl, hb⟩
  have HC5 := Lib.hid (show Below V1.heap.size V1 w5 from HC4.out.trans hb)
  have HB5 := Lib.hid (HBV1.out.trans (HC5.out.mono HBV1.out.size))
  have RX5 := Lib.hid ((HC5.out.block _ (Array.getElem?_eq_some_iff.1 RXV1c.out).1).trans RXV1c.out)
  have RN5 := Lib.hid ((HC5.out.block _ (Array.getElem?_eq_some_iff.1 RN1.out).1).trans RN1.out)
  have P95 := Lib.hid (Pt.below P9V.out HC5.out)
  clear hb HB4 HC4 RX4 RY4 P14 HS4 HSP g0 g1 g2 g3 g4 g5 g6
  have g0 := cell_block RX5.out (o := 0) rfl; have g1 := cell_block RX5.out (o := 1) rfl; have g2 := cell_block RX5.out (o := 2) rfl; have g3 := cell_block RX5.out (o := 3) rfl; have g4 := cell_block RX5.out (o := 4) rfl; have g5 := cell_block RX5.out (o := 5) rfl; have g6 := cell_block RX5.out (o := 6) rfl
  have h0 := cell_block RN5.out (o := 0) rfl; have h1 := cell_block RN5.out (o := 1) rfl; have h2 := cell_block RN5.out (o := 2) rfl; have h3 := cell_block RN5.out (o := 3) rfl; have h4 := cell_block RN5.out (o := 4) rfl; have h5 := cell_block RN5.out (o := 5) rfl; have h6 := cell_block RN5.out (o := 6) rfl
  go_wp2_with (first
    | (go_at_call 21; refine Gives.then (HQ2.out _ HB5.out P95.out) ?_; intro w6 hb6; have HB6 := Lib.hid (HB5.out.trans (hb6.mono HB5.out.size)); clear hb6)
    | (go_at_call 22; refine Gives.then (hwk.out _ HB6.out) ?_; intro w7 hb7))
  go_returns
  exact ⟨rfl, HB6.out.trans (hb7.mono HB6.out.size)⟩
end Go.Proofs.YtmobilppakjihaaDoor

/-
  PatsMirrors, of a pattern that is not valid.
-/
namespace Go.Proofs.YtmobilppakjihaaDoor
open Go.RowKit Go.Sort
set_option maxRecDepth 100000 in
set_option maxHeartbeats 8000000 in
theorem mirrors_bad (d : Nd) (k : Fo) (w : World) (hp : Pt w d k) (hT : Tab64 w) (ht0 : 0 < w.heap.size) (hE : pkE d k ≠ 0) :
    Gives 6 #[ndV d] w (.bool true) := by
  unfold Gives
  have hwk : Hid (∀ W : World, Below w.heap.size w W → Gives 22 #[] W (.bool true)) := fun W hb => works_any W (hT.below hb ht0) (by have := hb.size; omega)
  have hco : ∀ W, Below w.heap.size w W → Gives 34 #[ndV d] W (ndV d) := fun W hb => rcopy_bad d k W (hp.below hb) hE
  have hpm : ∀ W, Below w.heap.size w W → Gives 35 #[ndV d] W (.tuple #[.agg #[.int .i64 0, .int .u32 0, .int .u32 0, .bool false, .int .i64 0, .int .i64 0, .slice none 0 0], .int .i64 (pkE d k)]) := fun W hb => pmirE d k W (hp.below hb) hE
  have hrm : ∀ W, Below w.heap.size w W → Gives 36 #[ndV d] W (.tuple #[.agg #[.int .i64 0, .int .u32 0, .int .u32 0, .bool false, .int .i64 0, .int .i64 0, .slice none 0 0], .int .i64 (pkE d k)]) := fun W hb => rmirE d k W (hp.below hb) hE
  obtain ⟨E, hEE⟩ : ∃ E, pkE d k = E := ⟨_, rfl⟩
  rw [hEE] at hpm hrm hE
  obtain ⟨ao, cap, hsl, -, -, -⟩ := hp.open
  have hEb := int_eqf hE
  have c1 : (E != E) = false := by simp
  clear hp hT ht0 hEE
  obtain ⟨kind, ⟨p, m⟩, neg, mi, ma, sl⟩ := d
  simp only at hsl
  subst hsl
  obtain ⟨kl, hkl⟩ : ∃ kl, k.len = kl := ⟨_, rfl⟩
  rw [hkl] at hco hpm hrm ⊢
  unfold ndV at hco hpm hrm ⊢
  simp only at hco hpm hrm ⊢
  have HCO := Lib.hid hco; have HPM := Lib.hid hpm; have HRM := Lib.hid hrm
  clear hco hpm hrm hkl
  have R0 := Lib.hid (World.alloc_heap_new w (.cells #[.int .i64 kind, .int .u32 (p.toNat : Int), .int .u32 (m.toNat : Int), .bool neg, .int .i64 mi, .int .i64 ma, .slice ao kl cap] 27))
  have HB0 := Lib.hid (show Below w.heap.size w (w.alloc (.cells #[.int .i64 kind, .int .u32 (p.toNat : Int), .int .u32 (m.toNat : Int), .bool neg, .int .i64 mi, .int .i64 ma, .slice ao kl cap] 27)) by go_grown)
  go_enter Tryd.func6, Tryd.ntmps6
  go_wp2_with fail
  generalize (w.alloc (.cells #[.int .i64 kind, .int .u32 (p.toNat : Int), .int .u32 (m.toNat : Int), .bool neg, .int .i64 mi, .int .i64 ma, .slice ao kl cap] 27)) = v0 at *
  go_at_call 34
  refine Gives.then (HCO.out _ HB0.out) ?_
  intro w1 hb
  have HB1 := Lib.hid (HB0.out.trans (hb.mono HB0.out.size))
  have RX1 := Lib.hid ((hb.block _ (Array.getElem?_eq_some_iff.1 R0.out).1).trans R0.out)
  clear hb HB0 R0 HCO
  have HLX := Lib.hid (Array.getElem?_eq_some_iff.1 RX1.out).1
  have g0 := cell_block RX1.out (o := 0) rfl; have g1 := cell_block RX1.out (o := 1) rfl; have g2 := cell_block RX1.out (o := 2) rfl; have g3 := cell_block RX1.out (o := 3) rfl; have g4 := cell_block RX1.out (o := 4) rfl; have g5 := cell_block RX1.out (o := 5) rfl; have g6 := cell_block RX1.out (o := 6) rfl
  have ga0 := fun O => keep_alloc (X := O) g0 HLX.out; have ga1 := fun O => keep_alloc (X := O) g1 HLX.out; have ga2 := fun O => keep_alloc (X := O) g2 HLX.out; have ga3 := fun O => keep_alloc (X := O) g3 HLX.out; have ga4 := fun O => keep_alloc (X := O) g4 HLX.out; have ga5 := fun O => keep_alloc (X := O) g5 HLX.out; have ga6 := fun O => keep_alloc (X := O) g6 HLX.out
  go_wp2_with fail
  refine calls_gen ?_
  intro V1 hV1
  have hv : Below w1.heap.size w1 V1 := by rw [hV1]; go_grown
  clear hV1 g0 g1 g2 g3 g4 g5 g6 ga0 ga1 ga2 ga3 ga4 ga5 ga6
  have HBV1 := Lib.hid (HB1.out.trans (hv.mono HB1.out.size))
  have RXV1 := Lib.hid ((hv.block _ (Array.getElem?_eq_some_iff.1 RX1.out).1).trans RX1.out)
  have RXV1c := RXV1
  clear hv HB1 RX1 HLX RXV1c
  go_at_call 35
  refine Gives.then (HPM.out V1 HBV1.out) ?_
  intro w2 hb
  have HB2 := Lib.hid (HBV1.out.trans (hb.mono HBV1.out.size))
  have RX2 := Lib.hid ((hb.block _ (Array.getElem?_eq_some_iff.1 RXV1.out).1).trans RXV1.out)
  clear hb HPM RXV1 HBV1
  have HLX := Lib.hid (Array.getElem?_eq_some_iff.1 RX2.out).1
  have g0 := cell_block RX2.out (o := 0) rfl; have g1 := cell_block RX2.out (o := 1) rfl; have g2 := cell_block RX2.out (o := 2) rfl; have g3 := cell_block RX2.out (o := 3) rfl; have g4 := cell_block RX2.out (o := 4) rfl; have g5 := cell_block RX2.out (o := 5) rfl; have g6 := cell_block RX2.out (o := 6) rfl
  have ga0 := fun O => keep_alloc (X := O) g0 HLX.out; have ga1 := fun O => keep_alloc (X := O) g1 HLX.out; have ga2 := fun O => keep_alloc (X := O) g2 HLX.out; have ga3 := fun O => keep_alloc (X := O) g3 HLX.out; have ga4 := fun O => keep_alloc (X := O) g4 HLX.out; have ga5 := fun O => keep_alloc (X := O) g5 HLX.out; have ga6 := fun O => keep_alloc (X := O) g6 HLX.out
  go_wp2_with fail
  refine calls_gen ?_
  intro V2 hV2
  have hv : Below w2.heap.size w2 V2 := by rw [hV2]; go_grown
  have RY2 := Lib.hid (show V2.heap[w2.heap.size]? = some (.cells #[.int .i64 0, .int .u32 0, .int .u32 0, .bool false, .int .i64 0, .int .i64 0, .slice none 0 0] 27) by rw [hV2]; exact World.alloc_heap_new _ _)
  clear hV2 g0 g1 g2 g3 g4 g5 g6 ga0 ga1 ga2 ga3 ga4 ga5 ga6
  have HBV2 := Lib.hid (HB2.out.trans (hv.mono HB2.out.size))
  clear HB2 RX2 HLX hv
  go_at_call 36
  refine Gives.then (HRM.out V2 HBV2.out) ?_
  intro w3 hb
  have HB3 := Lib.hid (HBV2.out.trans (hb.mono HBV2.out.size))
  have RY3 := Lib.hid ((hb.block _ (Array.getElem?_eq_some_iff.1 RY2.out).1).trans RY2.out)
  clear hb HRM RY2 HBV2
  have HLX := Lib.hid (Array.getElem?_eq_some_iff.1 RY3.out).1
  have g0 := cell_block RY3.out (o := 0) rfl; have g1 := cell_block RY3.out (o := 1) rfl; have g2 := cell_block RY3.out (o := 2) rfl; have g3 := cell_block RY3.out (o := 3) rfl; have g4 := cell_block RY3.out (o := 4) rfl; have g5 := cell_block RY3.out (o := 5) rfl; have g6 := cell_block RY3.out (o := 6) rfl
  have ga0 := fun O => keep_alloc (X := O) g0 HLX.out; have ga1 := fun O => keep_alloc (X := O) g1 HLX.out; have ga2 := fun O => keep_alloc (X := O) g2 HLX.out; have ga3 := fun O => keep_alloc (X := O) g3 HLX.out; have ga4 := fun O => keep_alloc (X := O) g4 HLX.out; have ga5 := fun O => keep_alloc (X := O) g5 HLX.out; have ga6 := fun O => keep_alloc (X := O) g6 HLX.out
  have ne0 : ¬ E = 0 := hE
  go_wp2_with fail
  refine calls_gen ?_
  intro V3 hV3
  have hv : Below w3.heap.size w3 V3 := by rw [hV3]; go_grown
  clear hV3 g0 g1 g2 g3 g4 g5 g6 ga0 ga1 ga2 ga3 ga4 ga5 ga6
  have HB4 := Lib.hid (HB3.out.trans (hv.mono HB3.out.size))
  clear hv HB3 RY3 HLX
  go_at_call 22
  refine Gives.then (hwk.out V3 HB4.out) ?_
  intro w5 hb
  have HB5 := Lib.hid (HB4.out.trans (hb.mono HB4.out.size))
  clear hb
  go_wp2_with fail
  go_returns
  exact ⟨rfl, HB5.out⟩
end Go.Proofs.YtmobilppakjihaaDoor

/-
  PatsMirrors, whatever the pattern is.
-/
namespace Go.Proofs.YtmobilppakjihaaDoor
open Go.RowKit Go.Sort
theorem mirrors_any (d : Nd) (k : Fo) (w : World) (hp : Pt w d k) (hT : Tab64 w) (ht0 : 0 < w.heap.size) : Gives 6 #[ndV d] w (.bool true) := by
  by_cases hE : pkE d k = 0
  · exact mirrors_ok d k w hp hT ht0 hE
  · exact mirrors_bad d k w hp hT ht0 hE
end Go.Proofs.YtmobilppakjihaaDoor
