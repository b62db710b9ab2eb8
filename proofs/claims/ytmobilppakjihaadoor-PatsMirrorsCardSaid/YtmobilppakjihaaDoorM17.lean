/-
  Lemmas that the theorem of this claim rests on: 1 texts, one behind the other.
-/
import Derived.Test.YtmobilppakjihaaDoorM16
set_option linter.unusedSimpArgs false
set_option linter.unusedVariables false
/-
  Whether a pattern matches nothing between two sounds (Empty).
-/
namespace Go.Proofs.YtmobilppakjihaaDoor
open Go.RowKit Go.Sort
def z2 : List Snd := [(0#32, 0#32), (0#32, 0#32)]
def emB (d : Nd) (k : Fo) : Bool := decide (mtE d k z2 = 0) && (tabP z2 d k 1).getLsbD 1
theorem st_cells (W : World) (x : Tb) : Sem.run Tryd.prog (storeCells ⟨W.heap.size, 0, none⟩ (tbR x).toList) (W.alloc (.cells (tbR zeroT) 74)) = .ok () ((W.alloc (.cells (tbR zeroT) 74)).setRow W.heap.size (tbR x)) := by
  have h := st_row (x := x) (TbAt.row (TbAt.new W zeroT))
  have hsz : ∀ w : World, (sizeOf 74).run Tryd.prog w = .ok 33 w := fun _ => by kernel_rfl
  simpa [storeVar, Sem.run_bind, hsz, Result.andThen, Value.cells, tbR_size] using h
theorem st_cells2 {W : World} {b : Nat} (ht : TbAt W b zeroT) (x : Tb) : Sem.run Tryd.prog (storeCells ⟨b, 0, none⟩ (tbR x).toList) W = .ok () (W.setRow b (tbR x)) := by
  have h := st_row (x := x) (TbAt.row ht)
  have hsz : ∀ w : World, (sizeOf 74).run Tryd.prog w = .ok 33 w := fun _ => by kernel_rfl
  simpa [storeVar, Sem.run_bind, hsz, Result.andThen, Value.cells, tbR_size] using h
theorem a2n (w : World) (A B : Obj) : ((w.alloc A).alloc B).drew.heap[w.heap.size + 1]? = some B := heap_alloc2_new w A B
theorem a3m (w : World) (A B C : Obj) : (((w.alloc A).alloc B).alloc C).drew.heap[w.heap.size + 1]? = some B :=
  (Below.heap_alloc _ C _ (by simp only [World.size_alloc]; omega)).trans (heap_alloc2_new w A B)
theorem a3n (w : World) (A B C : Obj) : (((w.alloc A).alloc B).alloc C).drew.heap[w.heap.size + 1 + 1]? = some C := by
  have := heap_alloc2_new (w.alloc A) B C
  rwa [World.size_alloc] at this
theorem wd_z2 {W : World} {b : Nat} (h : W.heap[b]? = some (.cells #[.int .u32 0, .int .u32 0, .int .u32 0, .int .u32 0] 24)) : Wd W (.slice (some ⟨b, 0, none⟩) 2 2) z2 := by
  refine Or.inr ⟨b, 0, 2, rfl, by decide, by decide, (Array.getElem?_eq_some_iff.1 h).1, ?_⟩
  intro i hi
  have : i = 0 ∨ i = 1 := by simp [z2] at hi; omega
  rcases this with rfl | rfl
  · exact ⟨cell_block h rfl, cell_block h rfl⟩
  · exact ⟨cell_block h rfl, cell_block h rfl⟩
set_option maxRecDepth 100000 in
set_option maxHeartbeats 4000000 in
theorem empty_anyP (d : Nd) (k : Fo) (w : World) (hp : Pt w d k) (hT : Tab64 w) (ht0 : 0 < w.heap.size) :
    Gives 18 #[ndV d] w (.bool (emB d k)) := by
  unfold Gives
  have hma := fun (W : World) (sv : Value) (hb : Below w.heap.size w W) (hW : Wd W sv z2) => match_any d k z2 sv W (hp.below hb) hW (hT.below hb ht0) (by have := hb.size; omega)
  obtain ⟨ao, cap, hsl, -, -, -⟩ := hp.open
  obtain ⟨T, hT0⟩ : ∃ T, mtT d k z2 = T := ⟨_, rfl⟩
  obtain ⟨B, hB⟩ : ∃ B, emB d k = B := ⟨_, rfl⟩
  obtain ⟨E, hE⟩ : ∃ E, mtE d k z2 = E := ⟨_, rfl⟩
  have hBB : B = (decide (E = 0) && (T 1).getLsbD 1) := by
    rw [← hB, emB, ← hE, ← hT0, mtT]
    split
    · rfl
    · rename_i h; simp [h]
  rw [hB]
  rw [hT0, hE] at hma
  clear hT0 hB hE
  obtain ⟨kind, ⟨p, m⟩, neg, mi, ma, sl⟩ := d
  simp only at hsl
  subst hsl
  obtain ⟨kl, hkl⟩ : ∃ kl, k.len = kl := ⟨_, rfl⟩
  rw [hkl] at hma ⊢
  unfold ndV at hma ⊢
  simp only at hma ⊢
  have HMA := Lib.hid hma
  have HZ := tbR_zero.symm
  have hmk : ∀ w, Sem.run Tryd.prog (Instr.makeSlice 34 (Value.int IntKind.i64 2) (Value.int IntKind.i64 2)) w = .ok (.slice (some ⟨w.heap.size, 0, none⟩) 2 2) (w.alloc (.cells #[.int .u32 0, .int .u32 0, .int .u32 0, .int .u32 0] 24)) := fun _ => by kernel_rfl
  have hst := fun W : World => st_cells W T
  clear hma hp hT hkl
  go_enter Tryd.func18, Tryd.ntmps18
  go_wp2_with fail
  go_region_with (first | (go_at_call 49; (with_reducible refine Gives.then (HMA.out _ _ ?_ ?_) ?_); go_grown; (first | exact wd_z2 (a2n _ _ _) | exact wd_z2 (a3m _ _ _ _) | exact wd_z2 (a3n _ _ _ _)); intro w1 hb1; have hb1' : Below w.heap.size w w1 := (by go_grown : Below w.heap.size w _).trans (hb1.mono (by go_size)); have HBX := Lib.hid hb1'; first | (have t3 : TbAt w1 (w.heap.size + 1) zeroT := TbAt.below (a3m _ _ _ _) hb1; have hst2 := st_cells2 t3 T; have c1 := (t3.setRow T).cell (a := 1) (by omega); have HBF := Lib.hid (below_setRow hb1' (show w.heap.size ≤ w.heap.size + 1 by omega) (tbR T)); clear t3) | (have t3 : TbAt w1 (w.heap.size + 1 + 1) zeroT := TbAt.below (a3n _ _ _ _) hb1; have hst2 := st_cells2 t3 T; have c1 := (t3.setRow T).cell (a := 1) (by omega); have HBF := Lib.hid (below_setRow hb1' (show w.heap.size ≤ w.heap.size + 1 + 1 by omega) (tbR T)); clear t3) | (have c1 := ((TbAt.new w1 zeroT).setRow T).cell (a := 1) (by omega); have HBF := Lib.hid (below_setRow (hb1'.alloc hb1'.size (.cells (tbR zeroT) 74)) hb1'.size (tbR T))); clear hb1 hb1'))
  all_goals clear HZ hmk HMA
  all_goals by_cases hE : E = 0
  all_goals first
    | (subst hE; have HBB := Lib.hid (show B = (T 1).getLsbD 1 by simpa using hBB); clear hBB; go_wp2_with (first | (go_at_call 50; refine (has_any (T 1) 1 (by omega) _).mono ?_; rintro e w3 ⟨rfl, rfl⟩)); go_returns; exact ⟨by rw [HBB.out]; rfl, HBF.out⟩)
    | (have hB' : B = false := (by rw [hBB]; simp [hE]); subst hB'; clear hBB; go_wp2_with fail; go_returns; exact ⟨rfl, HBF.out⟩)
end Go.Proofs.YtmobilppakjihaaDoor
