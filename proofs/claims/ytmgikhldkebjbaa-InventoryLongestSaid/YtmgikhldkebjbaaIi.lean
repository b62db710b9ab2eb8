/-
  Sound, Symbol, has, Longest: what they return.
-/
import Derived.Test.YtmgikhldkebjbaaIh
namespace Go.Proofs.Ytmgikhldkebjbaa
open Go.RowKit Go.Sort
/-- The sound of a symbol, and the symbol of a sound. -/
def sndOf (a : List (ByteArray × Snd)) (k : ByteArray) : Option Snd := (a.find? fun x => decide (k = x.1)).map (·.2)
def symOf (a : List (ByteArray × Snd)) (s : Snd) : Option ByteArray := (a.find? fun x => decide (s = x.2)).map (·.1)
theorem fnd_snd (k : ByteArray) : ∀ (a : List (ByteArray × Snd)) (i : Nat), (fnd k (a.map fun x => (x.1, snv x.2)) i).map (·.2) = (sndOf a k).map snv ∧ (fnd k (a.map fun x => (x.1, snv x.2)) i).isSome = (sndOf a k).isSome
  | [], _ => ⟨rfl, rfl⟩
  | x :: a, i => by
    have ih := fnd_snd k a (i + 1)
    simp only [List.map_cons, fnd, sndOf, List.find?_cons]
    by_cases h : k = x.1
    · rw [if_pos h, decide_eq_true h]; exact ⟨rfl, rfl⟩
    · rw [if_neg h, decide_eq_false h]; exact ih
theorem fnd_sym (s : Snd) : ∀ (a : List (ByteArray × Snd)) (i : Nat), (fndY s (a.map fun x => (x.2, Value.string x.1)) i).map (·.2) = (symOf a s).map Value.string ∧ (fndY s (a.map fun x => (x.2, Value.string x.1)) i).isSome = (symOf a s).isSome
  | [], _ => ⟨rfl, rfl⟩
  | x :: a, i => by
    have ih := fnd_sym s a (i + 1)
    simp only [List.map_cons, fndY, symOf, List.find?_cons]
    by_cases h : s = x.2
    · rw [if_pos h, decide_eq_true h]; exact ⟨rfl, rfl⟩
    · rw [if_neg h, decide_eq_false h]; exact ih
theorem snd_get (a : List (ByteArray × Snd)) (k : ByteArray) (t : Snd) (ht : (sndOf a k).getD (0#32, 0#32) = t) : ((fnd k (a.map fun x => (x.1, snv x.2)) 0).map (·.2)).getD (.agg #[.int .u32 0, .int .u32 0]) = .agg #[.int .u32 t.1.toNat, .int .u32 t.2.toNat] := by
  rw [(fnd_snd k a 0).1, ← ht]
  cases sndOf a k <;> rfl
theorem sound_any {w : World} {base B : Nat} {l : List ByteArray} {a : List (ByteArray × Snd)} {nv av : Value} {bf bs by_ : Nat} (h : Inv w base B l a nv av bf bs by_) (k : ByteArray) : Gives 33 #[.pointer (some ⟨B, 0, none⟩), .string k] w (.tuple #[snv ((sndOf a k).getD (0#32, 0#32)), .bool (sndOf a k).isSome]) := by
  unfold Gives snv
  have HI := Lib.hid h
  have hw := Below.refl w.heap.size w
  have hB := h.lt
  obtain ⟨t, ht⟩ : ∃ t, (sndOf a k).getD (0#32, 0#32) = t := ⟨_, rfl⟩
  have HG := Lib.hid (snd_get a k t ht)
  have HS := Lib.hid (fnd_snd k a 0).2
  rw [ht]
  generalize (sndOf a k).isSome = q at *
  clear h ht
  go_enter Try.func33, Try.ntmps33
  go_wp2_with fail
  go_at_call 44
  have hI1 := HI.out.below ((Below.refl _ w).alloc (Nat.le_refl _) (.cells #[.int .u32 0, .int .u32 0] 39))
  have hw1 := hw.alloc hw.size (.cells #[.int .u32 0, .int .u32 0] 39)
  refine Gives.then (valid_yes B _ hI1.cells.1) ?_
  intro w1 hb
  have HI1 := Lib.hid (hI1.below hb)
  have hw1 := hw1.trans (hb.mono hw1.size)
  have q4 := HI1.out.cells.2.2.2.2.1
  have r0 := (hb.cell (p := ⟨w.heap.size, 0, none⟩) (by simp)).trans (cell_block (World.alloc_heap_new w _) rfl)
  have r1 := (hb.cell (p := ⟨w.heap.size, 1, none⟩) (by simp)).trans (cell_block (World.alloc_heap_new w _) rfl)
  have f0 := (hb.frozen (p := ⟨w.heap.size, 0, none⟩) (by simp)).trans (frozen_block (World.alloc_heap_new w _))
  have f1 := (hb.frozen (p := ⟨w.heap.size, 1, none⟩) (by simp)).trans (frozen_block (World.alloc_heap_new w _))
  have lw : w.heap.size < w1.heap.size := by have := hb.size; rw [World.size_alloc] at this; omega
  have s0 := fun X => cell_past (X := X) lw r0
  have s1 := fun X => cell_past (X := X) lw r1
  clear hb hw hI1 HI
  go_wp2_with (at_lookup; refine wpList_lookup_s rfl (.tmp 16) (.tmp 17) 56 rfl Try.underlying56 Try.underlying9 (z := .agg #[.int .u32 0, .int .u32 0]) (fun _ => by kernel_rfl) bs (a.map fun x => (x.1, snv x.2)) k (.agg #[.int .u32 t.1.toNat, .int .u32 t.2.toNat]) q rfl rfl HI1.out.sounds HG.out HS.out ?_)
  refine bodyPost_ret (v := .tuple #[.agg #[.int .u32 t.1.toNat, .int .u32 t.2.toNat], .bool q]) ?_ rfl ⟨rfl, by go_grown⟩
  have e0 : ((((w1.setCell ⟨w.heap.size, 0, none⟩ (.int .u32 t.1.toNat)).setCell ⟨w.heap.size, 1, none⟩ (.int .u32 t.2.toNat)).alloc (.cells #[.int .u32 t.1.toNat, .int .u32 t.2.toNat] 39)).cell? ⟨w.heap.size, 0, none⟩) = some (.int .u32 t.1.toNat) := by go_cell
  have e1 : ((((w1.setCell ⟨w.heap.size, 0, none⟩ (.int .u32 t.1.toNat)).setCell ⟨w.heap.size, 1, none⟩ (.int .u32 t.2.toNat)).alloc (.cells #[.int .u32 t.1.toNat, .int .u32 t.2.toNat] 39)).cell? ⟨w.heap.size, 1, none⟩) = some (.int .u32 t.2.toNat) := by go_cell
  simp [results, Try.results33, go_sem, e0, e1]
end Go.Proofs.Ytmgikhldkebjbaa
