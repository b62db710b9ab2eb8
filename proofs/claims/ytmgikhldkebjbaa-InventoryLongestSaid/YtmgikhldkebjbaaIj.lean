/-
  Symbol, has: what they return.
-/
import Derived.Test.YtmgikhldkebjbaaIi
import Derived.BigQuiet
namespace Go.Proofs.Ytmgikhldkebjbaa
open Go.RowKit Go.Sort
theorem sym_get (a : List (ByteArray × Snd)) (s : Snd) (t : ByteArray) (ht : (symOf a s).getD ⟨#[]⟩ = t) : ((fndY s (a.map fun x => (x.2, Value.string x.1)) 0).map (·.2)).getD (.string ⟨#[]⟩) = .string t := by
  rw [(fnd_sym s a 0).1, ← ht]
  cases symOf a s <;> rfl
theorem symbol_any {w : World} {base B : Nat} {l : List ByteArray} {a : List (ByteArray × Snd)} {nv av : Value} {bf bs by_ : Nat} (h : Inv w base B l a nv av bf bs by_) (s : Snd) : Gives 34 #[.pointer (some ⟨B, 0, none⟩), snv s] w (.tuple #[.string ((symOf a s).getD ⟨#[]⟩), .bool (symOf a s).isSome]) := by
  unfold Gives
  have HI := Lib.hid h
  have hw := Below.refl w.heap.size w
  have hB := h.lt
  obtain ⟨t, ht⟩ : ∃ t, (symOf a s).getD ⟨#[]⟩ = t := ⟨_, rfl⟩
  have HG := Lib.hid (sym_get a s t ht)
  have HS := Lib.hid (fnd_sym s a 0).2
  rw [ht]
  generalize (symOf a s).isSome = q at *
  clear h ht
  obtain ⟨p, m⟩ := s
  unfold snv
  have hlk : ∀ W, YMap W by_ (a.map fun x => (x.2, Value.string x.1)) → (Instr.lookup 57 (.map (some by_)) (.agg #[.int .u32 p.toNat, .int .u32 m.toNat]) true).run Try.prog W = .ok (.tuple #[.string t, .bool q]) W := fun W hW => by
    have := run_lookup_y Try.underlying57 (z := .string ⟨#[]⟩) (fun _ => by kernel_rfl) hW (p, m)
    rw [HG.out, HS.out] at this
    exact this
  have HLK := Lib.hid hlk
  clear hlk
  go_enter Try.func34, Try.ntmps34
  go_wp2_with fail
  go_at_call 44
  have hI1 := HI.out.below ((Below.refl _ w).alloc (Nat.le_refl _) (.cells #[.int .u32 p.toNat, .int .u32 m.toNat] 39))
  have hw1 := hw.alloc hw.size (.cells #[.int .u32 p.toNat, .int .u32 m.toNat] 39)
  refine Gives.then (valid_yes B _ hI1.cells.1) ?_
  intro w1 hb
  have HI1 := Lib.hid (hI1.below hb)
  have hw1 := hw1.trans (hb.mono hw1.size)
  have q5 : w1.drew.cell? ⟨B, 5, none⟩ = some (.map (some by_)) := HI1.out.cells.2.2.2.2.2
  have r0 : w1.drew.cell? ⟨w.heap.size, 0, none⟩ = some (.int .u32 p.toNat) := (hb.cell (p := ⟨w.heap.size, 0, none⟩) (by simp)).trans (cell_block (World.alloc_heap_new w _) rfl)
  have r1 : w1.drew.cell? ⟨w.heap.size, 1, none⟩ = some (.int .u32 m.toNat) := (hb.cell (p := ⟨w.heap.size, 1, none⟩) (by simp)).trans (cell_block (World.alloc_heap_new w _) rfl)
  have hl1 := HLK.out w1.drew (HI1.out.symbols)
  clear hb hw hI1 HI
  go_wp2_with fail
  go_region
  all_goals (
    go_wp2_with fail
    go_ret2
    exact ⟨rfl, hw1.drew⟩)
end Go.Proofs.Ytmgikhldkebjbaa
