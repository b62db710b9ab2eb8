/-
  What every walk of this program uses: worlds that have grown, cells behind new blocks, calls that return a value and change nothing that was there.
-/
import Derived.Test.YtmgikhldkebjbaaBits
import Derived.Test.YtmgikhldkebjbaaReg
import Derived.Test.YtmgikhldkebjbaaProg
import Derived.WalkKit
import Derived.WalkSpells
import Derived.WalkLawsBesides
import Derived.BigQuiet
import Derived.Handy
import Derived.Lib.Hide
import Derived.Deep.RegionHeld3
import Derived.Lib.QuietBelow
import Derived.OwnWalk
import Derived.Laws.AppendOwnNone
namespace Go.Proofs.Ytmgikhldkebjbaa
open Go.RowKit Go.Sort
theorem bcell {W w1 : World} (hb : Below W.heap.size W w1) : (∀ b o, b < W.heap.size → w1.cell? ⟨b, o, none⟩ = W.cell? ⟨b, o, none⟩) ∧ (∀ b o, b < W.heap.size → w1.frozen? ⟨b, o, none⟩ = W.frozen? ⟨b, o, none⟩) ∧ W.heap.size ≤ w1.heap.size :=
  ⟨fun b o h => hb.cell (p := ⟨b, o, none⟩) h, fun b o h => hb.frozen (p := ⟨b, o, none⟩) h, hb.size⟩
theorem chain {B : Nat} {a W w1 : World} (h : Below B a W) (hB : B ≤ W.heap.size) (hb : Below W.heap.size W w1) : Below B a w1 := h.trans (hb.mono hB)
theorem ne_of {X y : Nat} (h : X ≤ y) : (∀ k, k < X → ¬ k = y) ∧ (∀ k, k < X → ¬ y = k) := ⟨fun k hk e => by omega, fun k hk e => by omega⟩
theorem alloc_lt {X : Nat} {w1 : World} (h : X ≤ w1.heap.size) : (∀ O b o, b < X → (w1.alloc O).cell? ⟨b, o, none⟩ = w1.cell? ⟨b, o, none⟩) ∧ (∀ O O' b o, b < X → ((w1.alloc O).alloc O').cell? ⟨b, o, none⟩ = w1.cell? ⟨b, o, none⟩) :=
  ⟨fun O b o hb => World.cell?_of_block (w := w1) (Below.heap_alloc w1 O b (by omega)),
   fun O O' b o hb => (World.cell?_of_block (w := w1.alloc O) (Below.heap_alloc (w1.alloc O) O' b (by rw [World.size_alloc]; omega))).trans (World.cell?_of_block (w := w1) (Below.heap_alloc w1 O b (by omega)))⟩
theorem vld_iff (p m : BitVec 32) : vld p m = true ↔ p.toNat &&& m.toNat = 0 ∧ (p.toNat ||| m.toNat) &&& 4278190080 = 0 := by
  unfold vld
  rw [Bool.and_eq_true, beq_iff_eq, beq_iff_eq, ← BitVec.toNat_inj, ← BitVec.toNat_inj]
  simp
theorem keep_alloc {w1 : World} {X : Obj} {b o : Nat} {v : Value} (h : w1.cell? ⟨b, o, none⟩ = some v) (hb : b < w1.heap.size) : (w1.alloc X).cell? ⟨b, o, none⟩ = some v := by
  rw [World.cell?_alloc_some _ _ _ (by rw [h]; rfl)]; exact h
theorem keep_set {w1 : World} {a : Addr} {u : Value} {b o : Nat} {v : Value} (h : w1.cell? ⟨b, o, none⟩ = some v) (hb : b < a.block) : (w1.setCell a u).cell? ⟨b, o, none⟩ = some v := by
  rw [World.cell?_setCell_far _ _ _ _ (by simp; omega)]; exact h
theorem keep_size {w1 : World} {X : Obj} {n : Nat} (h : n ≤ w1.heap.size) : n ≤ (w1.alloc X).heap.size := by rw [World.size_alloc]; omega
theorem keep_size2 {w1 : World} {a : Addr} {u : Value} {n : Nat} (h : n ≤ w1.heap.size) : n ≤ (w1.setCell a u).heap.size := by rw [World.size_setCell]; exact h
theorem keep_b_alloc {B : Nat} {a w1 : World} {X : Obj} (h : Below B a w1) (hB : B ≤ w1.heap.size) : Below B a (w1.alloc X) := h.alloc hB X
theorem keep_b_set {B : Nat} {a w1 : World} {p : Addr} {u : Value} (h : Below B a w1) (hB : B ≤ p.block) : Below B a (w1.setCell p u) := h.setCell hB u
theorem re_cell {w1 : World} {X Y : Obj} {b o : Nat} {v : Value} (h : (w1.alloc X).cell? ⟨b, o, none⟩ = some v) (hb : b < w1.heap.size) : (w1.alloc Y).cell? ⟨b, o, none⟩ = some v := by
  have e : ∀ Z : Obj, (w1.alloc Z).cell? ⟨b, o, none⟩ = w1.cell? ⟨b, o, none⟩ := fun Z => World.cell?_of_block (w := w1) (Below.heap_alloc w1 Z b hb)
  rw [e] at h ⊢; exact h
theorem re_below {B : Nat} {a w1 : World} {X Y : Obj} (h : Below B a (w1.alloc X)) (hB : B ≤ w1.heap.size) : Below B a (w1.alloc Y) :=
  ⟨h.os, h.tape, h.output, by have := h.size; rw [World.size_alloc] at this ⊢; exact this, fun k hk => by rw [Below.heap_alloc w1 Y k (by omega), ← Below.heap_alloc w1 X k (by omega)]; exact h.block k hk⟩
theorem re_size {w1 : World} {X Y : Obj} {n : Nat} (h : n ≤ (w1.alloc X).heap.size) : n ≤ (w1.alloc Y).heap.size := by rw [World.size_alloc] at *; exact h
theorem keep_alloc_d {w1 : World} {X : Obj} {b o : Nat} {v : Value} (h : w1.drew.cell? ⟨b, o, none⟩ = some v) (hb : b < w1.drew.heap.size) : (w1.alloc X).drew.cell? ⟨b, o, none⟩ = some v := keep_alloc (w1 := w1) h hb
theorem keep_size_d {w1 : World} {X : Obj} {n : Nat} (h : n ≤ w1.drew.heap.size) : n ≤ (w1.alloc X).drew.heap.size := keep_size (w1 := w1) h
theorem undrew {B : Nat} {a w1 : World} (h : Below B a w1.drew) : Below B a w1 := ⟨h.os, h.tape, h.output, h.size, h.block⟩
theorem keep_b_alloc_d {B : Nat} {a w1 : World} {X : Obj} (h : Below B a w1.drew) (hB : B ≤ w1.drew.heap.size) : Below B a (w1.alloc X).drew := ((undrew h).alloc hB X).drew
theorem re_cell_d {w1 : World} {X Y : Obj} {b o : Nat} {v : Value} (h : (w1.alloc X).drew.cell? ⟨b, o, none⟩ = some v) (hb : b < w1.heap.size) : (w1.alloc Y).drew.cell? ⟨b, o, none⟩ = some v := re_cell (w1 := w1) (X := X) h hb
theorem re_below_d {B : Nat} {a w1 : World} {X Y : Obj} (h : Below B a (w1.alloc X).drew) (hB : B ≤ w1.heap.size) : Below B a (w1.alloc Y).drew := (re_below (undrew h) hB).drew
theorem re_size_d {w1 : World} {X Y : Obj} {n : Nat} (h : n ≤ (w1.alloc X).drew.heap.size) : n ≤ (w1.alloc Y).drew.heap.size := re_size (w1 := w1) (X := X) h
theorem wp_gen {P : Program} {c : Code} {Q : Exit → Act → World → Prop} {a : Act} {W : World} (h : ∀ W1, W1 = W → c.wp P Q a W1) : c.wp P Q a W := h W rfl
theorem ret_bool {a b : Bool} (h : a = b) : Ending.returned (.bool a) = .returned (.bool b) := by rw [h]

/-- The call returns v and changes nothing that was there. -/
abbrev Gives (f : Nat) (args : Array Value) (w : World) (v : Value) : Prop := Calls Try.prog f args w fun e w' => e = .returned v ∧ Below w.heap.size w w'
theorem Gives.eq {f : Nat} {args args' : Array Value} {w : World} {v v' : Value} (h : Gives f args w v) (ha : args = args') (hv : v = v') : Gives f args' w v' := by subst ha; subst hv; exact h
theorem Gives.then {f : Nat} {args : Array Value} {w : World} {v : Value} {Q : Ending → World → Prop} (h : Gives f args w v) (k : ∀ w1, Below w.heap.size w w1 → Q (.returned v) w1) : Calls Try.prog f args w Q := Calls.mono h (by rintro e w1 ⟨rfl, hb⟩; exact k w1 hb)
theorem cell_fresh {W0 w1 : World} {cs : Array Value} {t : Nat} (hc : ∀ b o, b < W0.heap.size + 1 → w1.cell? ⟨b, o, none⟩ = (W0.alloc (.cells cs t)).cell? ⟨b, o, none⟩) (hz : W0.heap.size + 1 ≤ w1.heap.size) : ∃ bx, W0.heap.size = bx ∧ bx < w1.heap.size ∧ ∀ o, w1.cell? ⟨bx, o, none⟩ = (W0.alloc (.cells cs t)).cell? ⟨W0.heap.size, o, none⟩ := ⟨_, rfl, by omega, fun o => hc _ o (by omega)⟩
theorem cell_past {w : World} {X : Obj} {b o : Nat} {v : Value} (hl : b < w.heap.size) (h : w.cell? ⟨b, o, none⟩ = some v) : (w.alloc X).cell? ⟨b, o, none⟩ = some v := (World.cell?_alloc_past X b o hl).trans h
/-- A sound by its two numbers. -/
abbrev sn (p m : Int) : Value := .agg #[.int .u32 p, .int .u32 m]
theorem sv_sn (p m : BitVec 32) : sv p m = sn p.toNat m.toNat := rfl

end Go.Proofs.Ytmgikhldkebjbaa
