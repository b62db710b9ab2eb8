/-
  What the functions of package feats that have no loop return, and that they change nothing that was there.
-/
import Derived.Test.YtdbbmhefndjedaaDoorBits
import Derived.Test.YtdbbmhefndjedaaDoorProg
import Derived.WalkKit
import Derived.WalkSpells
import Derived.WalkLawsBesides
import Derived.BigQuiet
import Derived.Handy
import Derived.Lib.Hide
import Derived.Deep.RegionHeld3
import Derived.Lib.QuietBelow
namespace Go.Proofs.YtdbbmhefndjedaaDoor
open Go.RowKit Go.Sort
attribute [local go_sem] sv bv_and bv_or bv_xor bv_andNot ofInt32_nat nat_beq nat_beq0

theorem bcell {W w1 : World} (hb : Below W.heap.size W w1) : (∀ b o, b < W.heap.size → w1.cell? ⟨b, o, none⟩ = W.cell? ⟨b, o, none⟩) ∧ (∀ b o, b < W.heap.size → w1.frozen? ⟨b, o, none⟩ = W.frozen? ⟨b, o, none⟩) ∧ W.heap.size ≤ w1.heap.size :=
  ⟨fun b o h => hb.cell (p := ⟨b, o, none⟩) h, fun b o h => hb.frozen (p := ⟨b, o, none⟩) h, hb.size⟩
theorem chain {B : Nat} {a W w1 : World} (h : Below B a W) (hB : B ≤ W.heap.size) (hb : Below W.heap.size W w1) : Below B a w1 := h.trans (hb.mono hB)
theorem ne_of {X y : Nat} (h : X ≤ y) : (∀ k, k < X → ¬ k = y) ∧ (∀ k, k < X → ¬ y = k) := ⟨fun k hk e => by omega, fun k hk e => by omega⟩
theorem alloc_lt {X : Nat} {w1 : World} (h : X ≤ w1.heap.size) : (∀ O b o, b < X → (w1.alloc O).cell? ⟨b, o, none⟩ = w1.cell? ⟨b, o, none⟩) ∧ (∀ O O' b o, b < X → ((w1.alloc O).alloc O').cell? ⟨b, o, none⟩ = w1.cell? ⟨b, o, none⟩) :=
  ⟨fun O b o hb => World.cell?_of_block (w := w1) (Below.heap_alloc w1 O b (by omega)),
   fun O O' b o hb => (World.cell?_of_block (w := w1.alloc O) (Below.heap_alloc (w1.alloc O) O' b (by rw [World.size_alloc]; omega))).trans (World.cell?_of_block (w := w1) (Below.heap_alloc w1 O b (by omega)))⟩
theorem vld_iff (p m : BitVec 32) : vld p m = true ↔ p.toNat &&& m.toNat = 0 ∧ (p.toNat ||| m.toNat) &&& 4278190080 = 0 := by
  unfold vld
  rw [Bool.and_eq_true, beq_iff_eq, beq_iff_eq, ← BitVec.toNat_inj, ← BitVec.toNat_inj]
  simp
theorem keep_alloc {w1 : World} {X : Obj} {b o : Nat} {v : Value} (h : w1.cell? ⟨b, o, none⟩ = some v) (hb : b < w1.heap.size) : (w1.alloc X).cell? ⟨b, o, none⟩ = some v := by
  rw [World.cell?_alloc_some _ _ _ (by rw [h]; rfl)]; exact h
theorem keep_set {w1 : World} {a : Addr} {u : Value} {b o : Nat} {v : Value} (h : w1.cell? ⟨b, o, none⟩ = some v) (hb : b < a.block) : (w1.setCell a u).cell? ⟨b, o, none⟩ = some v := by
  rw [World.cell?_setCell_far _ _ _ _ (by simp; omega)]; exact h
theorem keep_size {w1 : World} {X : Obj} {n : Nat} (h : n ≤ w1.heap.size) : n ≤ (w1.alloc X).heap.size := by rw [World.size_alloc]; omega
theorem keep_size2 {w1 : World} {a : Addr} {u : Value} {n : Nat} (h : n ≤ w1.heap.size) : n ≤ (w1.setCell a u).heap.size := by rw [World.size_setCell]; exact h
theorem keep_b_alloc {B : Nat} {a w1 : World} {X : Obj} (h : Below B a w1) (hB : B ≤ w1.heap.size) : Below B a (w1.alloc X) := h.alloc hB X
theorem keep_b_set {B : Nat} {a w1 : World} {p : Addr} {u : Value} (h : Below B a w1) (hB : B ≤ p.block) : Below B a (w1.setCell p u) := h.setCell hB u
theorem re_cell {w1 : World} {X Y : Obj} {b o : Nat} {v : Value} (h : (w1.alloc X).cell? ⟨b, o, none⟩ = some v) (hb : b < w1.heap.size) : (w1.alloc Y).cell? ⟨b, o, none⟩ = some v := by
  have e : ∀ Z : Obj, (w1.alloc Z).cell? ⟨b, o, none⟩ = w1.cell? ⟨b, o, none⟩ := fun Z => World.cell?_of_block (w := w1) (Below.heap_alloc w1 Z b hb)
  rw [e] at h ⊢; exact h
theorem re_below {B : Nat} {a w1 : World} {X Y : Obj} (h : Below B a (w1.alloc X)) (hB : B ≤ w1.heap.size) : Below B a (w1.alloc Y) :=
  ⟨h.os, h.tape, h.output, by have := h.size; rw [World.size_alloc] at this ⊢; exact this, fun k hk => by rw [Below.heap_alloc w1 Y k (by omega), ← Below.heap_alloc w1 X k (by omega)]; exact h.block k hk⟩
theorem re_size {w1 : World} {X Y : Obj} {n : Nat} (h : n ≤ (w1.alloc X).heap.size) : n ≤ (w1.alloc Y).heap.size := by rw [World.size_alloc] at *; exact h
theorem keep_alloc_d {w1 : World} {X : Obj} {b o : Nat} {v : Value} (h : w1.drew.cell? ⟨b, o, none⟩ = some v) (hb : b < w1.drew.heap.size) : (w1.alloc X).drew.cell? ⟨b, o, none⟩ = some v := keep_alloc (w1 := w1) h hb
theorem keep_size_d {w1 : World} {X : Obj} {n : Nat} (h : n ≤ w1.drew.heap.size) : n ≤ (w1.alloc X).drew.heap.size := keep_size (w1 := w1) h
theorem undrew {B : Nat} {a w1 : World} (h : Below B a w1.drew) : Below B a w1 := ⟨h.os, h.tape, h.output, h.size, h.block⟩
theorem keep_b_alloc_d {B : Nat} {a w1 : World} {X : Obj} (h : Below B a w1.drew) (hB : B ≤ w1.drew.heap.size) : Below B a (w1.alloc X).drew := ((undrew h).alloc hB X).drew
theorem re_cell_d {w1 : World} {X Y : Obj} {b o : Nat} {v : Value} (h : (w1.alloc X).drew.cell? ⟨b, o, none⟩ = some v) (hb : b < w1.heap.size) : (w1.alloc Y).drew.cell? ⟨b, o, none⟩ = some v := re_cell (w1 := w1) (X := X) h hb
theorem re_below_d {B : Nat} {a w1 : World} {X Y : Obj} (h : Below B a (w1.alloc X).drew) (hB : B ≤ w1.heap.size) : Below B a (w1.alloc Y).drew := (re_below (undrew h) hB).drew
theorem re_size_d {w1 : World} {X Y : Obj} {n : Nat} (h : n ≤ (w1.alloc X).drew.heap.size) : n ≤ (w1.alloc Y).drew.heap.size := re_size (w1 := w1) (X := X) h
theorem wp_gen {P : Program} {c : Code} {Q : Exit → Act → World → Prop} {a : Act} {W : World} (h : ∀ W1, W1 = W → c.wp P Q a W1) : c.wp P Q a W := h W rfl
theorem ret_bool {a b : Bool} (h : a = b) : Ending.returned (.bool a) = .returned (.bool b) := by rw [h]

set_option maxHeartbeats 400000 in
theorem valid_any (p m : BitVec 32) (b : Bool) (hb : vld p m = b) (w : World) :
    Calls Tryd.prog 17 #[sv p m] w fun e w' => e = .returned (.bool b) ∧ Below w.heap.size w w' := by
  subst hb
  have hv := vld_iff p m
  have HV := Lib.hid hv; clear hv
  unfold sv
  go_enter Tryd.func17, Tryd.ntmps17
  go_wp2
  all_goals go_returns
  · refine ⟨ret_bool ?_, by go_grown⟩
    rw [Bool.eq_iff_iff, HV.out]; simp [*]
  · refine ⟨ret_bool ?_, by go_grown⟩
    rw [Bool.eq_iff_iff, HV.out]; simp [*]

set_option maxHeartbeats 400000 in
theorem bothValid_any (p m q n : BitVec 32) (b : Bool) (hb : (vld p m && vld q n) = b) (w : World) :
    Calls Tryd.prog 52 #[sv p m, sv q n] w fun e w' => e = .returned (.bool b) ∧ Below w.heap.size w w' := by
  subst hb
  rcases h1 : vld p m with _ | _
  all_goals rcases h2 : vld q n with _ | _
  all_goals (
    have H1 := Lib.hid h1; have H2 := Lib.hid h2; clear h1 h2
    unfold sv
    go_enter Tryd.func52, Tryd.ntmps52
    go_wp2_with (go_at_call 17; refine (valid_any _ _ _ (by first | exact H1.out | exact H2.out) _).mono ?_; rintro e w1 ⟨rfl, hb⟩; have hw := chain (B := w.heap.size) (a := w) (by go_grown) (by go_size) hb; (first | have h0 := chain (h0.trans (by go_grown)) (by go_size) hb | have h0 := hb); obtain ⟨hc, hf, hz⟩ := bcell hb; obtain ⟨hc0, hf0, hz0⟩ := bcell h0; clear hb; (try simp only [World.size_alloc, World.size_setCell, World.size_drew] at hc hf hz hc0 hf0 hz0))
    go_returns
    exact ⟨rfl, by go_grown⟩)

set_option maxHeartbeats 400000 in
theorem meet_ok (p m q n : BitVec 32) (hv : (vld p m && vld q n) = true) (w : World) :
    Calls Tryd.prog 28 #[sv p m, sv q n] w fun e w' => e = .returned (sv (p &&& q) (m &&& n)) ∧ Below w.heap.size w w' := by
  have H := Lib.hid hv; clear hv
  unfold sv
  go_enter Tryd.func28, Tryd.ntmps28
  go_wp2_with (go_at_call 52; refine (bothValid_any _ _ _ _ _ H.out _).mono ?_; rintro e w1 ⟨rfl, hb⟩; have hw := chain (B := w.heap.size) (a := w) (by go_grown) (by go_size) hb; (first | have h0 := chain (h0.trans (by go_grown)) (by go_size) hb | have h0 := hb); obtain ⟨hc, hf, hz⟩ := bcell hb; obtain ⟨hc0, hf0, hz0⟩ := bcell h0; clear hb; (try simp only [World.size_alloc, World.size_setCell, World.size_drew] at hc hf hz hc0 hf0 hz0))
  refine bodyPost_ret (v := sv (p &&& q) (m &&& n)) (by simp [results, Tryd.results28, go_sem, hc, hz]) rfl ⟨rfl, by go_grown⟩
set_option maxHeartbeats 400000 in
theorem meet_bad (p m q n : BitVec 32) (hv : (vld p m && vld q n) = false) (w : World) :
    Calls Tryd.prog 28 #[sv p m, sv q n] w fun e w' => e = .returned (sv 0 0) ∧ Below w.heap.size w w' := by
  have H := Lib.hid hv; clear hv
  unfold sv
  go_enter Tryd.func28, Tryd.ntmps28
  go_wp2_with (go_at_call 52; refine (bothValid_any _ _ _ _ _ H.out _).mono ?_; rintro e w1 ⟨rfl, hb⟩; have hw := chain (B := w.heap.size) (a := w) (by go_grown) (by go_size) hb; (first | have h0 := chain (h0.trans (by go_grown)) (by go_size) hb | have h0 := hb); obtain ⟨hc, hf, hz⟩ := bcell hb; obtain ⟨hc0, hf0, hz0⟩ := bcell h0; clear hb; (try simp only [World.size_alloc, World.size_setCell, World.size_drew] at hc hf hz hc0 hf0 hz0))
  refine bodyPost_ret (v := sv 0 0) (by simp [results, Tryd.results28, go_sem, hc, hz]) rfl ⟨rfl, by go_grown⟩
set_option maxHeartbeats 400000 in
theorem diff_ok (p m q n : BitVec 32) (hv : (vld p m && vld q n) = true) (w : World) :
    Calls Tryd.prog 30 #[sv p m, sv q n] w fun e w' => e = .returned (.int .u32 (((p ^^^ q) ||| (m ^^^ n)).toNat : Int)) ∧ Below w.heap.size w w' := by
  have H := Lib.hid hv; clear hv
  unfold sv
  go_enter Tryd.func30, Tryd.ntmps30
  go_wp2_with (go_at_call 52; refine (bothValid_any _ _ _ _ _ H.out _).mono ?_; rintro e w1 ⟨rfl, hb⟩; have hw := chain (B := w.heap.size) (a := w) (by go_grown) (by go_size) hb; (first | have h0 := chain (h0.trans (by go_grown)) (by go_size) hb | have h0 := hb); obtain ⟨hc, hf, hz⟩ := bcell hb; obtain ⟨hc0, hf0, hz0⟩ := bcell h0; clear hb; (try simp only [World.size_alloc, World.size_setCell, World.size_drew] at hc hf hz hc0 hf0 hz0))
  go_returns
  exact ⟨by simp, by go_grown⟩
set_option maxHeartbeats 400000 in
theorem diff_bad (p m q n : BitVec 32) (hv : (vld p m && vld q n) = false) (w : World) :
    Calls Tryd.prog 30 #[sv p m, sv q n] w fun e w' => e = .returned (.int .u32 0) ∧ Below w.heap.size w w' := by
  have H := Lib.hid hv; clear hv
  unfold sv
  go_enter Tryd.func30, Tryd.ntmps30
  go_wp2_with (go_at_call 52; refine (bothValid_any _ _ _ _ _ H.out _).mono ?_; rintro e w1 ⟨rfl, hb⟩; have hw := chain (B := w.heap.size) (a := w) (by go_grown) (by go_size) hb; (first | have h0 := chain (h0.trans (by go_grown)) (by go_size) hb | have h0 := hb); obtain ⟨hc, hf, hz⟩ := bcell hb; obtain ⟨hc0, hf0, hz0⟩ := bcell h0; clear hb; (try simp only [World.size_alloc, World.size_setCell, World.size_drew] at hc hf hz hc0 hf0 hz0))
  go_returns
  exact ⟨by simp, by go_grown⟩
end Go.Proofs.YtdbbmhefndjedaaDoor
