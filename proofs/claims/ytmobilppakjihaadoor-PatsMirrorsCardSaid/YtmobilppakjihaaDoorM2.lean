/-
  Lemmas that the theorem of this claim rests on: 4 texts, one behind the other.
-/
import Derived.Test.YtmobilppakjihaaDoorM1
import Derived.Lib.TrailingZeros
import Derived.Laws.BitsAllLaws
import Derived.RangeFuncNested
import Derived.RangeFuncBound
import Derived.RangeFuncCalls
import Derived.RangeFuncLeaves
import Derived.Shelf.Abstract
import Derived.Shelf.RegionOpen
import Derived.WalkKit
import Derived.Lib.Hide
import Derived.OwnWalkIn
import Derived.TacticsInMore
import Derived.LoopNIn
import Derived.LoopIn
set_option linter.unusedSimpArgs false
set_option linter.unusedVariables false
/-
  The features of a set, in increasing order, and how the least of them is found and struck out. No program is named here.
-/
namespace Go.Proofs.YtmobilppakjihaaDoor
open Go.RowKit

/-- The elements of the set r from j on, f places. -/
def fl64 (r : BitVec 64) : Nat → Nat → List (Fin 64)
  | 0, _ => []
  | f + 1, j => if r.getLsbD j then Fin.ofNat 64 j :: fl64 r f (j + 1) else fl64 r f (j + 1)
/-- The elements of a set, in increasing order. -/
def elems64 (r : BitVec 64) : List (Fin 64) := fl64 r 64 0

theorem fl_congr64 {r r' : BitVec 64} : ∀ (f j : Nat), (∀ i, j ≤ i → r.getLsbD i = r'.getLsbD i) → fl64 r f j = fl64 r' f j
  | 0, _, _ => rfl
  | f + 1, j, h => by
    simp only [fl64, h j (Nat.le_refl _), fl_congr64 f (j + 1) (fun i hi => h i (by omega))]
theorem fl_step64 {r r' : BitVec 64} {k : Nat} (h1 : ∀ i, i < k → r.getLsbD i = false) (h2 : r.getLsbD k = true) (h3 : ∀ i, r'.getLsbD i = (r.getLsbD i && decide (i ≠ k))) :
    ∀ (f j : Nat), j ≤ k → k < j + f → fl64 r f j = Fin.ofNat 64 k :: fl64 r' f j
  | 0, j, hj, hf => by omega
  | f + 1, j, hj, hf => by
    by_cases hjk : j = k
    · subst hjk
      have e : r'.getLsbD j = false := by rw [h3]; simp
      simp only [fl64, h2, e, if_true]
      rw [fl_congr64 f (j + 1) (fun i hi => by rw [h3]; simp; omega)]
      simp
    · have e1 : r.getLsbD j = false := h1 j (by omega)
      have e2 : r'.getLsbD j = false := by rw [h3, e1]; rfl
      simp only [fl64, e1, e2]
      exact fl_step64 h1 h2 h3 f (j + 1) (by omega) (by omega)
theorem fl_zero64 : ∀ (f j : Nat), fl64 0#64 f j = []
  | 0, _ => rfl
  | f + 1, j => by simp [fl64, fl_zero64 f (j + 1)]
theorem elems_zero64 : elems64 0#64 = [] := fl_zero64 64 0

theorem low_bits64 (x k m : Nat) (h : x = 2 ^ k * (2 * m + 1)) : (∀ i, i < k → x.testBit i = false) ∧ x.testBit k = true ∧ (∀ i, (x &&& (x - 1)).testBit i = (x.testBit i && decide (i ≠ k))) := by
  have hb : ∀ i, x.testBit i = (decide (k ≤ i) && (2 * m + 1).testBit (i - k)) := fun i => by rw [h, Nat.testBit_two_pow_mul]
  have hp : 0 < 2 ^ k := Nat.two_pow_pos k
  have h1 : x - 1 = 2 ^ k * (2 * m) + (2 ^ k - 1) := by
    rw [h, Nat.mul_add, Nat.mul_one]; omega
  have hb1 : ∀ i, (x - 1).testBit i = if i < k then true else (2 * m).testBit (i - k) := fun i => by
    rw [h1, Nat.testBit_two_pow_mul_add _ (by omega)]
    split
    · rename_i hi; rw [Nat.testBit_two_pow_sub_one]; simpa using hi
    · rfl
  refine ⟨fun i hi => by rw [hb]; simp; omega, by rw [hb]; simp, fun i => ?_⟩
  rw [Nat.testBit_and, hb, hb1]
  by_cases hik : i < k
  · simp [hik]; omega
  · by_cases hek : i = k
    · subst hek; simp
    · have hgt : k < i := by omega
      obtain ⟨d, rfl⟩ : ∃ d, i = k + (d + 1) := ⟨i - k - 1, by omega⟩
      have e1 : k + (d + 1) - k = d + 1 := by omega
      rw [e1, if_neg hik]
      have a1 : (2 * m + 1).testBit (d + 1) = m.testBit d := by rw [Nat.testBit_succ]; congr 1; omega
      have a2 : (2 * m).testBit (d + 1) = m.testBit d := by rw [Nat.testBit_succ]; congr 1; omega
      rw [a1, a2]
      simp

theorem elems_step64 (r : BitVec 64) (h : r.toNat ≠ 0) : Lib.ctz 64 r.toNat < 64 ∧ elems64 r = Fin.ofNat 64 (Lib.ctz 64 r.toNat) :: elems64 (r &&& (r - 1#64)) ∧ (r &&& (r - 1#64)).toNat < r.toNat ∧ (r &&& (r - 1#64)).toNat = r.toNat &&& (r.toNat - 1) := by
  have hlt : r.toNat < 2 ^ 64 := r.isLt
  obtain ⟨m, hm, hk⟩ := Lib.ctzFrom_spec 64 r.toNat (by omega) hlt
  have e : Lib.ctz 64 r.toNat = Lib.ctzFrom 64 r.toNat := by simp [Lib.ctz, h]
  rw [e]
  obtain ⟨b1, b2, b3⟩ := low_bits64 _ _ _ hm
  have hsub : (r - 1#64).toNat = r.toNat - 1 := by
    rw [BitVec.toNat_sub_of_le]
    · rfl
    · rw [BitVec.le_def]; simp; omega
  have hand : (r &&& (r - 1#64)).toNat = r.toNat &&& (r.toNat - 1) := by rw [BitVec.toNat_and, hsub]
  refine ⟨hk, ?_, ?_, hand⟩
  · refine fl_step64 (fun i hi => ?_) ?_ (fun i => ?_) 64 0 (by omega) (by omega)
    · rw [BitVec.getLsbD]; exact b1 i hi
    · rw [BitVec.getLsbD]; exact b2
    · simp only [BitVec.getLsbD]
      rw [hand]; exact b3 i
  · rw [hand]
    have := Nat.and_le_right (n := r.toNat) (m := r.toNat - 1)
    omega

theorem and_pred64 (r : BitVec 64) (h : r.toNat ≠ 0) (e : (r &&& (r - 1#64)).toNat = r.toNat &&& (r.toNat - 1)) : bits BinOp.and IntKind.u64 (r.toNat : Int) ((r.toNat : Int) - 1) = ((r &&& (r - 1#64)).toNat : Int) := by
  have hr := r.isLt
  rw [show ((r.toNat : Int) - 1) = ((r.toNat - 1 : Nat) : Int) by omega, u64_and_nat _ _ (by omega) (by omega), e]
theorem tz_key64 (x a : Nat) (hx : x < 18446744073709551616) (hx0 : x ≠ 0) (hlow : x &&& (18446744073709551616 - x) = a) :
    bits BinOp.and IntKind.u64 (x : Int) (-(x : Int) % 18446744073709551616) * 285870213051353865 % 18446744073709551616 / 288230376151711744 = ((a * 285870213051353865 % 18446744073709551616 / 288230376151711744 : Nat) : Int) := by
  have e1 : -(x : Int) % 18446744073709551616 = ((18446744073709551616 - x : Nat) : Int) := by omega
  rw [e1, u64_and_nat x _ hx (by omega), hlow]
  omega
end Go.Proofs.YtmobilppakjihaaDoor

/-
  Which patterns are valid.
-/

namespace Go.Proofs.YtmobilppakjihaaDoor
open Go.RowKit Go.Sort
/-- Whether the numbers of a node, or what it does not use, are not allowed. -/
def argB (d : Nd) (n : Nat) : Bool :=
  decide (d.kind < 0) || decide (6 < d.kind) || (decide (d.kind ≠ 1) && (decide (d.is ≠ (0#32, 0#32)) || d.neg)) || (decide (d.kind ≠ 3) && decide (d.kind ≠ 4) && decide (d.kind ≠ 5) && decide (n ≠ 0)) || (decide (d.kind ≠ 5) && (decide (d.mi ≠ 0) || decide (d.ma ≠ 0)))
    || (decide (d.kind = 5) && (decide (n ≠ 1) || decide (d.mi < 0) || decide (32 < d.mi) || (decide (d.ma ≠ -1) && (decide (d.ma < d.mi) || decide (32 < d.ma)))))
/-- The error of a node alone. -/
def ndE (d : Nd) (n : Nat) : Int := if argB d n = true then 2 else if vd d.is = true then 0 else 14
theorem ndE_cases (d : Nd) (n : Nat) : ndE d n = 0 ∨ ndE d n = 2 ∨ ndE d n = 14 := by
  unfold ndE
  split
  · exact .inr (.inl rfl)
  · split
    · exact .inl rfl
    · exact .inr (.inr rfl)
/-- How many nodes come before what follows, and the first error, of nodes of which some come before. -/
def wkL : List (Nd × Nat) → Nat → Nat × Int
  | [], s => (s, 0)
  | x :: l, s => if s = 40 then (40, 12) else if ndE x.1 x.2 = 0 then wkL l (s + 1) else (s, ndE x.1 x.2)
theorem wkL_append : ∀ (a b : List (Nd × Nat)) (s : Nat), wkL (a ++ b) s = if (wkL a s).2 = 0 then wkL b (wkL a s).1 else wkL a s
  | [], b, s => by simp [wkL]
  | x :: a, b, s => by
    simp only [List.cons_append, wkL]
    split
    · simp
    · split
      · exact wkL_append a b (s + 1)
      · rename_i h
        simp [h]
theorem wkL_ok : ∀ (l : List (Nd × Nat)) (s : Nat), (wkL l s).2 = 0 → (wkL l s).1 = s + l.length ∧ (s ≤ 40 → s + l.length ≤ 40)
  | [], s, _ => ⟨rfl, fun h => by simpa using h⟩
  | x :: l, s, h => by
    simp only [wkL] at h ⊢
    split at h
    · cases h
    · rename_i h40
      split at h
      · rename_i h0
        obtain ⟨h1, h2⟩ := wkL_ok l (s + 1) h
        rw [if_neg h40, if_pos h0]
        simp only [List.length_cons]
        exact ⟨by omega, fun hs => by have := h2 (by omega); omega⟩
      · rename_i h0
        exact absurd h h0
theorem wkL_le : ∀ (l : List (Nd × Nat)) (s : Nat), s ≤ 40 → (wkL l s).1 ≤ 40
  | [], s, h => h
  | x :: l, s, h => by
    simp only [wkL]
    split
    · exact Nat.le_refl _
    · split
      · exact wkL_le l (s + 1) (by omega)
      · exact h
/-- The error of Check. -/
def pkE (d : Nd) (k : Fo) : Int := (wkL ((d, k.len) :: k.pre) 0).2
/-- Each node is valid. -/
theorem wkL_all : ∀ (l : List (Nd × Nat)) (s : Nat), (wkL l s).2 = 0 → ∀ x ∈ l, ndE x.1 x.2 = 0
  | [], _, _, _, hx => by cases hx
  | y :: l, s, h, x, hx => by
    simp only [wkL] at h
    split at h
    · cases h
    · split at h
      · rename_i h0
        rcases List.mem_cons.1 hx with rfl | hx
        · exact h0
        · exact wkL_all l (s + 1) h x hx
      · rename_i h0
        exact absurd h h0
/-- Valid nodes all through. -/
def Fo.good : Fo → Prop
  | .nil => True
  | .cons d k r => ndE d k.len = 0 ∧ k.good ∧ r.good
theorem Fo.good_of : ∀ (f : Fo), (∀ x ∈ f.pre, ndE x.1 x.2 = 0) → f.good
  | .nil, _ => trivial
  | .cons d k r, h => ⟨h (d, k.len) (by simp [Fo.pre]), Fo.good_of k (fun x hx => h x (by simp [Fo.pre, hx])), Fo.good_of r (fun x hx => h x (by simp [Fo.pre, hx]))⟩
theorem pkE_good {d : Nd} {k : Fo} (h : pkE d k = 0) : ndE d k.len = 0 ∧ k.good ∧ k.size < 40 := by
  have h1 := wkL_all _ _ h
  have h2 := (wkL_ok _ _ h).2 (by omega)
  simp only [List.length_cons, Fo.pre_length] at h2
  exact ⟨h1 (d, k.len) (by simp), Fo.good_of k (fun x hx => h1 x (by simp [hx])), by omega⟩
/-- What a valid node is. -/
theorem ndE_ok {d : Nd} {n : Nat} (h : ndE d n = 0) : 0 ≤ d.kind ∧ d.kind ≤ 6 ∧ vd d.is = true ∧ (d.kind ≠ 1 → d.is = (0#32, 0#32) ∧ d.neg = false) ∧ (d.kind ≠ 3 → d.kind ≠ 4 → d.kind ≠ 5 → n = 0) ∧ (d.kind ≠ 5 → d.mi = 0 ∧ d.ma = 0) ∧ (d.kind = 5 → n = 1 ∧ 0 ≤ d.mi ∧ d.mi ≤ 32 ∧ (d.ma = -1 ∨ d.mi ≤ d.ma ∧ d.ma ≤ 32)) := by
  unfold ndE at h
  split at h
  · cases h
  · rename_i ha
    split at h
    · rename_i hv
      simp only [argB, Bool.or_eq_true, Bool.and_eq_true, decide_eq_true_eq, not_or, not_and, Bool.not_eq_true] at ha
      obtain ⟨⟨⟨⟨⟨a1, a2⟩, a3⟩, a4⟩, a5⟩, a6⟩ := ha
      refine ⟨by omega, by omega, hv, fun hk => ⟨?_, ?_⟩, fun h1 h2 h3 => ?_, fun hk => ⟨?_, ?_⟩, fun hk => ?_⟩
      · exact Decidable.not_not.1 (a3 hk).1
      · exact (a3 hk).2
      · exact Decidable.not_not.1 (a4 ⟨⟨h1, h2⟩, h3⟩)
      · exact Decidable.not_not.1 (a5 hk).1
      · exact Decidable.not_not.1 (a5 hk).2
      · have := a6 hk
        omega
    · cases h
/-- Whether two lists of patterns are the same. -/
def Fo.eqv : Fo → Fo → Bool
  | .nil, .nil => true
  | .cons d k r, .cons d' k' r' => decide (d.kind = d'.kind) && decide (d.is = d'.is) && (d.neg == d'.neg) && decide (d.mi = d'.mi) && decide (d.ma = d'.ma) && k.eqv k' && r.eqv r'
  | _, _ => false
theorem Fo.eqv_len : ∀ (a b : Fo), a.eqv b = true → a.len = b.len
  | .nil, .nil, _ => rfl
  | .cons d k r, .cons d' k' r', h => by
    simp only [Fo.eqv, Bool.and_eq_true] at h
    simp only [Fo.len, Fo.eqv_len r r' h.2]
  | .nil, .cons .., h => by simp [Fo.eqv] at h
  | .cons .., .nil, h => by simp [Fo.eqv] at h
/-- Whether two nodes with what is below them are the same. -/
def ptq (d : Nd) (k : Fo) (d' : Nd) (k' : Fo) : Bool := decide (d.kind = d'.kind) && decide (d.is = d'.is) && (d.neg == d'.neg) && decide (d.mi = d'.mi) && decide (d.ma = d'.ma) && k.eqv k'
end Go.Proofs.YtmobilppakjihaaDoor

/-
  Tables: for each place of a word the places to which a pattern matches, as bits.
-/
namespace Go.Proofs.YtmobilppakjihaaDoor
open Go.RowKit Go.Sort
abbrev Tb := Nat → BitVec 64
/-- The table of the empty pattern. -/
def sameT (n : Nat) : Tb := fun a => if a ≤ n then 1#64 <<< a else 0#64
def orT (x y : Tb) : Tb := fun a => x a ||| y a
def zeroT : Tb := fun _ => 0#64
/-- What y has at the places below m that s has. -/
def orU (y : Tb) (s : BitVec 64) : Nat → BitVec 64
  | 0 => 0#64
  | m + 1 => if s.getLsbD m = true then orU y s m ||| y m else orU y s m
/-- One table, and then another one. -/
def thnT (n : Nat) (x y : Tb) : Tb := fun a => orU y (x a) (n + 1)
/-- Whether the place b is that of a table at a. -/
abbrev mem (x : Tb) (a b : Nat) : Prop := (x a).getLsbD b = true
theorem one_shl {a b : Nat} (ha : a < 64) : (1#64 <<< a).getLsbD b = decide (a = b) := by
  rw [BitVec.getLsbD_shiftLeft]
  by_cases h : b < 64
  · by_cases h2 : b < a
    · have : ¬ a = b := by omega
      simp [h2, this]
    · by_cases h3 : a = b
      · subst h3; simp [h]
      · have : ¬ b - a = 0 := by omega
        simp [h2, h3, BitVec.getLsbD_one, this]
  · have : ¬ a = b := by omega
    simp [h, this]
theorem orU_bit (y : Tb) (s : BitVec 64) (c : Nat) : ∀ m, (orU y s m).getLsbD c = true ↔ ∃ b, b < m ∧ s.getLsbD b = true ∧ (y b).getLsbD c = true
  | 0 => by simp [orU]
  | m + 1 => by
    unfold orU
    split
    · rename_i hs
      rw [BitVec.getLsbD_or, Bool.or_eq_true, orU_bit y s c m]
      constructor
      · rintro (⟨b, h1, h2, h3⟩ | h)
        · exact ⟨b, by omega, h2, h3⟩
        · exact ⟨m, by omega, hs, h⟩
      · rintro ⟨b, h1, h2, h3⟩
        by_cases hb : b = m
        · subst hb; exact .inr h3
        · exact .inl ⟨b, by omega, h2, h3⟩
    · rename_i hs
      rw [orU_bit y s c m]
      constructor
      · rintro ⟨b, h1, h2, h3⟩
        exact ⟨b, by omega, h2, h3⟩
      · rintro ⟨b, h1, h2, h3⟩
        refine ⟨b, ?_, h2, h3⟩
        by_cases hb : b = m
        · subst hb; exact absurd h2 hs
        · omega
theorem thn_bit (n : Nat) (x y : Tb) (a c : Nat) : mem (thnT n x y) a c ↔ ∃ b, b ≤ n ∧ mem x a b ∧ mem y b c := by
  unfold mem thnT
  rw [orU_bit]
  constructor
  · rintro ⟨b, h1, h2⟩; exact ⟨b, by omega, h2⟩
  · rintro ⟨b, h1, h2⟩; exact ⟨b, by omega, h2⟩
theorem same_bit {n : Nat} (hn : n < 64) (a b : Nat) : mem (sameT n) a b ↔ a = b ∧ a ≤ n := by
  unfold mem sameT
  split
  · rename_i h
    rw [one_shl (by omega)]; simp [h]
  · rename_i h
    simp; omega
theorem or_bit (x y : Tb) (a b : Nat) : mem (orT x y) a b ↔ mem x a b ∨ mem y a b := by
  unfold mem orT
  rw [BitVec.getLsbD_or, Bool.or_eq_true]
theorem Tb.ext {x y : Tb} (h : ∀ a b, mem x a b ↔ mem y a b) : x = y := by
  funext a
  apply BitVec.eq_of_getLsbD_eq
  intro i hi
  exact Bool.eq_iff_iff.2 (h a i)
/-- The table's places are those of a word of n sounds, and lie behind. -/
def OkT (n : Nat) (x : Tb) : Prop := ∀ a b, mem x a b → a ≤ b ∧ b ≤ n
theorem OkT.same {n : Nat} (hn : n < 64) : OkT n (sameT n) := fun a b h => by
  have := (same_bit hn a b).1 h
  omega
theorem OkT.zero (n : Nat) : OkT n zeroT := fun a b h => by simp [mem, zeroT] at h
theorem OkT.or {n : Nat} {x y : Tb} (hx : OkT n x) (hy : OkT n y) : OkT n (orT x y) := fun a b h => by
  rcases (or_bit x y a b).1 h with h | h
  · exact hx a b h
  · exact hy a b h
theorem OkT.thn {n : Nat} {x y : Tb} (hx : OkT n x) (hy : OkT n y) : OkT n (thnT n x y) := fun a c h => by
  obtain ⟨b, h1, h2, h3⟩ := (thn_bit n x y a c).1 h
  have := hx a b h2
  have := hy b c h3
  omega
theorem OkT.beyond {n : Nat} {x : Tb} (hx : OkT n x) {a : Nat} (ha : n < a) : x a = 0#64 := by
  apply BitVec.eq_of_getLsbD_eq
  intro i hi
  rcases h : (x a).getLsbD i with _ | _
  · simp
  · have := hx a i h
    omega
/-- A table k times, one after the other. -/
def pwT (n : Nat) (x : Tb) : Nat → Tb
  | 0 => sameT n
  | k + 1 => thnT n (pwT n x k) x
/-- From lo times to lo + i times. -/
def unT (n : Nat) (x : Tb) (lo : Nat) : Nat → Tb
  | 0 => pwT n x lo
  | i + 1 => orT (unT n x lo i) (pwT n x (lo + i + 1))
theorem OkT.pw {n : Nat} {x : Tb} (hn : n < 64) (hx : OkT n x) : ∀ k, OkT n (pwT n x k)
  | 0 => OkT.same hn
  | k + 1 => (OkT.pw hn hx k).thn hx
theorem OkT.un {n : Nat} {x : Tb} (hn : n < 64) (hx : OkT n x) (lo : Nat) : ∀ i, OkT n (unT n x lo i)
  | 0 => OkT.pw hn hx lo
  | i + 1 => (OkT.un hn hx lo i).or (OkT.pw hn hx _)
theorem un_bit (n : Nat) (x : Tb) (lo a b : Nat) : ∀ i, mem (unT n x lo i) a b ↔ ∃ k, lo ≤ k ∧ k ≤ lo + i ∧ mem (pwT n x k) a b
  | 0 => by
    constructor
    · intro h; exact ⟨lo, Nat.le_refl _, by omega, h⟩
    · rintro ⟨k, h1, h2, h3⟩
      obtain rfl : k = lo := by omega
      exact h3
  | i + 1 => by
    show mem (orT _ _) a b ↔ _
    rw [or_bit, un_bit n x lo a b i]
    constructor
    · rintro (⟨k, h1, h2, h3⟩ | h)
      · exact ⟨k, h1, by omega, h3⟩
      · exact ⟨lo + i + 1, by omega, by omega, h⟩
    · rintro ⟨k, h1, h2, h3⟩
      by_cases hk : k = lo + i + 1
      · subst hk; exact .inr h3
      · exact .inl ⟨k, h1, by omega, h3⟩
/-- If one more time adds nothing, then no number of times does. -/
theorem un_stable {n : Nat} {x : Tb} {lo i : Nat} (h : unT n x lo (i + 1) = unT n x lo i) : ∀ j, unT n x lo (i + j) = unT n x lo i := by
  have key : ∀ j a b, mem (pwT n x (lo + i + 1 + j)) a b → mem (unT n x lo i) a b := by
    intro j
    induction j with
    | zero =>
      intro a b hm
      rw [← h]
      exact (or_bit _ _ a b).2 (.inr hm)
    | succ j ih =>
      intro a c hm
      obtain ⟨b, h1, h2, h3⟩ := (thn_bit n (pwT n x (lo + i + 1 + j)) x a c).1 hm
      obtain ⟨k, k1, k2, k3⟩ := (un_bit n x lo a b i).1 (ih a b h2)
      rw [← h]
      exact (un_bit n x lo a c (i + 1)).2 ⟨k + 1, by omega, by omega, (thn_bit n (pwT n x k) x a c).2 ⟨b, h1, k3, h3⟩⟩
  intro j
  apply Tb.ext
  intro a b
  constructor
  · intro hm
    obtain ⟨k, k1, k2, k3⟩ := (un_bit n x lo a b (i + j)).1 hm
    by_cases hk : k ≤ lo + i
    · exact (un_bit n x lo a b i).2 ⟨k, k1, hk, k3⟩
    · have := key (k - (lo + i + 1)) a b (by rw [show lo + i + 1 + (k - (lo + i + 1)) = k from by omega]; exact k3)
      exact this
  · intro hm
    obtain ⟨k, k1, k2, k3⟩ := (un_bit n x lo a b i).1 hm
    exact (un_bit n x lo a b (i + j)).2 ⟨k, k1, by omega, k3⟩
/-- The sum of a table's numbers. -/
def sumT (x : Tb) : Nat → Nat
  | 0 => 0
  | m + 1 => sumT x m + (x m).toNat
theorem sumT_le (x : Tb) : ∀ m, sumT x m ≤ m * 18446744073709551616
  | 0 => by simp [sumT]
  | m + 1 => by
    have := sumT_le x m
    have h : (x m).toNat < 18446744073709551616 := (x m).isLt
    simp only [sumT]
    omega
theorem sumT_mono {x y : Tb} (h : ∀ a, (x a).toNat ≤ (y a).toNat) : ∀ m, sumT x m ≤ sumT y m
  | 0 => Nat.le_refl _
  | m + 1 => by
    have := sumT_mono h m
    have := h m
    simp only [sumT]
    omega
theorem sumT_lt {x y : Tb} (h : ∀ a, (x a).toNat ≤ (y a).toNat) {a : Nat} (hne : x a ≠ y a) : ∀ m, a < m → sumT x m < sumT y m
  | 0, h0 => by omega
  | m + 1, h0 => by
    have h1 := sumT_mono h m
    have h2 := h m
    simp only [sumT]
    by_cases ha : a = m
    · subst ha
      have : (x a).toNat ≠ (y a).toNat := fun e => hne (BitVec.eq_of_toNat_eq e)
      omega
    · have := sumT_lt h hne m (by omega)
      omega
theorem or_grows (x y : Tb) (a : Nat) : (x a).toNat ≤ (orT x y a).toNat := by
  unfold orT
  rw [BitVec.toNat_or]
  exact Nat.left_le_or
/-- As many times as all tables need. -/
def bigN : Nat := 608742554432415203328
theorem un_sum {n : Nat} {x : Tb} (hn : n ≤ 32) (hx : OkT n x) {lo i : Nat} (h : ∀ j, j < i → unT n x lo (j + 1) ≠ unT n x lo j) : i ≤ sumT (unT n x lo i) 33 := by
  induction i with
  | zero => omega
  | succ i ih =>
    have h1 := ih (fun j hj => h j (by omega))
    have h2 := h i (by omega)
    have hne : ∃ a, a < 33 ∧ unT n x lo i a ≠ unT n x lo (i + 1) a := by
      apply Classical.byContradiction
      intro hc
      apply h2
      funext a
      by_cases ha : a < 33
      · apply Classical.byContradiction
        intro hd
        exact hc ⟨a, ha, fun e => hd e.symm⟩
      · rw [(OkT.un (by omega) hx lo (i + 1)).beyond (by omega), (OkT.un (by omega) hx lo i).beyond (by omega)]
    obtain ⟨a, ha, hd⟩ := hne
    have := sumT_lt (x := unT n x lo i) (y := unT n x lo (i + 1)) (fun a => or_grows _ _ a) hd 33 ha
    omega
theorem un_stops {n : Nat} {x : Tb} (hn : n ≤ 32) (hx : OkT n x) (lo : Nat) : ∃ i, i ≤ bigN ∧ unT n x lo (i + 1) = unT n x lo i := by
  apply Classical.byContradiction
  intro hc
  have h1 := un_sum hn hx (lo := lo) (i := bigN + 1) (fun j hj e => hc ⟨j, by omega, e⟩)
  have h2 := sumT_le (unT n x lo (bigN + 1)) 33
  unfold bigN at h1 h2
  omega
/-- The table of a repeated pattern. -/
def repT (n : Nat) (x : Tb) (lo : Nat) (hi : Int) : Tb := unT n x lo (if hi = -1 then bigN else (hi - lo).toNat)
theorem OkT.rep {n : Nat} {x : Tb} (hn : n < 64) (hx : OkT n x) (lo : Nat) (hi : Int) : OkT n (repT n x lo hi) := OkT.un hn hx lo _
theorem rep_bit {n : Nat} {x : Tb} (hn : n ≤ 32) (hx : OkT n x) {lo : Nat} {hi : Int} (hh : hi = -1 ∨ (lo : Int) ≤ hi) (a b : Nat) : mem (repT n x lo hi) a b ↔ ∃ k : Nat, lo ≤ k ∧ (hi = -1 ∨ (k : Int) ≤ hi) ∧ mem (pwT n x k) a b := by
  unfold repT
  by_cases h : hi = -1
  · rw [if_pos h]
    constructor
    · intro hm
      obtain ⟨k, k1, k2, k3⟩ := (un_bit n x lo a b bigN).1 hm
      exact ⟨k, k1, .inl h, k3⟩
    · rintro ⟨k, k1, -, k3⟩
      obtain ⟨i, h1, h2⟩ := un_stops hn hx lo
      have e1 := un_stable h2 (bigN - i)
      rw [show i + (bigN - i) = bigN from by omega] at e1
      rw [e1]
      by_cases hk : k ≤ lo + i
      · exact (un_bit n x lo a b i).2 ⟨k, k1, hk, k3⟩
      · rw [← un_stable h2 (k - lo - i)]
        exact (un_bit n x lo a b _).2 ⟨k, k1, by omega, k3⟩
  · rw [if_neg h, un_bit]
    constructor
    · rintro ⟨k, k1, k2, k3⟩
      exact ⟨k, k1, .inr (by omega), k3⟩
    · rintro ⟨k, k1, k2, k3⟩
      exact ⟨k, k1, by omega, k3⟩
/-- Where the rounds end, the table is there. -/
theorem rep_stop {n : Nat} {x : Tb} {lo i : Nat} {hi : Int} (hib : i ≤ bigN) (h1 : hi = -1 ∨ (lo : Int) + i ≤ hi) (h : unT n x lo (i + 1) = unT n x lo i) : repT n x lo hi = unT n x lo i := by
  unfold repT
  by_cases hh : hi = -1
  · rw [if_pos hh]
    have := un_stable h (bigN - i)
    rwa [show i + (bigN - i) = bigN from by omega] at this
  · rw [if_neg hh]
    have := un_stable h ((hi - lo).toNat - i)
    rwa [show i + ((hi - lo).toNat - i) = (hi - lo).toNat from by omega] at this
theorem rep_most {n : Nat} {x : Tb} {lo i : Nat} {hi : Int} (h0 : hi ≠ -1) (h1 : (lo : Int) + i = hi) : repT n x lo hi = unT n x lo i := by
  unfold repT
  rw [if_neg h0, show (hi - lo).toNat = i from by omega]
/-- Whether a sound satisfies a condition. -/
def satB (s c : Snd) : Bool := decide (s.1 &&& c.1 = c.1) && decide (s.2 &&& c.2 = c.2)
/-- The table of a node, by those of the patterns below it. -/
def tabN (ss : List Snd) (d : Nd) (ts : List Tb) : Tb :=
  if d.kind = 0 then sameT ss.length
  else if d.kind = 1 then fun a => match ss[a]? with
    | none => 0#64
    | some s => if satB s d.is != d.neg then 1#64 <<< (a + 1) else 0#64
  else if d.kind = 2 then fun a => if a = 0 then 1#64 else 0#64
  else if d.kind = 3 then ts.foldl (thnT ss.length) (sameT ss.length)
  else if d.kind = 4 then ts.foldl orT zeroT
  else if d.kind = 5 then repT ss.length (ts.headD zeroT) d.mi.toNat d.ma
  else fun a => if a = ss.length then 1#64 <<< a else 0#64
/-- The tables of some patterns. -/
def tabF (ss : List Snd) : Fo → List Tb
  | .nil => []
  | .cons d k r => tabN ss d (tabF ss k) :: tabF ss r
/-- The table of a pattern. -/
def tabP (ss : List Snd) (d : Nd) (k : Fo) : Tb := tabN ss d (tabF ss k)
theorem OkT.fold_thn {n : Nat} : ∀ (ts : List Tb) (x : Tb), OkT n x → (∀ t ∈ ts, OkT n t) → OkT n (ts.foldl (thnT n) x)
  | [], x, hx, _ => hx
  | t :: ts, x, hx, h => OkT.fold_thn ts _ (hx.thn (h t (by simp))) (fun u hu => h u (by simp [hu]))
theorem OkT.fold_or {n : Nat} : ∀ (ts : List Tb) (x : Tb), OkT n x → (∀ t ∈ ts, OkT n t) → OkT n (ts.foldl orT x)
  | [], x, hx, _ => hx
  | t :: ts, x, hx, h => OkT.fold_or ts _ (hx.or (h t (by simp))) (fun u hu => h u (by simp [hu]))
theorem OkT.node {ss : List Snd} (hn : ss.length ≤ 32) (d : Nd) (ts : List Tb) (h : ∀ t ∈ ts, OkT ss.length t) : OkT ss.length (tabN ss d ts) := by
  unfold tabN
  split
  · exact OkT.same (by omega)
  split
  · intro a b hm
    simp only [mem] at hm
    split at hm
    · simp at hm
    · rename_i s hs
      have ha : a < ss.length := (List.getElem?_eq_some_iff.1 hs).1
      split at hm
      · rw [one_shl (by omega)] at hm
        have := of_decide_eq_true hm
        omega
      · simp at hm
  split
  · intro a b hm
    simp only [mem] at hm
    split at hm
    · rw [show (1#64) = 1#64 <<< 0 from rfl, one_shl (by omega)] at hm
      have := of_decide_eq_true hm
      omega
    · simp at hm
  split
  · exact OkT.fold_thn ts _ (OkT.same (by omega)) h
  split
  · exact OkT.fold_or ts _ (OkT.zero _) h
  split
  · refine OkT.rep (by omega) ?_ _ _
    cases ts with
    | nil => exact OkT.zero _
    | cons t ts => exact h t (by simp)
  · intro a b hm
    simp only [mem] at hm
    split at hm
    · rw [one_shl (by omega)] at hm
      have := of_decide_eq_true hm
      omega
    · simp at hm
theorem OkT.forest {ss : List Snd} (hn : ss.length ≤ 32) : ∀ (f : Fo), ∀ t ∈ tabF ss f, OkT ss.length t
  | .nil, t, h => by simp [tabF] at h
  | .cons d k r, t, h => by
    rcases List.mem_cons.1 h with rfl | h
    · exact OkT.node hn d _ (OkT.forest hn k)
    · exact OkT.forest hn r t h
theorem OkT.pat {ss : List Snd} (hn : ss.length ≤ 32) (d : Nd) (k : Fo) : OkT ss.length (tabP ss d k) := OkT.node hn d _ (OkT.forest hn k)
/-- A table as a value. -/
def tbV (x : Tb) : Value := .agg ((List.range 33).map fun a => .int .u64 ((x a).toNat : Int)).toArray
end Go.Proofs.YtmobilppakjihaaDoor

/-
  The places of a set, yielded one after the other.
-/
namespace Go.Proofs.YtmobilppakjihaaDoor
open Go.RowKit Go.Shelf
attribute [local go_sem] Oper.semAt_some

theorem u64_wrap (y : Int) : IntKind.u64.wrap y = y % 18446744073709551616 := by
  first | rfl | (unfold IntKind.wrap; simp [IntKind.max, IntKind.signed]) | (simp [IntKind.wrap])
/-- The table of the library that the walk reads. -/
def Tab64 (w : World) : Prop := ∀ j, j < 64 → w.cell? ⟨0, j, none⟩ = some (.int .u8 (Lib.deBruijn64tab.getD j 0))

set_option maxHeartbeats 1000000 in
theorem tz_core64 (x k idx : Nat) (w : World) (hx0 : ((x : Int) == 0) = false)
    (key : IntKind.u64.wrap (bits BinOp.and IntKind.u64 (x : Int) (IntKind.u64.wrap (-(x : Int))) * 285870213051353865) / 288230376151711744 = (idx : Int))
    (hi : idx < 64) (hk : k < 64) (hcell : w.cell? ⟨0, idx, none⟩ = some (.int .u8 k)) :
    Calls Tryd.prog 81 #[.int .u64 x] w fun e w' => e = .returned (.int .i64 k) ∧ w = w' := by
  go_enter Tryd.func81, Tryd.ntmps81
  go_wp2_with (simp only [key])
  go_ret
  exact ⟨rfl, rfl⟩
theorem tz_any64 (x : Nat) (hx : x < 18446744073709551616) (h0 : x ≠ 0) (w : World) (hT : Tab64 w) :
    Calls Tryd.prog 81 #[.int .u64 x] w fun e w' => e = .returned (.int .i64 (Lib.ctz 64 x)) ∧ w = w' := by
  obtain ⟨hlow, hk⟩ := Lib.lowest_bit 64 x h0 hx
  obtain ⟨hi, htab⟩ := Lib.deBruijn64_at _ hk
  have hcell := hT _ hi
  rw [htab] at hcell
  exact tz_core64 x _ _ w (by simp; omega) (by rw [u64_wrap, u64_wrap]; exact tz_key64 x _ hx h0 hlow) hi hk hcell

theorem Tab64.below {n₀ : Nat} {A B : World} (hb : Below n₀ A B) (h0 : 0 < n₀) (h : Tab64 A) : Tab64 B := fun j hj => (hb.cell (p := ⟨0, j, none⟩) h0).trans (h j hj)

set_option maxRecDepth 100000 in
set_option maxHeartbeats 1000000 in
/-- The iterator: each feature of the set, in increasing order. -/
theorem iter_in64 (n : Nat) (hn : 1 ≤ n) (l Bn n₀ : Nat) (r0 : BitVec 64) (J Jx : List (Fin 64) → World → Prop)
    (hY : ∀ pre x W, x ∈ elems64 r0 → J pre W → pre.length < (elems64 r0).length → YieldAt Fence.wide (n - 1) Tryd.prog l #[.int .i64 ((x : Fin 64).val : Int)] W fun e W' =>
      (e = .returned (.bool true) ∧ J (pre ++ [x]) W' ∧ Below n₀ W W') ∨ (e = .returned (.bool false) ∧ Jx (pre ++ [x]) W'))
    (W : World) (hBn : W.cell? ⟨Bn, 0, none⟩ = some (.int .u64 (r0.toNat : Int))) (hn0 : 0 < n₀) (hT : Tab64 W) (h0 : J [] W) :
    CallsIn Fence.wide n Tryd.prog 80 #[.func (.yield l) #[] #[], .pointer (some ⟨Bn, 0, none⟩)] W fun e W' => (∃ v, e = .returned v) ∧
      ((∃ ys, ys = elems64 r0 ∧ J ys W') ∨ (∃ pre, pre <+: elems64 r0 ∧ Jx pre W')) := by
  refine callsIn_of_wp Tryd.func80 rfl trivial ?_ rfl
  simp only [Tryd.ntmps80, List.size_toArray, List.length_cons, List.length_nil, Nat.reduceAdd, Nat.reduceSub, Array.replicate_succ, Array.replicate_zero, List.push_toArray, List.append_toArray, List.nil_append, List.cons_append]
  gi_wp2
  gi_loopw [3] (fun p wr => ∃ (pre : List (Fin 64)) (r : BitVec 64), p = .int .u64 (r.toNat : Int) ∧ elems64 r0 = pre ++ elems64 r ∧ Tab64 wr ∧ J pre wr)
    (fun p wr => (intOf p).toNat)
  case atStart =>
    exact ⟨[], r0, rfl, rfl, hT, h0⟩
  case round =>
    obtain ⟨pre, r, rfl, hx, hTr, hJs⟩ := hrel
    by_cases hr : r.toNat = 0
    · have hr0 : r = 0#64 := by rw [← BitVec.toNat_inj]; simpa using hr
      subst hr0
      rw [elems_zero64, List.append_nil] at hx
      gi_wp2
      go_end0
      exact ⟨⟨_, rfl⟩, .inl ⟨pre, hx.symm, hJs⟩⟩
    · obtain ⟨hk, hel, hlt, hand⟩ := elems_step64 r hr
      obtain ⟨fn, tmps, assign, body, hy, hR⟩ := hY pre (Fin.ofNat 64 (Lib.ctz 64 r.toNat)) wr (by rw [hx, hel]; simp) hJs (by rw [hx, hel]; simp)
      have hmod : (Fin.ofNat 64 (Lib.ctz 64 r.toNat)).val = Lib.ctz 64 r.toNat := Nat.mod_eq_of_lt hk
      rw [hmod] at hy
      have hpos : 0 < r.toNat := by omega
      have h32 := r.isLt
      have hap := and_pred64 r hr hand
      have HX := Lib.hid hx; have HEL := Lib.hid hel; have HAP := Lib.hid hap
      have hne : ((r.toNat : Int) != 0) = true := by simpa using hr
      clear hx hel hap hand hmod
      gi_wp2_with (refine ⟨trivial, ?_⟩; gi_at_call 81; refine (callsIn_wide.2 (tz_any64 r.toNat h32 hr _ hTr)).mono ?_; rintro e w' ⟨rfl, rfl⟩)
      refine hR.mono ?_
      rintro e W3 (⟨rfl, hJ3, hk3⟩ | ⟨rfl, hJx3⟩)
      · have hT3 := hTr.below hk3 hn0
        gi_wp2
        go_roundw
        case rel =>
          refine ⟨pre ++ [Fin.ofNat 64 (Lib.ctz 64 r.toNat)], r &&& (r - 1#64), ?_, ?_, hT3, hJ3⟩
          · rw [← HAP.out]
          · rw [HX.out, HEL.out]; simp
        case measure =>
          have e := HAP.out
          simp only [intOf]
          omega
      · gi_wp2
        refine bodyPost_ret (results_none rfl _ _ _) rfl ?_
        refine ⟨⟨_, rfl⟩, .inr ⟨pre ++ [Fin.ofNat 64 (Lib.ctz 64 r.toNat)], ⟨elems64 (r &&& (r - 1#64)), ?_⟩, hJx3⟩⟩
        rw [HX.out, HEL.out]; simp
end Go.Proofs.YtmobilppakjihaaDoor
