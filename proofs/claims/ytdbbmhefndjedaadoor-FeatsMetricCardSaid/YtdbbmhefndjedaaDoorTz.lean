/-
  The features of a set, in increasing order, and how the least of them is found and struck out. No program is named here.
-/
import Derived.Test.YtdbbmhefndjedaaDoorBits
import Derived.Lib.TrailingZeros
import Derived.Laws.BitsAllLaws
namespace Go.Proofs.YtdbbmhefndjedaaDoor
open Go.RowKit

/-- The elements of the set r from j on, f places. -/
def fl (r : BitVec 32) : Nat → Nat → List (Fin 32)
  | 0, _ => []
  | f + 1, j => if r.getLsbD j then Fin.ofNat 32 j :: fl r f (j + 1) else fl r f (j + 1)
/-- The elements of a set, in increasing order. -/
def elems (r : BitVec 32) : List (Fin 32) := fl r 32 0

theorem fl_congr {r r' : BitVec 32} : ∀ (f j : Nat), (∀ i, j ≤ i → r.getLsbD i = r'.getLsbD i) → fl r f j = fl r' f j
  | 0, _, _ => rfl
  | f + 1, j, h => by
    simp only [fl, h j (Nat.le_refl _), fl_congr f (j + 1) (fun i hi => h i (by omega))]
theorem fl_step {r r' : BitVec 32} {k : Nat} (h1 : ∀ i, i < k → r.getLsbD i = false) (h2 : r.getLsbD k = true) (h3 : ∀ i, r'.getLsbD i = (r.getLsbD i && decide (i ≠ k))) :
    ∀ (f j : Nat), j ≤ k → k < j + f → fl r f j = Fin.ofNat 32 k :: fl r' f j
  | 0, j, hj, hf => by omega
  | f + 1, j, hj, hf => by
    by_cases hjk : j = k
    · subst hjk
      have e : r'.getLsbD j = false := by rw [h3]; simp
      simp only [fl, h2, e, if_true]
      rw [fl_congr f (j + 1) (fun i hi => by rw [h3]; simp; omega)]
      simp
    · have e1 : r.getLsbD j = false := h1 j (by omega)
      have e2 : r'.getLsbD j = false := by rw [h3, e1]; rfl
      simp only [fl, e1, e2]
      exact fl_step h1 h2 h3 f (j + 1) (by omega) (by omega)
theorem fl_zero : ∀ (f j : Nat), fl 0#32 f j = []
  | 0, _ => rfl
  | f + 1, j => by simp [fl, fl_zero f (j + 1)]
theorem elems_zero : elems 0#32 = [] := fl_zero 32 0

theorem low_bits (x k m : Nat) (h : x = 2 ^ k * (2 * m + 1)) : (∀ i, i < k → x.testBit i = false) ∧ x.testBit k = true ∧ (∀ i, (x &&& (x - 1)).testBit i = (x.testBit i && decide (i ≠ k))) := by
  have hb : ∀ i, x.testBit i = (decide (k ≤ i) && (2 * m + 1).testBit (i - k)) := fun i => by rw [h, Nat.testBit_two_pow_mul]
  have hp : 0 < 2 ^ k := Nat.two_pow_pos k
  have h1 : x - 1 = 2 ^ k * (2 * m) + (2 ^ k - 1) := by
    rw [h, Nat.mul_add, Nat.mul_one]; omega
  have hb1 : ∀ i, (x - 1).testBit i = if i < k then true else (2 * m).testBit (i - k) := fun i => by
    rw [h1, Nat.testBit_two_pow_mul_add _ (by omega)]
    split
    · rename_i hi; rw [Nat.testBit_two_pow_sub_one]; simpa using hi
    · rfl
  refine ⟨fun i hi => by rw [hb]; simp; omega, by rw [hb]; simp, fun i => ?_⟩
  rw [Nat.testBit_and, hb, hb1]
  by_cases hik : i < k
  · simp [hik]; omega
  · by_cases hek : i = k
    · subst hek; simp
    · have hgt : k < i := by omega
      obtain ⟨d, rfl⟩ : ∃ d, i = k + (d + 1) := ⟨i - k - 1, by omega⟩
      have e1 : k + (d + 1) - k = d + 1 := by omega
      rw [e1, if_neg hik]
      have a1 : (2 * m + 1).testBit (d + 1) = m.testBit d := by rw [Nat.testBit_succ]; congr 1; omega
      have a2 : (2 * m).testBit (d + 1) = m.testBit d := by rw [Nat.testBit_succ]; congr 1; omega
      rw [a1, a2]
      simp

theorem elems_step (r : BitVec 32) (h : r.toNat ≠ 0) : Lib.ctz 32 r.toNat < 32 ∧ elems r = Fin.ofNat 32 (Lib.ctz 32 r.toNat) :: elems (r &&& (r - 1#32)) ∧ (r &&& (r - 1#32)).toNat < r.toNat ∧ (r &&& (r - 1#32)).toNat = r.toNat &&& (r.toNat - 1) := by
  have hlt : r.toNat < 2 ^ 32 := r.isLt
  obtain ⟨m, hm, hk⟩ := Lib.ctzFrom_spec 32 r.toNat (by omega) hlt
  have e : Lib.ctz 32 r.toNat = Lib.ctzFrom 32 r.toNat := by simp [Lib.ctz, h]
  rw [e]
  obtain ⟨b1, b2, b3⟩ := low_bits _ _ _ hm
  have hsub : (r - 1#32).toNat = r.toNat - 1 := by
    rw [BitVec.toNat_sub_of_le]
    · rfl
    · rw [BitVec.le_def]; simp; omega
  have hand : (r &&& (r - 1#32)).toNat = r.toNat &&& (r.toNat - 1) := by rw [BitVec.toNat_and, hsub]
  refine ⟨hk, ?_, ?_, hand⟩
  · refine fl_step (fun i hi => ?_) ?_ (fun i => ?_) 32 0 (by omega) (by omega)
    · rw [BitVec.getLsbD]; exact b1 i hi
    · rw [BitVec.getLsbD]; exact b2
    · simp only [BitVec.getLsbD]
      rw [hand]; exact b3 i
  · rw [hand]
    have := Nat.and_le_right (n := r.toNat) (m := r.toNat - 1)
    omega

theorem and_pred (r : BitVec 32) (h : r.toNat ≠ 0) (e : (r &&& (r - 1#32)).toNat = r.toNat &&& (r.toNat - 1)) : bits BinOp.and IntKind.u32 (r.toNat : Int) ((r.toNat : Int) - 1) = ((r &&& (r - 1#32)).toNat : Int) := by
  have hr := r.isLt
  rw [show ((r.toNat : Int) - 1) = ((r.toNat - 1 : Nat) : Int) by omega, u32_and_nat _ _ (by omega) (by omega), e]
theorem tz_key (x a : Nat) (hx : x < 4294967296) (hx0 : x ≠ 0) (hlow : x &&& (4294967296 - x) = a) :
    bits BinOp.and IntKind.u32 (x : Int) (-(x : Int) % 4294967296) * 125613361 % 4294967296 / 134217728 = ((a * 125613361 % 4294967296 / 134217728 : Nat) : Int) := by
  have e1 : -(x : Int) % 4294967296 = ((4294967296 - x : Nat) : Int) := by omega
  rw [e1, u32_and_nat x _ hx (by omega), hlow]
  omega
end Go.Proofs.YtdbbmhefndjedaaDoor
