/-
  Sums of weights over the features that differ, feature by feature.
-/
import Derived.Test.YtdbbmhefndjedaaDoorFi
import Derived.Test.YtdbbmhefndjedaaDoorPa
namespace Go.Proofs.YtdbbmhefndjedaaDoor
open Go.RowKit Go.Sort
/-- The sum of the weights of the first k features of a set. -/
def rsum (r : BitVec 32) (zs : List Int) : Nat → Int
  | 0 => 0
  | k + 1 => rsum r zs k + if r.getLsbD k then zs.getD k 0 else 0
theorem rsum_fl (r : BitVec 32) (zs : List Int) : ∀ f j, j + f ≤ 32 → sumW zs (fl r f j) + rsum r zs j = rsum r zs (j + f)
  | 0, j, _ => by simp [fl, sumW]
  | f + 1, j, h => by
    have ih := rsum_fl r zs f (j + 1) (by omega)
    rw [show j + (f + 1) = j + 1 + f from by omega, ← ih]
    simp only [fl, rsum]
    by_cases hb : r.getLsbD j = true
    · rw [if_pos hb, if_pos hb]
      have e : sumW zs (Fin.ofNat 32 j :: fl r f (j + 1)) = zs.getD j 0 + sumW zs (fl r f (j + 1)) := by
        have : (Fin.ofNat 32 j).val = j := Nat.mod_eq_of_lt (by omega)
        simp [sumW]
        rw [Nat.mod_eq_of_lt (by omega)]
      omega
    · rw [if_neg hb, if_neg hb]; omega
theorem getD_past (zs : List Int) (k : Nat) (h : zs.length ≤ k) : zs.getD k 0 = 0 := by rw [List.getD_eq_getElem?_getD, List.getElem?_eq_none h]; rfl
theorem rsum_past (r : BitVec 32) (zs : List Int) : ∀ k, zs.length ≤ k → rsum r zs k = rsum r zs zs.length
  | 0, h => by have e : zs.length = 0 := by omega
               rw [e]
  | k + 1, h => by
    rcases Nat.lt_or_ge k zs.length with h1 | h1
    · have e : k + 1 = zs.length := by omega
      rw [e]
    · simp only [rsum]
      rw [getD_past zs k h1, rsum_past r zs k h1]
      split <;> simp
theorem sumW_rsum (r : BitVec 32) (zs : List Int) (h : zs.length ≤ 32) : sumW zs (elems r) = rsum r zs zs.length := by
  have := rsum_fl r zs 32 0 (by omega)
  rw [rsum_past r zs (0 + 32) (by omega)] at this
  have e : rsum r zs 0 = 0 := rfl
  unfold elems
  omega
theorem rsum_bd {zs : List Int} (r : BitVec 32) (M : Int) (hz : ∀ i, 0 ≤ zs.getD i 0 ∧ zs.getD i 0 ≤ M) : ∀ k : Nat, 0 ≤ rsum r zs k ∧ rsum r zs k ≤ k * M
  | 0 => by simp [rsum]
  | k + 1 => by
    have ih := rsum_bd r M hz k
    have := hz k
    have e : ((k + 1 : Nat) : Int) * M = k * M + M := by rw [Int.natCast_add, Int.add_mul]; simp
    rw [e]
    simp only [rsum]
    split <;> omega
theorem rsum_tri {zs : List Int} (r s t : BitVec 32) (hz : ∀ i, 0 ≤ zs.getD i 0) (h : ∀ k, r.getLsbD k = true → s.getLsbD k = true ∨ t.getLsbD k = true) : ∀ k, rsum r zs k ≤ rsum s zs k + rsum t zs k
  | 0 => by simp [rsum]
  | k + 1 => by
    have ih := rsum_tri r s t hz h k
    have hk := h k
    have := hz k
    simp only [rsum]
    rcases hr : r.getLsbD k with _ | _
    · simp only [Bool.false_eq_true, if_false]
      split <;> split <;> omega
    · rcases hk hr with e | e
      · rw [e]; simp only [if_true]; split <;> omega
      · rw [e]; simp only [if_true]; split <;> omega
/-- A set whose features are all counted once. -/
theorem sumW_ones (l : List (Fin 32)) (zs : List Int) (h : ∀ x ∈ l, zs.getD x.val 0 = 1) : sumW zs l = (l.length : Int) := by
  induction l with
  | nil => simp [sumW]
  | cons x l ih =>
    have h1 := h x (by simp)
    have h2 := ih (fun y hy => h y (by simp [hy]))
    have e : sumW zs (x :: l) = zs.getD x.val 0 + sumW zs l := by simp [sumW]
    rw [e, h1, h2, List.length_cons]; omega
theorem fl_mem {r : BitVec 32} {x : Fin 32} : ∀ f j, j + f ≤ 32 → x ∈ fl r f j → r.getLsbD x.val = true
  | 0, j, _, h => by simp [fl] at h
  | f + 1, j, hj, h => by
    simp only [fl] at h
    split at h
    · rename_i hb
      rw [List.mem_cons] at h
      rcases h with rfl | h
      · have : (Fin.ofNat 32 j).val = j := Nat.mod_eq_of_lt (by omega)
        rw [this]; exact hb
      · exact fl_mem f (j + 1) (by omega) h
    · exact fl_mem f (j + 1) (by omega) h
end Go.Proofs.YtdbbmhefndjedaaDoor
