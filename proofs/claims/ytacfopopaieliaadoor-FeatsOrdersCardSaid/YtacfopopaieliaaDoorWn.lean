/-
  Numbers: how two sounds compare, as an order.
-/
import Derived.Test.YtacfopopaieliaaDoorFk
namespace Go.Proofs.YtacfopopaieliaaDoor
theorem cmp_flip (x y : Nat) : cmpN y x = -cmpN x y := by unfold cmpN; split <;> split <;> omega
theorem cmp_zero {x y : Nat} (h : cmpN x y = 0) : x = y := by unfold cmpN at h; split at h <;> (try split at h) <;> omega
theorem cmp_trans {x y z : Nat} (h : cmpN x y = cmpN y z) : cmpN x z = cmpN x y := by
  unfold cmpN at *
  rcases Nat.lt_trichotomy x y with k | k | k <;> rcases Nat.lt_trichotomy y z with l | l | l <;> repeat' split at h <;> (repeat' split) <;> omega
theorem ord_pair (a b c d : Nat) : (ordN a b c d = -1 ∧ ordN c d a b = 1 ∧ ((a : Int) == c && (b : Int) == d) = false) ∨ (ordN a b c d = 0 ∧ ordN c d a b = 0 ∧ ((a : Int) == c && (b : Int) == d) = true) ∨ (ordN a b c d = 1 ∧ ordN c d a b = -1 ∧ ((a : Int) == c && (b : Int) == d) = false) := by
  unfold ordN cmpN
  rcases Nat.lt_trichotomy a c with h | h | h <;> rcases Nat.lt_trichotomy b d with k | k | k
  all_goals (try subst h)
  all_goals (try subst k)
  all_goals simp [*, Nat.not_lt_of_lt]
  all_goals omega
theorem ord_range (a b c d : Nat) : ordN a b c d = -1 ∨ ordN a b c d = 0 ∨ ordN a b c d = 1 := by
  rcases ord_pair a b c d with h | h | h
  · exact .inl h.1
  · exact .inr (.inl h.1)
  · exact .inr (.inr h.1)
theorem ord_zero {a b c d : Nat} (h : ordN a b c d = 0) : a = c ∧ b = d := by
  rcases ord_pair a b c d with k | k | k
  · rw [k.1] at h; cases h
  · have := k.2.2; simp at this; omega
  · rw [k.1] at h; cases h
theorem ord_trans {a b c d e f : Nat} (h : ordN a b c d = ordN c d e f) : ordN a b e f = ordN a b c d := by
  unfold ordN at *
  by_cases hA : cmpN a c = 0
  · have := cmp_zero hA
    subst this
    by_cases hC : cmpN a e = 0
    · rw [if_pos hA, if_pos hC] at h
      rw [if_pos hC, if_pos hA]
      exact cmp_trans h
    · rw [if_pos hA, if_neg hC] at h
      rw [if_neg hC, if_pos hA]
      exact h.symm
  · by_cases hC : cmpN c e = 0
    · have := cmp_zero hC
      subst this
      rw [if_neg hA, if_neg hA]
    · rw [if_neg hA, if_neg hC] at h
      have t := cmp_trans h
      rw [if_neg hA, t, if_neg hA]
end Go.Proofs.YtacfopopaieliaaDoor
