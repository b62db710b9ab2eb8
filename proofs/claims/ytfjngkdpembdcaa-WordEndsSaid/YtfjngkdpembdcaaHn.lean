/-
  The order of words is a total order.
-/
import Derived.Test.YtfjngkdpembdcaaHi
namespace Go.Proofs.Ytfjngkdpembdcaa
open Go.RowKit Go.Sort
theorem cmpN_anti (x y : Nat) : cmpN y x = -cmpN x y := by
  unfold cmpN; split <;> split <;> omega
/-- A sound as one number. -/
def key (x : Snd) : Nat := x.1.toNat * 4294967296 + x.2.toNat
theorem key_inj {x y : Snd} (h : key x = key y) : x = y := by
  have h1 := x.2.isLt; have h2 := y.2.isLt
  unfold key at h
  exact Prod.ext (BitVec.toNat_inj.1 (by omega)) (BitVec.toNat_inj.1 (by omega))
theorem ordS_key (x y : Snd) : ordS x y = cmpN (key x) (key y) := by
  have h1 := x.2.isLt; have h2 := y.2.isLt
  unfold ordS cmpN key
  repeat' split
  all_goals omega
theorem ordS_anti (x y : Snd) : ordS y x = -ordS x y := by rw [ordS_key, ordS_key, cmpN_anti]
theorem ordS_zero (x y : Snd) : ordS x y = 0 ↔ x = y := by
  rw [ordS_key]
  constructor
  · intro h
    apply key_inj
    unfold cmpN at h
    split at h
    · omega
    · split at h
      · omega
      · omega
  · rintro rfl
    unfold cmpN; simp
theorem ordS_range (x y : Snd) : ordS x y = -1 ∨ ordS x y = 0 ∨ ordS x y = 1 := by
  rw [ordS_key]; unfold cmpN; split
  · simp
  · split <;> simp
theorem ordW_range : ∀ xs ys : List Snd, ordW xs ys = -1 ∨ ordW xs ys = 0 ∨ ordW xs ys = 1
  | [], [] => by simp [ordW]
  | [], _ :: _ => by simp [ordW]
  | _ :: _, [] => by simp [ordW]
  | x :: xs, y :: ys => by
    simp only [ordW]; split
    · exact ordW_range xs ys
    · exact ordS_range x y
theorem ordW_anti : ∀ xs ys : List Snd, ordW ys xs = -ordW xs ys
  | [], [] => by simp [ordW]
  | [], _ :: _ => by simp [ordW]
  | _ :: _, [] => by simp [ordW]
  | x :: xs, y :: ys => by
    have h1 := ordS_anti x y
    have ih := ordW_anti xs ys
    simp only [ordW]
    by_cases h : ordS x y = 0
    · rw [if_pos h, if_pos (by omega)]; exact ih
    · rw [if_neg h, if_neg (by omega)]; exact h1
theorem ordW_zero : ∀ xs ys : List Snd, ordW xs ys = 0 ↔ xs = ys
  | [], [] => by simp [ordW]
  | [], _ :: _ => by simp [ordW]
  | _ :: _, [] => by simp [ordW]
  | x :: xs, y :: ys => by
    have h1 := ordS_zero x y
    have ih := ordW_zero xs ys
    simp only [ordW]
    by_cases h : ordS x y = 0
    · rw [if_pos h, ih, h1.1 h]; simp
    · rw [if_neg h]
      constructor
      · intro h2; exact absurd h2 h
      · intro h2; cases h2; exact absurd (h1.2 rfl) h
theorem ordW_self (xs : List Snd) : ordW xs xs = 0 := (ordW_zero xs xs).2 rfl
theorem ordS_trans {x y z : Snd} (h1 : ordS x y ≤ 0) (h2 : ordS y z ≤ 0) : ordS x z ≤ 0 ∧ (ordS x z = 0 → ordS x y = 0 ∧ ordS y z = 0) := by
  rw [ordS_key] at *
  rw [ordS_key] at *
  rw [ordS_key] at *
  generalize key x = a at *; generalize key y = b at *; generalize key z = c at *
  unfold cmpN at *
  repeat' split at h1
  all_goals (repeat' split at h2)
  all_goals (repeat' split)
  all_goals first | omega | (constructor <;> omega) | (refine ⟨by omega, fun h => ?_⟩; omega)
theorem ordW_trans : ∀ {a b c : List Snd}, ordW a b ≤ 0 → ordW b c ≤ 0 → ordW a c ≤ 0 ∧ (ordW a c = 0 → ordW a b = 0 ∧ ordW b c = 0)
  | [], [], [], _, _ => by simp [ordW]
  | [], [], _ :: _, _, _ => by simp [ordW]
  | [], _ :: _, [], _, h => by simp [ordW] at h
  | [], _ :: _, _ :: _, _, _ => by simp [ordW]
  | _ :: _, [], _, h, _ => by simp [ordW] at h
  | _ :: _, _ :: _, [], _, h => by simp [ordW] at h
  | x :: a, y :: b, z :: c, h1, h2 => by
    simp only [ordW] at *
    by_cases e1 : ordS x y = 0
    · have exy := (ordS_zero x y).1 e1
      subst exy
      rw [if_pos e1] at h1 ⊢
      by_cases e2 : ordS x z = 0
      · rw [if_pos e2] at h2 ⊢
        have := ordW_trans h1 h2
        rw [if_pos e2]; exact this
      · rw [if_neg e2] at h2 ⊢
        rw [if_neg e2]
        exact ⟨h2, fun h => absurd h e2⟩
    · rw [if_neg e1] at h1 ⊢
      by_cases e2 : ordS y z = 0
      · have eyz := (ordS_zero y z).1 e2
        subst eyz
        rw [if_neg e1]
        exact ⟨h1, fun h => absurd h e1⟩
      · rw [if_neg e2] at h2 ⊢
        obtain ⟨t1, t2⟩ := ordS_trans h1 h2
        have e3 : ordS x z ≠ 0 := fun h => e1 (t2 h).1
        rw [if_neg e3]
        exact ⟨t1, fun h => absurd h e3⟩
end Go.Proofs.Ytfjngkdpembdcaa
