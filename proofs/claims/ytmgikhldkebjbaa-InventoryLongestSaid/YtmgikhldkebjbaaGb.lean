/-
  The specification's names of features and symbols: the same texts as the program's.
-/
import Derived.Test.YtmgikhldkebjbaaIc
namespace Go.Proofs.Ytmgikhldkebjbaa
open Go.RowKit Go.Sort
def lowB (c : UInt8) : Bool := decide (97 ≤ c.toNat) && decide (c.toNat ≤ 122)
def letB (c : UInt8) : Bool := (decide (97 ≤ c.toNat) && decide (c.toNat ≤ 122)) || (decide (48 ≤ c.toNat) && decide (c.toNat ≤ 57))
def bigB (c : UInt8) : Bool := (decide (65 ≤ c.toNat) && decide (c.toNat ≤ 90)) || c.toNat == 64 || c.toNat == 63 || c.toNat == 33 || c.toNat == 38 || c.toNat == 42 || c.toNat == 36 || c.toNat == 37
theorem byte_all (p q : UInt8 → Bool) (h : ∀ n : Fin 256, p (UInt8.ofNat n.val) = q (UInt8.ofNat n.val)) (c : UInt8) : p c = q c := by
  have := h ⟨c.toNat, c.toNat_lt⟩
  simpa using this
theorem low_in (c : UInt8) : isIn sSmall c = lowB c := byte_all _ _ (of_decide_eq_true (by kernel_rfl)) c
theorem let_in (c : UInt8) : isIn sSmallDigits c = letB c := byte_all _ _ (of_decide_eq_true (by kernel_rfl)) c
theorem all_in (c : UInt8) : isIn sAll c = (letB c || bigB c) := byte_all (isIn sAll) (fun c => letB c || bigB c) (of_decide_eq_true (by kernel_rfl)) c
theorem dec_u8 (c : UInt8) (n : Nat) : (decide ((n : Int) ≤ (c.toNat : Int)) = decide (n ≤ c.toNat)) ∧ (decide ((c.toNat : Int) ≤ (n : Int)) = decide (c.toNat ≤ n)) := by
  constructor <;> (rw [Bool.eq_iff_iff, decide_eq_true_iff, decide_eq_true_iff]; omega)
set_option maxHeartbeats 1000000 in
theorem letter_any (c : UInt8) (w : World) : Calls Try.prog 72 #[.int .u8 c.toNat] w fun e w' => e = .returned (.bool (letB c)) ∧ w = w' := by
  unfold letB
  generalize c.toNat = n
  by_cases h1 : 97 ≤ n <;> by_cases h2 : n ≤ 122 <;> by_cases h3 : 48 ≤ n <;> by_cases h4 : n ≤ 57
  all_goals try omega
  all_goals (
    have d1 : decide ((97 : Int) ≤ (n : Int)) = decide (97 ≤ n) := by rw [Bool.eq_iff_iff, decide_eq_true_iff, decide_eq_true_iff]; omega
    have d2 : decide ((n : Int) ≤ 122) = decide (n ≤ 122) := by rw [Bool.eq_iff_iff, decide_eq_true_iff, decide_eq_true_iff]; omega
    have d3 : decide ((48 : Int) ≤ (n : Int)) = decide (48 ≤ n) := by rw [Bool.eq_iff_iff, decide_eq_true_iff, decide_eq_true_iff]; omega
    have d4 : decide ((n : Int) ≤ 57) = decide (n ≤ 57) := by rw [Bool.eq_iff_iff, decide_eq_true_iff, decide_eq_true_iff]; omega
    go_enter Try.func72, Try.ntmps72
    go_wp2
    go_returns
    exact ⟨by first | rfl | (simp [h1, h2, h3, h4]; done) | (simp; omega), rfl⟩)
end Go.Proofs.Ytmgikhldkebjbaa
