/-
  What Order returns.
-/
import Derived.Test.YtdbbmhefndjedaaDoorFd
namespace Go.Proofs.YtdbbmhefndjedaaDoor
open Go.RowKit Go.Sort
attribute [local go_sem] sv

/-- How two numbers compare. -/
def cmpN (x y : Nat) : Int := if x < y then -1 else if y < x then 1 else 0
set_option maxHeartbeats 400000 in
theorem isNaN_any (x : Int) (w : World) :
    Calls Tryd.prog 58 #[.int .u32 x] w fun e w' => e = .returned (.bool false) ∧ w = w' := by
  go_enter Tryd.func58, Tryd.ntmps58
  go_wp2
  go_returns
  exact ⟨by first | rfl | (simp; done), rfl⟩
set_option maxHeartbeats 400000 in
theorem compare_any (x y : BitVec 32) (w : World) :
    Calls Tryd.prog 54 #[.int .u32 (x.toNat : Int), .int .u32 (y.toNat : Int)] w fun e w' => e = .returned (.int .i64 (cmpN x.toNat y.toNat)) ∧ Below w.heap.size w w' := by
  generalize x.toNat = X
  generalize y.toNat = Y
  by_cases h : X < Y
  · have e : cmpN X Y = -1 := by simp [cmpN, h]
    rw [e]; clear e
    go_enter Tryd.func54, Tryd.ntmps54
    go_wp2_with (go_at_call 58; refine (isNaN_any _ _).mono ?_; rintro e w1 ⟨rfl, rfl⟩)
    go_returns
    exact ⟨rfl, Below.refl _ _⟩
  · by_cases h2 : Y < X
    · have e : cmpN X Y = 1 := by simp [cmpN, h, h2]
      rw [e]; clear e
      go_enter Tryd.func54, Tryd.ntmps54
      go_wp2_with (go_at_call 58; refine (isNaN_any _ _).mono ?_; rintro e w1 ⟨rfl, rfl⟩)
      go_returns
      exact ⟨rfl, Below.refl _ _⟩
    · have e : cmpN X Y = 0 := by simp [cmpN, h, h2]
      rw [e]; clear e
      go_enter Tryd.func54, Tryd.ntmps54
      go_wp2_with (go_at_call 58; refine (isNaN_any _ _).mono ?_; rintro e w1 ⟨rfl, rfl⟩)
      go_returns
      exact ⟨rfl, Below.refl _ _⟩
set_option maxHeartbeats 1000000 in
theorem or_any (x y : Int) (b : Nat) (w : World) (h0 : w.cell? ⟨b, 0, none⟩ = some (.int .i64 x)) (h1 : w.cell? ⟨b, 1, none⟩ = some (.int .i64 y)) :
    Calls Tryd.prog 53 #[.slice (some ⟨b, 0, none⟩) 2 2] w fun e w' => e = .returned (.int .i64 (if x = 0 then y else x)) ∧ Below w.heap.size w w' := by
  by_cases hx : x = 0
  · subst hx
    rw [if_pos rfl]
    by_cases hy : y = 0
    · subst hy
      go_enter Tryd.func53, Tryd.ntmps53
      go_wp2
      go_rounds 3
      go_returns
      exact ⟨rfl, by go_grown⟩
    · go_enter Tryd.func53, Tryd.ntmps53
      go_wp2
      go_rounds 3
      go_returns
      exact ⟨rfl, by go_grown⟩
  · rw [if_neg hx]
    go_enter Tryd.func53, Tryd.ntmps53
    go_wp2
    go_rounds 3
    go_returns
    exact ⟨rfl, by go_grown⟩
end Go.Proofs.YtdbbmhefndjedaaDoor
