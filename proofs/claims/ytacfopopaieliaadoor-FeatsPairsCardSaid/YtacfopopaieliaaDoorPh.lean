/-
  FeatsPairs, for every argument.
-/
import Derived.Test.YtacfopopaieliaaDoorPf
import Derived.Test.YtacfopopaieliaaDoorPg
namespace Go.Proofs.YtacfopopaieliaaDoor
open Go.RowKit Go.Sort
set_option maxHeartbeats 4000000 in
theorem rorder_any (p m q n : BitVec 32) (w : World) : Gives 27 #[sn p.toNat m.toNat, sn q.toNat n.toNat] w (.int .i64 (ordN p.toNat m.toNat q.toNat n.toNat)) := by
  unfold Gives
  have key : (ordN p.toNat m.toNat q.toNat n.toNat = -1 ∧ (p.toNat < q.toNat ∨ (p.toNat = q.toNat ∧ m.toNat < n.toNat))) ∨ (ordN p.toNat m.toNat q.toNat n.toNat = 0 ∧ p.toNat = q.toNat ∧ m.toNat = n.toNat) ∨ (ordN p.toNat m.toNat q.toNat n.toNat = 1 ∧ (q.toNat < p.toNat ∨ (p.toNat = q.toNat ∧ n.toNat < m.toNat))) := by
    unfold ordN cmpN
    rcases Nat.lt_trichotomy p.toNat q.toNat with h | h | h
    · left; simp [h]
    · rcases Nat.lt_trichotomy m.toNat n.toNat with h2 | h2 | h2
      · left; simp [h, h2]
      · right; left; simp [h, h2]
      · right; right; simp [h, h2, Nat.lt_asymm h2]
    · right; right; simp [h, Nat.lt_asymm h]
  generalize p.toNat = P at *
  generalize q.toNat = Q at *
  generalize m.toNat = M at *
  generalize n.toNat = N at *
  generalize ordN P M Q N = O at *
  rcases key with ⟨rfl, h | ⟨rfl, h⟩⟩ | ⟨rfl, rfl, rfl⟩ | ⟨rfl, h | ⟨rfl, h⟩⟩
  all_goals (
    go_enter Tryd.func27, Tryd.ntmps27
    go_wp2
    go_returns
    exact ⟨rfl, by go_grown⟩)
end Go.Proofs.YtacfopopaieliaaDoor
