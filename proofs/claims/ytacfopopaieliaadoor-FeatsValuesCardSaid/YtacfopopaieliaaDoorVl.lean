/-
  FeatsValues, for every argument.
-/
import Derived.Test.YtacfopopaieliaaDoorVa
import Derived.Test.YtacfopopaieliaaDoorVb
namespace Go.Proofs.YtacfopopaieliaaDoor
open Go.RowKit Go.Sort
theorem with_all (p m : BitVec 32) (g v : Int) (w : World) : Gives 15 #[sn p.toNat m.toNat, .int .i64 g, .int .i64 v] w
    (if vld p m then (if 0 ≤ g ∧ g < 24 then withV p m g.toNat v else .tuple #[sn 0 0, .int .i64 3]) else .tuple #[sn 0 0, .int .i64 14]) := by
  rcases hv : vld p m with _ | _
  · exact with_badS p m g v hv w
  · rw [if_pos rfl]
    by_cases hg : 0 ≤ g ∧ g < 24
    · rw [if_pos hg]
      obtain ⟨k, rfl⟩ := Int.eq_ofNat_of_zero_le hg.1
      exact with_ok p m k v hv (by omega) w
    · rw [if_neg hg]
      exact with_badF p m g v hv (by omega) w
theorem get_all (p m : BitVec 32) (g : Int) (w : World) : Gives 19 #[sn p.toNat m.toNat, .int .i64 g] w (.int .i64 (if vld p m then gI p m g else 0)) := by
  rcases hv : vld p m with _ | _
  · exact get_badS p m g hv w
  · exact gv_get p m hv g w
theorem with_form (p m : BitVec 32) (g v : Int) : ∃ A B E : Int, (if vld p m then (if 0 ≤ g ∧ g < 24 then withV p m g.toNat v else .tuple #[sn 0 0, .int .i64 3]) else .tuple #[sn 0 0, .int .i64 14]) = Value.tuple #[sn A B, .int .i64 E] := by
  unfold withV
  split
  · split
    · split
      · exact ⟨_, _, _, rfl⟩
      · exact ⟨0, 0, 2, rfl⟩
    · exact ⟨_, _, _, rfl⟩
  · exact ⟨_, _, _, rfl⟩
theorem values_any (p m : BitVec 32) (g v : Int) (w : World) (hT : Tab w) (ht : 0 < w.heap.size) :
    Gives 3 #[sn p.toNat m.toNat, .int .i64 g, .int .i64 v] w (.bool true) := by
  obtain ⟨A, B, E, e⟩ := with_form p m g v
  exact values_core _ _ g v A B E _ (vld p m) w hT ht (fun w => by have := with_all p m g v w; rwa [e] at this) (fun w => by have := rwith_any p m g v w; rwa [e] at this)
    (fun w => valid_any p m _ rfl w) (rvalid_any p m) (get_all p m g) (rgv_get p m g)
open Go.ChangeShapes Go.WideShapes Go.ChangeAt Go.Joins in
theorem open_i64 {H : Type} {enc : TypeId × Value → H} {w : World} {base : Nat} {spare : Nat → Bool} {held : Bool} {r : Reach} {b0 : Nat} {v : Value} {d : DataW H} {p : List MemPlace}
    (hv : Value.okWide Tryd.prog w r b0 3 v) (h : DataW.Trod enc Tryd.prog w base spare held 3 v d p) : ∃ x : Int, v = .int .i64 x := by
  obtain ⟨n, rfl, _, _, hw⟩ := open_int Tryd.underlying3 hv h
  exact ⟨n, rfl⟩
end Go.Proofs.YtacfopopaieliaaDoor
