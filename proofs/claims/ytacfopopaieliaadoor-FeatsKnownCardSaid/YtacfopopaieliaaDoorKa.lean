/-
  What the calls of FeatsKnown return, one call each.
-/
import Derived.Test.YtacfopopaieliaaDoorWb
namespace Go.Proofs.YtacfopopaieliaaDoor
open Go.RowKit Go.Sort
theorem n_with (p m : BitVec 32) (h : vld p m = false) (w : World) : Gives 15 #[sn p.toNat m.toNat, .int .i64 (-1), .int .i64 5] w (.tuple #[sn 0 0, .int .i64 14]) := with_badS p m (-1) 5 h w
theorem n_dist (p m : BitVec 32) (h : vld p m = false) (c1 c2 : Value) (w : World) : Gives 32 #[sn 2 5, sn p.toNat m.toNat, .agg #[c1, c2]] w (.tuple #[.int .i64 0, .int .i64 14]) :=
  Gives.eq (dist_badS 2#32 5#32 p m c1 c2 (by simp [h]) w) (by simp [sv, sn]) rfl
theorem n_change (p m : BitVec 32) (h : vld p m = false) (w : World) : Gives 36 #[sn 2 5, .int .u32 16777216, sn p.toNat m.toNat] w (.tuple #[sn 0 0, .int .i64 14]) :=
  Gives.eq (change_badS 2#32 5#32 16777216#32 p m (by simp [h]) w) (by simp [sv, sn]) rfl
theorem n_take (p m : BitVec 32) (h : vld p m = false) (w : World) : Gives 38 #[sn p.toNat m.toNat, sn 2 5, .int .u32 16777216] w (.tuple #[sn 0 0, .int .i64 14]) :=
  Gives.eq (take_badS p m 16777216#32 2#32 5#32 (by simp [h]) w) (by simp [sv, sn]) rfl
theorem n_unify (p m : BitVec 32) (h : vld p m = false) (w : World) : Gives 22 #[sn p.toNat m.toNat, sn p.toNat m.toNat] w (.tuple #[sn 0 0, .bool false]) :=
  unify_bad p m p m (by rw [BitVec.or_self, BitVec.or_self]; exact h) w
theorem n_valid (p m : BitVec 32) (h : vld p m = false) (w : World) : Gives 17 #[sn p.toNat m.toNat] w (.bool false) := valid_any p m false h w
theorem n_get (p m : BitVec 32) (h : vld p m = false) (w : World) : Gives 19 #[sn p.toNat m.toNat, .int .i64 0] w (.int .i64 0) := get_badS p m 0 h w
theorem n_sat (p m : BitVec 32) (h : vld p m = false) (w : World) : Gives 24 #[sn p.toNat m.toNat, sn 0 0] w (.bool false) :=
  Gives.eq (satisfies_bad p m 0#32 0#32 (by simp [h]) w) (by simp [sv, sn]) rfl
theorem n_diff (p m : BitVec 32) (h : vld p m = false) (w : World) : Gives 30 #[sn p.toNat m.toNat, sn 2 5] w (.int .u32 0) :=
  Gives.eq (diff_bad p m 2#32 5#32 (by simp [h]) w) (by simp [sv, sn]) rfl
theorem n_meet (p m : BitVec 32) (h : vld p m = false) (w : World) : Gives 28 #[sn p.toNat m.toNat, sn p.toNat m.toNat] w (sn 0 0) := meet_bad p m p m (by simp [h]) w
theorem o_with1 (w : World) : Gives 15 #[sn 2 5, .int .i64 0, .int .i64 2] w (.tuple #[sn 0 0, .int .i64 2]) :=
  Gives.eq (with_ok 2#32 5#32 0 2 (by decide) (by decide) w) (by simp [sv, sn]) (by simp [withV, sv, sn])
theorem o_with2 (w : World) : Gives 15 #[sn 2 5, .int .i64 (-1), .int .i64 2] w (.tuple #[sn 0 0, .int .i64 3]) :=
  Gives.eq (with_badF 2#32 5#32 (-1) 2 (by decide) (by decide) w) (by simp [sv, sn]) (by simp [sv, sn])
theorem o_change1 (w : World) : Gives 36 #[sn 2 5, .int .u32 2, sn 1 0] w (.tuple #[sn 1 4, .int .i64 0]) :=
  Gives.eq (change_ok 2#32 5#32 2#32 1#32 0#32 (by decide) (by decide) w) (by simp [sv, sn]) (by simp [sv, sn])
theorem o_change2 (w : World) : Gives 36 #[sn 2 5, .int .u32 1, sn 1 0] w (.tuple #[sn 0 0, .int .i64 2]) :=
  Gives.eq (change_badA 2#32 5#32 1#32 1#32 0#32 (by decide) (by decide) w) (by simp [sv, sn]) (by simp [sv, sn])
theorem o_take (w : World) : Gives 38 #[sn 2 5, sn 2 5, .int .u32 16777216] w (.tuple #[sn 0 0, .int .i64 2]) :=
  Gives.eq (take_badA 2#32 5#32 16777216#32 2#32 5#32 (by decide) (by decide) w) (by simp [sv, sn]) (by simp [sv, sn])
theorem o_unify (w : World) : Gives 22 #[sn 1 0, sn 2 0] w (.tuple #[sn 3 0, .bool true]) :=
  Gives.eq (unify_ok 1#32 0#32 2#32 0#32 (by decide) w) (by simp [sv, sn]) (by simp [sv, sn])
theorem o_diff (w : World) : Gives 30 #[sn 2 5, sn 3 4] w (.int .u32 1) :=
  Gives.eq (diff_ok 2#32 5#32 3#32 4#32 (by decide) w) (by simp [sv, sn]) (by simp)
theorem o_costs0 (w : World) : Gives 34 #[.agg #[.slice none 0 0, .int .i64 0]] w (.int .i64 0) :=
  Gives.eq (checkCosts_any (.slice none 0 0) 0 [] (by decide) w (.inl ⟨rfl, rfl⟩)) rfl (by simp [costErr, okCosts, okCost])
theorem o_costs1 (w : World) : Gives 34 #[.agg #[.slice none 0 0, .int .i64 1073741825]] w (.int .i64 2) :=
  Gives.eq (checkCosts_any (.slice none 0 0) 1073741825 [] (by decide) w (.inl ⟨rfl, rfl⟩)) rfl (by simp [costErr, okCosts, okCost])
theorem o_costs2 (b : Nat) (w : World) (hb : b < w.heap.size) (h0 : w.cell? ⟨b, 0, none⟩ = some (.int .i64 (-1))) : Gives 34 #[.agg #[.slice (some ⟨b, 0, none⟩) 1 1, .int .i64 0]] w (.int .i64 2) :=
  Gives.eq (checkCosts_any (.slice (some ⟨b, 0, none⟩) 1 1) 0 [-1] (by decide) w (.inr ⟨b, 0, 1, rfl, hb, fun i hi => match i, hi with | 0, _ => h0 | i + 1, hi => by simp at hi⟩)) rfl (by simp [costErr, okCosts, okCost])
theorem o_dist1 (b : Nat) (w : World) (hb : b < w.heap.size) (h0 : ∀ i, i < 25 → w.cell? ⟨b, i, none⟩ = some (.int .i64 0)) : Gives 32 #[sn 2 5, sn 2 5, .agg #[.slice (some ⟨b, 0, none⟩) 25 25, .int .i64 0]] w (.tuple #[.int .i64 0, .int .i64 2]) :=
  Gives.eq (dist_badC 2#32 5#32 2#32 5#32 (.slice (some ⟨b, 0, none⟩) 25 25) 0 (List.replicate 25 0) (by decide) (by decide) (by decide) w (.inr ⟨b, 0, 25, rfl, hb, fun i hi => by
    have hi' : i < 25 := by simpa using hi
    rw [Nat.zero_add, h0 i hi', List.getD_eq_getElem?_getD, List.getElem?_replicate, if_pos hi']; rfl⟩)) (by simp [sv, sn]) rfl
theorem o_dist2 (b : Nat) (w : World) (hb : b < w.heap.size) (h0 : ∀ i, i < 3 → w.cell? ⟨b, i, none⟩ = some (.int .i64 1073741824)) (hT : Tab w) (ht : 0 < w.heap.size) :
    Gives 32 #[sn 2 5, sn 5 2, .agg #[.slice (some ⟨b, 0, none⟩) 3 3, .int .i64 1073741824]] w (.tuple #[.int .i64 3221225472, .int .i64 0]) :=
  Gives.eq (dist_ok 2#32 5#32 5#32 2#32 (.slice (some ⟨b, 0, none⟩) 3 3) 1073741824 (List.replicate 3 1073741824) (by decide) (by decide) (by decide) w (.inr ⟨b, 0, 3, rfl, hb, fun i hi => by
    have hi' : i < 3 := by simpa using hi
    rw [Nat.zero_add, h0 i hi', List.getD_eq_getElem?_getD, List.getElem?_replicate, if_pos hi']; rfl⟩) hT ht) (by simp [sv, sn]) (by simp; decide)
end Go.Proofs.YtacfopopaieliaaDoor
