/-
  What the examples of the chapter return, one call each.
-/
import Derived.Test.YtdbbmhefndjedaaDoorFk
import Derived.Test.YtdbbmhefndjedaaDoorFf
import Derived.Test.YtdbbmhefndjedaaDoorFi
namespace Go.Proofs.YtdbbmhefndjedaaDoor
open Go.RowKit Go.Sort

/-- The call returns v and changes nothing that was there. -/
abbrev Gives (f : Nat) (args : Array Value) (w : World) (v : Value) : Prop := Calls Tryd.prog f args w fun e w' => e = .returned v ∧ Below w.heap.size w w'
theorem Gives.eq {f : Nat} {args args' : Array Value} {w : World} {v v' : Value} (h : Gives f args w v) (ha : args = args') (hv : v = v') : Gives f args' w v' := by subst ha; subst hv; exact h
theorem Gives.then {f : Nat} {args : Array Value} {w : World} {v : Value} {Q : Ending → World → Prop} (h : Gives f args w v) (k : ∀ w1, Below w.heap.size w w1 → Q (.returned v) w1) : Calls Tryd.prog f args w Q := Calls.mono h (by rintro e w1 ⟨rfl, hb⟩; exact k w1 hb)
theorem cell_fresh {W0 w1 : World} {cs : Array Value} {t : Nat} (hc : ∀ b o, b < W0.heap.size + 1 → w1.cell? ⟨b, o, none⟩ = (W0.alloc (.cells cs t)).cell? ⟨b, o, none⟩) (hz : W0.heap.size + 1 ≤ w1.heap.size) : ∃ bx, W0.heap.size = bx ∧ bx < w1.heap.size ∧ ∀ o, w1.cell? ⟨bx, o, none⟩ = (W0.alloc (.cells cs t)).cell? ⟨W0.heap.size, o, none⟩ := ⟨_, rfl, by omega, fun o => hc _ o (by omega)⟩
theorem cell_past {w : World} {X : Obj} {b o : Nat} {v : Value} (hl : b < w.heap.size) (h : w.cell? ⟨b, o, none⟩ = some v) : (w.alloc X).cell? ⟨b, o, none⟩ = some v := (World.cell?_alloc_past X b o hl).trans h
/-- A sound by its two numbers. -/
abbrev sn (p m : Int) : Value := .agg #[.int .u32 p, .int .u32 m]
theorem sv_sn (p m : BitVec 32) : sv p m = sn p.toNat m.toNat := rfl

theorem made_p (w : World) : Gives 41 #[] w (sn 2 5) := by
  unfold Gives
  go_enter Tryd.func41, Tryd.ntmps41
  go_wp2
  refine bodyPost_ret (v := sn 2 5) (by simp [results, Tryd.results41, go_sem, sn]) rfl ⟨rfl, by go_grown⟩
theorem made_b (w : World) : Gives 43 #[] w (sn 3 4) := by
  unfold Gives
  go_enter Tryd.func43, Tryd.ntmps43
  go_wp2
  refine bodyPost_ret (v := sn 3 4) (by simp [results, Tryd.results43, go_sem, sn]) rfl ⟨rfl, by go_grown⟩
theorem made_a (w : World) : Gives 42 #[] w (sn 5 2) := by
  unfold Gives
  go_enter Tryd.func42, Tryd.ntmps42
  go_wp2
  refine bodyPost_ret (v := sn 5 2) (by simp [results, Tryd.results42, go_sem, sn]) rfl ⟨rfl, by go_grown⟩

theorem k_with (w : World) : Gives 15 #[sn 2 5, .int .i64 0, .int .i64 1] w (.tuple #[sn 3 4, .int .i64 0]) :=
  Gives.eq (with_ok 2#32 5#32 0 1 (by decide) (by decide) w) (by simp [sv, sn]) (by simp [withV, sv, sn]; decide)
theorem k_with24 (w : World) : Gives 15 #[sn 2 5, .int .i64 24, .int .i64 1] w (.tuple #[sn 0 0, .int .i64 3]) :=
  Gives.eq (with_badF 2#32 5#32 24 1 (by decide) (by decide) w) (by simp [sv, sn]) (by simp [sv, sn])
theorem k_unify (w : World) : Gives 22 #[sn 2 5, sn 3 4] w (.tuple #[sn 0 0, .bool false]) :=
  Gives.eq (unify_bad 2#32 5#32 3#32 4#32 (by decide) w) (by simp [sv, sn]) (by simp [sv, sn])
theorem k_take (w : World) : Gives 38 #[sn 2 5, sn 5 2, .int .u32 6] w (.tuple #[sn 4 3, .int .i64 0]) :=
  Gives.eq (take_ok 2#32 5#32 6#32 5#32 2#32 (by decide) (by decide) w) (by simp [sv, sn]) (by simp [sv, sn]; decide)
theorem k_meet (w : World) : Gives 28 #[sn 2 5, sn 3 4] w (sn 2 4) :=
  Gives.eq (meet_ok 2#32 5#32 3#32 4#32 (by decide) w) (by simp [sv, sn]) (by simp [sv, sn])
theorem k_diff (w : World) : Gives 30 #[sn 2 5, sn 5 2] w (.int .u32 7) :=
  Gives.eq (diff_ok 2#32 5#32 5#32 2#32 (by decide) w) (by simp [sv, sn]) (by simp)
theorem k_sat (w : World) : Gives 24 #[sn 3 4, sn 1 4] w (.bool true) :=
  Gives.eq (satisfies_ok 3#32 4#32 1#32 4#32 (by decide) w) (by simp [sv, sn]) (by simp)
theorem k_order (w : World) : Gives 26 #[sn 2 5, sn 3 4] w (.int .i64 (-1)) :=
  Gives.eq (order_any 2#32 5#32 3#32 4#32 w) (by simp [sv, sn]) (by simp [ordN, cmpN])
theorem k_get (w : World) : Gives 19 #[sn 2 5, .int .i64 0] w (.int .i64 (-1)) :=
  Gives.eq (get_ok 2#32 5#32 0 (by decide) (by decide) w) (by simp [sv, sn]) (by simp [getV])
theorem k_valid (w : World) : Gives 17 #[sn 2 5] w (.bool true) :=
  Gives.eq (valid_any 2#32 5#32 true (by decide) w) (by simp [sv, sn]) rfl
theorem k_dist (b : Nat) (w : World) (hb : b < w.heap.size) (h0 : w.cell? ⟨b, 0, none⟩ = some (.int .i64 5)) (h1 : w.cell? ⟨b, 1, none⟩ = some (.int .i64 2)) (hT : Tab w) (ht : 0 < w.heap.size) : Gives 32 #[sn 2 5, sn 5 2, .agg #[.slice (some ⟨b, 0, none⟩) 2 2, .int .i64 0]] w (.tuple #[.int .i64 7, .int .i64 0]) :=
  Gives.eq (dist_ok 2#32 5#32 5#32 2#32 (.slice (some ⟨b, 0, none⟩) 2 2) 0 [5, 2] (by decide) (by decide) (by decide) w (.inr ⟨b, 0, 2, rfl, hb, fun i hi => match i, hi with | 0, _ => h0 | 1, _ => h1 | i + 2, hi => by simp at hi; omega⟩) hT ht) (by simp [sv, sn]) (by simp; decide)
end Go.Proofs.YtdbbmhefndjedaaDoor
