/-
  The features of a set, yielded one after the other (a range over a function); weights; what Dist returns.
-/
import Derived.RangeFuncNested
import Derived.RangeFuncBound
import Derived.RangeFuncCalls
import Derived.RangeFuncLeaves
import Derived.Shelf.Abstract
import Derived.Shelf.RegionOpen
import Derived.WalkKit
import Derived.Lib.Hide
import Derived.OwnWalkIn
import Derived.TacticsInMore
import Derived.LoopNIn
import Derived.LoopIn
import Derived.Test.YtdbbmhefndjedaaDoorTz
import Derived.Test.YtdbbmhefndjedaaDoorProg
namespace Go.Proofs.YtdbbmhefndjedaaDoor
open Go.RowKit Go.Shelf
attribute [local go_sem] Oper.semAt_some

/-- The table of the library that the walk reads. -/
def Tab (w : World) : Prop := ∀ j, j < 32 → w.cell? ⟨0, j, none⟩ = some (.int .u8 (Lib.deBruijn32tab.getD j 0))

set_option maxHeartbeats 1000000 in
theorem tz_core (x k idx : Nat) (w : World) (hx0 : ((x : Int) == 0) = false)
    (key : bits BinOp.and IntKind.u32 (x : Int) (-(x : Int) % 4294967296) * 125613361 % 4294967296 / 134217728 = (idx : Int))
    (hi : idx < 32) (hk : k < 32) (hcell : w.cell? ⟨0, idx, none⟩ = some (.int .u8 k)) :
    Calls Tryd.prog 60 #[.int .u32 x] w fun e w' => e = .returned (.int .i64 k) ∧ w = w' := by
  go_enter Tryd.func60, Tryd.ntmps60
  go_wp2_with (simp only [key])
  go_ret
  exact ⟨rfl, rfl⟩
theorem tz_any (x : Nat) (hx : x < 4294967296) (h0 : x ≠ 0) (w : World) (hT : Tab w) :
    Calls Tryd.prog 60 #[.int .u32 x] w fun e w' => e = .returned (.int .i64 (Lib.ctz 32 x)) ∧ w = w' := by
  obtain ⟨hlow, hk⟩ := Lib.lowest_bit 32 x h0 hx
  obtain ⟨hi, htab⟩ := Lib.deBruijn32_at _ hk
  have hcell := hT _ hi
  rw [htab] at hcell
  exact tz_core x _ _ w (by simp; omega) (tz_key x _ hx h0 hlow) hi hk hcell

theorem Tab.below {n₀ : Nat} {A B : World} (hb : Below n₀ A B) (h0 : 0 < n₀) (h : Tab A) : Tab B := fun j hj => (hb.cell (p := ⟨0, j, none⟩) h0).trans (h j hj)

set_option maxRecDepth 100000 in
set_option maxHeartbeats 1000000 in
/-- The iterator: each feature of the set, in increasing order. -/
theorem iter_in (n : Nat) (hn : 1 ≤ n) (l Bn n₀ : Nat) (r0 : BitVec 32) (J Jx : List (Fin 32) → World → Prop)
    (hY : ∀ pre x W, J pre W → pre.length < (elems r0).length → YieldAt Fence.wide (n - 1) Tryd.prog l #[.int .i64 ((x : Fin 32).val : Int)] W fun e W' =>
      (e = .returned (.bool true) ∧ J (pre ++ [x]) W' ∧ Below n₀ W W') ∨ (e = .returned (.bool false) ∧ Jx (pre ++ [x]) W'))
    (W : World) (hBn : W.cell? ⟨Bn, 0, none⟩ = some (.int .u32 (r0.toNat : Int))) (hn0 : 0 < n₀) (hT : Tab W) (h0 : J [] W) :
    CallsIn Fence.wide n Tryd.prog 59 #[.func (.yield l) #[] #[], .pointer (some ⟨Bn, 0, none⟩)] W fun e W' => (∃ v, e = .returned v) ∧
      ((∃ ys, ys = elems r0 ∧ J ys W') ∨ (∃ pre, pre <+: elems r0 ∧ Jx pre W')) := by
  refine callsIn_of_wp Tryd.func59 rfl trivial ?_ rfl
  simp only [Tryd.ntmps59, List.size_toArray, List.length_cons, List.length_nil, Nat.reduceAdd, Nat.reduceSub, Array.replicate_succ, Array.replicate_zero, List.push_toArray, List.append_toArray, List.nil_append, List.cons_append]
  gi_wp2
  gi_loopw [3] (fun p wr => ∃ (pre : List (Fin 32)) (r : BitVec 32), p = .int .u32 (r.toNat : Int) ∧ elems r0 = pre ++ elems r ∧ Tab wr ∧ J pre wr)
    (fun p wr => (intOf p).toNat)
  case atStart =>
    exact ⟨[], r0, rfl, rfl, hT, h0⟩
  case round =>
    obtain ⟨pre, r, rfl, hx, hTr, hJs⟩ := hrel
    by_cases hr : r.toNat = 0
    · have hr0 : r = 0#32 := by rw [← BitVec.toNat_inj]; simpa using hr
      subst hr0
      rw [elems_zero, List.append_nil] at hx
      gi_wp2
      go_end0
      exact ⟨⟨_, rfl⟩, .inl ⟨pre, hx.symm, hJs⟩⟩
    · obtain ⟨hk, hel, hlt, hand⟩ := elems_step r hr
      obtain ⟨fn, tmps, assign, body, hy, hR⟩ := hY pre (Fin.ofNat 32 (Lib.ctz 32 r.toNat)) wr hJs (by rw [hx, hel]; simp)
      have hmod : (Fin.ofNat 32 (Lib.ctz 32 r.toNat)).val = Lib.ctz 32 r.toNat := Nat.mod_eq_of_lt hk
      rw [hmod] at hy
      have hpos : 0 < r.toNat := by omega
      have h32 := r.isLt
      have hap := and_pred r hr hand
      have HX := Lib.hid hx; have HEL := Lib.hid hel; have HAP := Lib.hid hap
      have hne : ((r.toNat : Int) != 0) = true := by simpa using hr
      clear hx hel hap hand hmod
      gi_wp2_with (refine ⟨trivial, ?_⟩; gi_at_call 60; refine (callsIn_wide.2 (tz_any r.toNat h32 hr _ hTr)).mono ?_; rintro e w' ⟨rfl, rfl⟩)
      refine hR.mono ?_
      rintro e W3 (⟨rfl, hJ3, hk3⟩ | ⟨rfl, hJx3⟩)
      · have hT3 := hTr.below hk3 hn0
        gi_wp2
        go_roundw
        case rel =>
          refine ⟨pre ++ [Fin.ofNat 32 (Lib.ctz 32 r.toNat)], r &&& (r - 1#32), ?_, ?_, hT3, hJ3⟩
          · rw [← HAP.out]
          · rw [HX.out, HEL.out]; simp
        case measure =>
          have e := HAP.out
          simp only [intOf]
          omega
      · gi_wp2
        refine bodyPost_ret (results_none rfl _ _ _) rfl ?_
        refine ⟨⟨_, rfl⟩, .inr ⟨pre ++ [Fin.ofNat 32 (Lib.ctz 32 r.toNat)], ⟨elems (r &&& (r - 1#32)), ?_⟩, hJx3⟩⟩
        rw [HX.out, HEL.out]; simp
end Go.Proofs.YtdbbmhefndjedaaDoor
