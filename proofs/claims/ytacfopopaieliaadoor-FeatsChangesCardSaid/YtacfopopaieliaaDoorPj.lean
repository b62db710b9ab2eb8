/-
  FeatsPairs and FeatsChanges, for every argument.
-/
import Derived.Test.YtacfopopaieliaaDoorPh
import Derived.Test.YtacfopopaieliaaDoorPi
namespace Go.Proofs.YtacfopopaieliaaDoor
open Go.RowKit Go.Sort
theorem pairs_any (p m q n : BitVec 32) (w : World) (hT : Tab w) (ht : 0 < w.heap.size) :
    Gives 4 #[sn p.toNat m.toNat, sn q.toNat n.toNat] w (.bool true) := by
  obtain ⟨A, B, U, u1, u2⟩ : ∃ (A B : Int) (U : Bool), (∀ w, Gives 22 #[sn p.toNat m.toNat, sn q.toNat n.toNat] w (.tuple #[sn A B, .bool U])) ∧ (∀ w, Gives 23 #[sn p.toNat m.toNat, sn q.toNat n.toNat] w (.tuple #[sn A B, .bool U])) := by
    rcases hu : vld (p ||| q) (m ||| n) with _ | _
    · refine ⟨0, 0, false, fun w => unify_bad p m q n hu w, fun w => ?_⟩
      rcases hb : (vld p m && vld q n) with _ | _
      · exact runify_badS p m q n hb w
      · rw [Bool.and_eq_true] at hb
        exact runify_of p m q n false hb.1 hb.2 hu w
    · obtain ⟨h1, h2⟩ := vld_mono hu
      exact ⟨_, _, true, fun w => unify_ok p m q n hu w, fun w => runify_of p m q n true h1 h2 hu w⟩
  rcases hb : (vld p m && vld q n) with _ | _
  · exact pairs_core _ _ _ _ A B 0 0 0 _ U false w hT ht u1 u2 (satisfies_bad p m q n hb) (rsat_bad p m q n hb) (order_any p m q n) (rorder_any p m q n) (meet_bad p m q n hb) (rmeet_bad p m q n hb) (diff_bad p m q n hb) (rdiff_bad p m q n hb)
  · have h := hb
    rw [Bool.and_eq_true] at h
    exact pairs_core _ _ _ _ A B _ _ _ _ U _ w hT ht u1 u2 (satisfies_ok p m q n hb) (rsat_ok p m q n _ h.1 h.2 rfl) (order_any p m q n) (rorder_any p m q n) (meet_ok p m q n hb) (rmeet_ok p m q n h.1 h.2) (diff_ok p m q n hb) (rdiff_ok p m q n _ h.1 h.2 rfl)
theorem in_24b (c : BitVec 32) : (c &&& 4278190080#32 == 0#32) = decide (c.toNat ≤ 16777215) := by
  rw [Bool.eq_iff_iff, beq_iff_eq, in_24, decide_eq_true_iff]
theorem changes_any (p m q n c : BitVec 32) (w : World) (hT : Tab w) (ht : 0 < w.heap.size) :
    Gives 6 #[sn p.toNat m.toNat, sn q.toNat n.toNat, .int .u32 c.toNat] w (.bool true) := by
  rcases hb : (vld p m && vld q n) with _ | _
  · exact chg.changes_core _ _ _ _ _ 0 0 0 0 14 14 w hT ht (change_badS p m c q n hb) (rchange_badS p m q n c hb) (take_badS p m c q n hb) (rtake_badS p m q n c hb)
  · have h := hb
    rw [Bool.and_eq_true] at h
    by_cases h24 : c.toNat ≤ 16777215
    · have hin : c &&& 4278190080#32 = 0 := (in_24 c).2 h24
      have hinb : (c &&& 4278190080#32 == 0) = true := by rw [hin]; rfl
      by_cases hcq : c &&& (q ||| n) = 0#32
      · refine chg.changes_core _ _ _ _ _ _ _ _ _ 0 0 w hT ht (change_ok p m c q n hb ⟨hin, hcq⟩) (rchange_ok p m q n c h.1 h.2 h24 hcq) (take_ok p m c q n hb hin) (fun w => ?_)
        have hbn : ~~~bnot c = c := by unfold bnot; rw [BitVec.not_not]
        rw [hbn]
        exact rtake_ok p m q n c h.1 h.2 h24 w
      · refine chg.changes_core _ _ _ _ _ 0 0 _ _ 2 0 w hT ht (change_badA p m c q n hb (fun hx => hcq hx.2)) (rchange_badA p m q n c h.1 h.2 (fun hx => hcq hx.2)) (take_ok p m c q n hb hin) (fun w => ?_)
        have hbn : ~~~bnot c = c := by unfold bnot; rw [BitVec.not_not]
        rw [hbn]
        exact rtake_ok p m q n c h.1 h.2 h24 w
    · have hin : ¬ c &&& 4278190080#32 = 0 := fun hx => h24 ((in_24 c).1 hx)
      have hinb : (c &&& 4278190080#32 == 0) = false := by simpa using hin
      exact chg.changes_core _ _ _ _ _ 0 0 0 0 2 2 w hT ht (change_badA p m c q n hb (fun hx => hin hx.1)) (rchange_badA p m q n c h.1 h.2 (fun hx => h24 hx.1)) (take_badA p m c q n hb hinb) (rtake_badA p m q n c h.1 h.2 h24)
end Go.Proofs.YtacfopopaieliaaDoor
