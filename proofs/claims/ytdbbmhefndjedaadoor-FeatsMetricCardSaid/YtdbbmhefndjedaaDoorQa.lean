/-
  The specification's CheckCosts and Dist: what they return.
-/
import Derived.Test.YtdbbmhefndjedaaDoorPb
import Derived.Test.YtdbbmhefndjedaaDoorQs
namespace Go.Proofs.YtdbbmhefndjedaaDoor
open Go.RowKit Go.Sort
theorem okCosts_short {zs : List Int} {gap : Int} (h : ¬ zs.length ≤ 24) : okCosts zs gap = false := by simp [okCosts, h]
theorem okCosts_low {zs : List Int} {gap : Int} (h : ¬ 0 ≤ gap) : okCosts zs gap = false := by simp [okCosts, okCost, h]
theorem okCosts_high {zs : List Int} {gap : Int} (h : ¬ gap ≤ 1073741824) : okCosts zs gap = false := by simp [okCosts, okCost, h]
theorem okCost_no {z : Int} (h : ¬ (0 ≤ z ∧ z ≤ 1073741824)) : okCost z = false := by
  unfold okCost
  rw [Bool.and_eq_false_iff, decide_eq_false_iff_not, decide_eq_false_iff_not]
  by_cases h0 : 0 ≤ z
  · exact .inr (fun h1 => h ⟨h0, h1⟩)
  · exact .inl h0
theorem okCost_yes {z : Int} (h0 : 0 ≤ z) (h1 : z ≤ 1073741824) : okCost z = true := by simp [okCost, h0, h1]
set_option maxHeartbeats 1000000 in
theorem rcheck_any (sl : Value) (gap : Int) (zs : List Int) (hm : zs.length ≤ 9223372036854775807) (w : World) (hs : Wts w sl zs) :
    Gives 35 #[.agg #[sl, .int .i64 gap]] w (.int .i64 (costErr (okCosts zs gap))) := by
  unfold Gives
  generalize hv : costErr (okCosts zs gap) = v
  have h24' := fun h => (congrArg costErr (okCosts_short (gap := gap) (zs := zs) h)).symm.trans hv
  have hlo' := fun h => (congrArg costErr (okCosts_low (gap := gap) (zs := zs) h)).symm.trans hv
  have hhi' := fun h => (congrArg costErr (okCosts_high (gap := gap) (zs := zs) h)).symm.trans hv
  have hbad : ∀ (k : Nat) (z : Int), k < zs.length → zs.getD k 0 = z → okCost z = false → 2 = v := fun _ _ a b c => (all_bad a b c).symm.trans hv
  have hgood : zs.length ≤ 24 → okCost gap = true → ∀ (k : Nat), ¬ k < zs.length → (zs.take k).all okCost = true → 0 = v := fun a b _ c d => (all_good a b c d).symm.trans hv
  have H24 := Lib.hid h24'; have HLO := Lib.hid hlo'; have HHI := Lib.hid hhi'; have HG := Lib.hid hgood; have HB := Lib.hid hbad
  clear hv h24' hlo' hhi' hgood hbad
  by_cases h24 : zs.length ≤ 24
  · by_cases h0 : 0 ≤ gap
    · by_cases h1 : gap ≤ 1073741824
      · have hg := okCost_yes h0 h1
        have HG1 := Lib.hid (HG.out h24 hg); clear hg
        rcases hs with ⟨rfl, rfl⟩ | ⟨b, off, cap, rfl, h2, h3⟩
        · go_enter Tryd.func35, Tryd.ntmps35
          go_wp2_with fail
          go_rounds 1
          go_returns
          exact ⟨by (rw [← HG1.out 0 (by simp) (by simp)]; try rfl), by go_grown⟩
        · have H3 := Lib.hid h3; clear h3
          go_enter Tryd.func35, Tryd.ntmps35
          go_wp2_with fail
          go_loop [3] (fun i => ∃ k : Nat, k ≤ zs.length ∧ i = .int .i64 (k : Int) ∧ (zs.take k).all okCost = true) (fun i => zs.length - (intOf i).toNat)
          case atStart => exact ⟨0, Nat.zero_le _, rfl, rfl⟩
          case round =>
            obtain ⟨k, hk, rfl, hall⟩ := hrel
            have HALL := Lib.hid hall; clear hall
            by_cases hlt : k < zs.length
            · have hc := H3.out k hlt
              generalize hzz : zs.getD k 0 = z at *
              have HZZ := Lib.hid hzz; clear hzz
              by_cases z0 : 0 ≤ z
              · by_cases z1 : z ≤ 1073741824
                · go_wp2_with fail
                  go_round
                  case rel => exact ⟨k + 1, by omega, by go_num, all_more hlt HZZ.out (okCost_yes z0 z1) HALL.out⟩
                  case measure => simp [intOf]; omega
                · go_wp2_with fail
                  go_returns
                  exact ⟨by (rw [← HB.out _ _ hlt HZZ.out (okCost_no (by omega))]; try rfl), by go_grown⟩
              · go_wp2_with fail
                go_returns
                exact ⟨by (rw [← HB.out _ _ hlt HZZ.out (okCost_no (by omega))]; try rfl), by go_grown⟩
            · go_wp2_with fail
              go_returns
              exact ⟨by (rw [← HG1.out _ hlt HALL.out]; try rfl), by go_grown⟩
      · go_enter Tryd.func35, Tryd.ntmps35
        rcases hs with ⟨rfl, rfl⟩ | ⟨b, off, cap, rfl, h2, h3⟩
        all_goals (
          (try clear h3)
          go_wp2_with fail
          go_returns
          exact ⟨by (rw [← HHI.out h1]; try rfl), by go_grown⟩)
    · go_enter Tryd.func35, Tryd.ntmps35
      rcases hs with ⟨rfl, rfl⟩ | ⟨b, off, cap, rfl, h2, h3⟩
      all_goals (
        (try clear h3)
        go_wp2_with fail
        go_returns
        exact ⟨by (rw [← HLO.out h0]; try rfl), by go_grown⟩)
  · rcases hs with ⟨rfl, rfl⟩ | ⟨b, off, cap, rfl, h2, h3⟩
    · simp at h24
    · clear h3
      go_enter Tryd.func35, Tryd.ntmps35
      go_wp2_with fail
      go_returns
      exact ⟨by (rw [← H24.out h24]; try rfl), by go_grown⟩
end Go.Proofs.YtdbbmhefndjedaaDoor
