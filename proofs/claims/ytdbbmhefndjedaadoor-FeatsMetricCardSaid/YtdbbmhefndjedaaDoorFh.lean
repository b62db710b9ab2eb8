/-
  Weights and costs.
-/
import Derived.Test.YtdbbmhefndjedaaDoorFa
namespace Go.Proofs.YtdbbmhefndjedaaDoor
open Go.RowKit Go.Sort

/-- A slice of int64 that reads as a list. -/
def Wts (w : World) (sl : Value) (zs : List Int) : Prop :=
  (sl = .slice none 0 0 ∧ zs = []) ∨ ∃ b off cap, sl = .slice (some ⟨b, off, none⟩) zs.length cap ∧ b < w.heap.size ∧ ∀ i, i < zs.length → w.cell? ⟨b, off + i, none⟩ = some (.int .i64 (zs.getD i 0))
theorem Wts.below {w w' : World} {sl : Value} {zs : List Int} (h : Wts w sl zs) (hb : Below w.heap.size w w') : Wts w' sl zs := by
  rcases h with h | ⟨b, off, cap, h1, h2, h3⟩
  · exact .inl h
  · exact .inr ⟨b, off, cap, h1, by have := hb.size; omega, fun i hi => (hb.cell (p := ⟨b, off + i, none⟩) h2).trans (h3 i hi)⟩
def okCost (z : Int) : Bool := decide (0 ≤ z) && decide (z ≤ 1073741824)
def okCosts (zs : List Int) (gap : Int) : Bool := decide (zs.length ≤ 24) && okCost gap && zs.all okCost

set_option maxHeartbeats 400000 in
theorem isCost_any (z : Int) (b : Bool) (hb : okCost z = b) (w : World) :
    Calls Tryd.prog 57 #[.int .i64 z] w fun e w' => e = .returned (.bool b) ∧ w = w' := by
  subst hb
  unfold okCost
  by_cases h : 0 ≤ z
  · by_cases h2 : z ≤ 1073741824
    · go_enter Tryd.func57, Tryd.ntmps57
      go_wp2
      go_returns
      exact ⟨by first | (simp [h, h2]; done) | rfl, rfl⟩
    · go_enter Tryd.func57, Tryd.ntmps57
      go_wp2
      go_returns
      exact ⟨by first | (simp [h, h2]; done) | (simp; omega), rfl⟩
  · go_enter Tryd.func57, Tryd.ntmps57
    go_wp2
    go_returns
    exact ⟨by first | (simp [h]; done) | (simp; omega), rfl⟩

set_option maxHeartbeats 400000 in
theorem weight_any (sl : Value) (gap : Int) (zs : List Int) (f : Nat) (hf : f < 32) (w : World) (hs : Wts w sl zs) :
    Calls Tryd.prog 56 #[.agg #[sl, .int .i64 gap], .int .i64 (f : Int)] w fun e w' => e = .returned (.int .i64 (zs.getD f 0)) ∧ Below w.heap.size w w' := by
  rcases hs with ⟨rfl, rfl⟩ | ⟨b, off, cap, rfl, h2, h3⟩
  · go_enter Tryd.func56, Tryd.ntmps56
    go_wp2
    go_returns
    exact ⟨by simp, by go_grown⟩
  · by_cases hl : f < zs.length
    · have hc := h3 f hl
      clear h3
      generalize zs.getD f 0 = z at *
      go_enter Tryd.func56, Tryd.ntmps56
      go_wp2
      go_returns
      exact ⟨by simp, by go_grown⟩
    · have hz : zs.getD f 0 = 0 := by rw [List.getD_eq_getElem?_getD, List.getElem?_eq_none (by omega)]; rfl
      have HZ := Lib.hid hz
      clear h3 hz
      go_enter Tryd.func56, Tryd.ntmps56
      go_wp2
      go_returns
      exact ⟨by rw [HZ.out]; rfl, by go_grown⟩

theorem ret_num {a b : Int} (h : a = b) : Ending.returned (.int .i64 a) = .returned (.int .i64 b) := by rw [h]
/-- The error of costs. -/
def costErr (b : Bool) : Int := if b then 0 else 2
theorem all_bad {zs : List Int} {gap z : Int} {k : Nat} (hlt : k < zs.length) (hz : zs.getD k 0 = z) (h : okCost z = false) : costErr (okCosts zs gap) = 2 := by
  have : zs.all okCost = false := by
    rw [Bool.eq_false_iff]
    intro ha
    rw [List.all_eq_true] at ha
    have := ha z (by rw [← hz, List.getD_eq_getElem?_getD, List.getElem?_eq_getElem hlt]; exact List.getElem_mem hlt)
    rw [h] at this; cases this
  simp [costErr, okCosts, this]
theorem all_more {zs : List Int} {z : Int} {k : Nat} (hlt : k < zs.length) (hz : zs.getD k 0 = z) (h : okCost z = true) (ha : (zs.take k).all okCost = true) : (zs.take (k + 1)).all okCost = true := by
  rw [List.take_succ_eq_append_getElem hlt, List.all_append, ha]
  have e : zs[k] = z := by rw [List.getD_eq_getElem?_getD, List.getElem?_eq_getElem hlt] at hz; exact hz
  rw [e]; simp [h]
theorem all_good {zs : List Int} {gap : Int} {k : Nat} (h24 : zs.length ≤ 24) (hg : okCost gap = true) (hge : ¬ k < zs.length) (ha : (zs.take k).all okCost = true) : costErr (okCosts zs gap) = 0 := by
  rw [List.take_of_length_le (by omega)] at ha
  simp [costErr, okCosts, h24, hg, ha]
set_option maxHeartbeats 1000000 in
theorem checkCosts_any (sl : Value) (gap : Int) (zs : List Int) (hm : zs.length ≤ 9223372036854775807) (w : World) (hs : Wts w sl zs) :
    Calls Tryd.prog 34 #[.agg #[sl, .int .i64 gap]] w fun e w' => e = .returned (.int .i64 (costErr (okCosts zs gap))) ∧ Below w.heap.size w w' := by
  by_cases h24 : zs.length ≤ 24
  · rcases hg : okCost gap with _ | _
    · have hfin : costErr (okCosts zs gap) = 2 := by simp [costErr, okCosts, hg]
      rw [hfin]
      have HG := Lib.hid hg; clear hg hfin
      rcases hs with ⟨rfl, rfl⟩ | ⟨b, off, cap, rfl, h2, h3⟩
      all_goals (
        (try clear h3)
        go_enter Tryd.func34, Tryd.ntmps34
        go_wp2_with (go_at_call 57; refine (isCost_any _ _ HG.out _).mono ?_; rintro e w1 ⟨rfl, rfl⟩)
        go_returns
        exact ⟨rfl, by go_grown⟩)
    · have HG := Lib.hid hg; clear hg
      rcases hs with ⟨rfl, rfl⟩ | ⟨b, off, cap, rfl, h2, h3⟩
      · have hfin : costErr (okCosts [] gap) = 0 := by simp [costErr, okCosts, HG.out]
        rw [hfin]
        clear hfin
        go_enter Tryd.func34, Tryd.ntmps34
        go_wp2_with (go_at_call 57; refine (isCost_any _ _ HG.out _).mono ?_; rintro e w1 ⟨rfl, rfl⟩)
        go_rounds 1
        go_returns
        exact ⟨rfl, by go_grown⟩
      · have H3 := Lib.hid h3; clear h3
        go_enter Tryd.func34, Tryd.ntmps34
        go_wp2_with (go_at_call 57; refine (isCost_any _ _ HG.out _).mono ?_; rintro e w1 ⟨rfl, rfl⟩)
        go_loop [18] (fun i => ∃ k : Nat, k ≤ zs.length ∧ i = .int .i64 (k : Int) ∧ (zs.take k).all okCost = true) (fun i => zs.length - (intOf i).toNat)
        case atStart => exact ⟨0, Nat.zero_le _, rfl, rfl⟩
        case round =>
          obtain ⟨k, hk, rfl, hall⟩ := hrel
          have HALL := Lib.hid hall; clear hall
          by_cases hlt : k < zs.length
          · have hc := H3.out k hlt
            generalize hzz : zs.getD k 0 = z at *
            have HZZ := Lib.hid hzz; clear hzz
            rcases hz : okCost z with _ | _
            · have HZ := Lib.hid hz; clear hz
              go_wp2_with (go_at_call 57; refine (isCost_any _ _ HZ.out _).mono ?_; rintro e w1 ⟨rfl, rfl⟩)
              go_returns
              exact ⟨ret_num (all_bad hlt HZZ.out HZ.out).symm, by go_grown⟩
            · have HZ := Lib.hid hz; clear hz
              go_wp2_with (go_at_call 57; refine (isCost_any _ _ HZ.out _).mono ?_; rintro e w1 ⟨rfl, rfl⟩)
              go_round
              case rel => exact ⟨k + 1, by omega, by go_num, all_more hlt HZZ.out HZ.out HALL.out⟩
              case measure => simp [intOf]; omega
          · go_wp2
            go_returns
            exact ⟨ret_num (all_good h24 HG.out hlt HALL.out).symm, by go_grown⟩
  · have hfin : costErr (okCosts zs gap) = 2 := by simp [costErr, okCosts, h24]
    rw [hfin]
    clear hfin
    rcases hs with ⟨rfl, rfl⟩ | ⟨b, off, cap, rfl, h2, h3⟩
    · simp at h24
    · clear h3
      go_enter Tryd.func34, Tryd.ntmps34
      go_wp2
      go_returns
      exact ⟨rfl, by go_grown⟩
end Go.Proofs.YtdbbmhefndjedaaDoor
