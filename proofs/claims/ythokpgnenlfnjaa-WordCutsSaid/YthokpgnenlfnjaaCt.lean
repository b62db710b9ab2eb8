/-
  The specification's Splice, whatever its arguments are.
-/
import Derived.Test.YthokpgnenlfnjaaCs
namespace Go.Proofs.Ythokpgnenlfnjaa
open Go.RowKit Go.Sort
set_option maxHeartbeats 4000000 in
theorem rsplice_any (xs ys : List Snd) (v u : Value) (a b : Int) (w : World) (h : Wd w v xs) (hu : Wd w u ys) : MakesE 20 #[v, .int .i64 a, .int .i64 b, u] w (splE xs a b ys) (splS xs a b ys) := by
  by_cases hcx : chk xs = 0
  · by_cases hcy : chk ys = 0
    · have hk : ck2 xs ys = 0 := by unfold ck2; rw [if_pos hcx, if_pos hcy]
      rcases hp : part xs.length a b with _ | _
      · have eE : splE xs a b ys = 3 := by simp [splE, hk, hp]
        have eS : splS xs a b ys = [] := by simp [splS, hk, hp]
        rw [eE, eS]
        unfold MakesE
        have hX := rcheck_any xs v w h
        have hY := fun W (hb : Below w.heap.size w W) => rcheck_any ys u W (hu.below hb)
        rw [hcx] at hX
        rw [hcy] at hY
        have HX := Lib.hid hX; have HY := Lib.hid hY
        have hp' : ¬ (0 ≤ a ∧ a ≤ b ∧ b ≤ xs.length) := fun ⟨h1, h2, h3⟩ => by simp [part, h1, h2, h3] at hp
        obtain ⟨ao, cap, rfl, -, -, -⟩ := h.open
        obtain ⟨uo, ucap, rfl, -, -, -⟩ := hu.open
        have h32 := chk_short hcx
        clear h hu hX hY eE eS hp hk hcx hcy
        by_cases h1 : a < 0
        · clear hp'
          go_enter Try.func20, Try.ntmps20
          go_wp2_with (first | (go_at_call 25; with_reducible refine Gives.then HX.out ?_; intro w1 hb1) | (go_at_call 25; with_reducible refine Gives.then (HY.out _ hb1) ?_; intro w2 hb; have hb2 := hb1.trans (hb.mono hb1.size); clear hb))
          go_ret2
          exact ⟨_, rfl, Own.nil _ _, hb2⟩
        · by_cases h2 : b < a
          · clear hp'
            go_enter Try.func20, Try.ntmps20
            go_wp2_with (first | (go_at_call 25; with_reducible refine Gives.then HX.out ?_; intro w1 hb1) | (go_at_call 25; with_reducible refine Gives.then (HY.out _ hb1) ?_; intro w2 hb; have hb2 := hb1.trans (hb.mono hb1.size); clear hb))
            go_ret2
            exact ⟨_, rfl, Own.nil _ _, hb2⟩
          · have h3 : (xs.length : Int) < b := by omega
            clear hp'
            go_enter Try.func20, Try.ntmps20
            go_wp2_with (first | (go_at_call 25; with_reducible refine Gives.then HX.out ?_; intro w1 hb1) | (go_at_call 25; with_reducible refine Gives.then (HY.out _ hb1) ?_; intro w2 hb; have hb2 := hb1.trans (hb.mono hb1.size); clear hb))
            go_ret2
            exact ⟨_, rfl, Own.nil _ _, hb2⟩
      · have hp0 := hp
        unfold part at hp
        simp only [Bool.and_eq_true, decide_eq_true_eq] at hp
        obtain ⟨⟨p1, p2⟩, p3⟩ := hp
        obtain ⟨A, rfl⟩ := Int.eq_ofNat_of_zero_le p1
        obtain ⟨B, rfl⟩ := Int.eq_ofNat_of_zero_le (Int.le_trans p1 p2)
        have eE : splE xs A B ys = if (spl xs A B ys).length ≤ 32 then 0 else 11 := by unfold splE; rw [if_neg (by simpa using hk), if_pos hp0]; rfl
        have eS : splS xs A B ys = if (spl xs A B ys).length ≤ 32 then spl xs A B ys else [] := by unfold splS; rw [if_neg (by simpa using hk), if_pos hp0]; rfl
        rw [eE, eS]
        exact rsplice_ok xs ys v u A B w h hu (by omega) (by omega) hcx hcy
    · have hk : ck2 xs ys = chk ys := by unfold ck2; rw [if_pos hcx, if_neg hcy]
      have eE : splE xs a b ys = chk ys := by unfold splE; rw [hk, if_pos hcy]
      have eS : splS xs a b ys = [] := by unfold splS; rw [hk, if_pos hcy]
      rw [eE, eS]
      unfold MakesE
      have hX := rcheck_any xs v w h
      have hY := fun W (hb : Below w.heap.size w W) => rcheck_any ys u W (hu.below hb)
      rw [hcx] at hX
      obtain ⟨ao, cap, rfl, -, -, -⟩ := h.open
      obtain ⟨uo, ucap, rfl, -, -, -⟩ := hu.open
      generalize chk ys = c at *
      have hc1 : (c == 0) = false := by simpa using hcy
      have hc2 : (c != 0) = true := by simpa using hcy
      have HX := Lib.hid hX; have HY := Lib.hid hY
      clear h hu hX hY eE eS hk hcx hcy
      go_enter Try.func20, Try.ntmps20
      go_wp2_with (first | (go_at_call 25; with_reducible refine Gives.then HX.out ?_; intro w1 hb1) | (go_at_call 25; with_reducible refine Gives.then (HY.out _ hb1) ?_; intro w2 hb; have hb2 := hb1.trans (hb.mono hb1.size); clear hb))
      go_ret2
      exact ⟨_, rfl, Own.nil _ _, hb2⟩
  · have hk : ck2 xs ys = chk xs := by unfold ck2; rw [if_neg hcx]
    have eE : splE xs a b ys = chk xs := by unfold splE; rw [hk, if_pos hcx]
    have eS : splS xs a b ys = [] := by unfold splS; rw [hk, if_pos hcx]
    rw [eE, eS]
    unfold MakesE
    have hX := rcheck_any xs v w h
    obtain ⟨ao, cap, rfl, -, -, -⟩ := h.open
    obtain ⟨uo, ucap, rfl, -, -, -⟩ := hu.open
    generalize chk xs = c at *
    have hc1 : (c == 0) = false := by simpa using hcx
    have hc2 : (c != 0) = true := by simpa using hcx
    have HX := Lib.hid hX
    clear h hu hX eE eS hk hcx
    go_enter Try.func20, Try.ntmps20
    go_wp2_with (go_at_call 25; with_reducible refine Gives.then HX.out ?_; intro w1 hb1)
    go_ret2
    exact ⟨_, rfl, Own.nil _ _, hb1⟩
end Go.Proofs.Ythokpgnenlfnjaa
