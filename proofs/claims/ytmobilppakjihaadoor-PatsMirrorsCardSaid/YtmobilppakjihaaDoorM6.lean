/-
  Lemmas that the theorem of this claim rests on: 1 texts, one behind the other.
-/
import Derived.Test.YtmobilppakjihaaDoorM4
set_option linter.unusedSimpArgs false
set_option linter.unusedVariables false
/-
  What is wrong with a node of some kinds.
-/
namespace Go.Proofs.YtmobilppakjihaaDoor
open Go.RowKit Go.Sort
attribute [local go_sem ↓] snd_eql snd_neq
set_option maxHeartbeats 4000000 in
theorem checkNode_4 (p m : BitVec 32) (neg : Bool) (mi ma : Int) (ao : Option Addr) (n cap : Nat) (w : World) (l1 : n ≤ 9223372036854775807) : Gives 46 #[.agg #[.int .i64 4, .int .u32 (p.toNat : Int), .int .u32 (m.toNat : Int), .bool neg, .int .i64 mi, .int .i64 ma, .slice ao n cap]] w (.int .i64 (ndE ⟨4, (p, m), neg, mi, ma, .slice ao n cap⟩ n)) := by
  unfold Gives
  by_cases hp : p = 0#32
  · have bp := z_yes hp
    by_cases hm : m = 0#32
    · have bm := z_yes hm
      rcases neg with _ | _
      · by_cases hmi : mi = 0
        · subst hmi
          by_cases hma : ma = 0
          · subst hma
            rcases hv : vd (p, m) with _ | _
            · have hR : ndE ⟨4, (p, m), false, 0, 0, .slice ao n cap⟩ n = 14 := ndE_fin (by simp [argB, hp, hm]) false hv
              rw [hR]; clear hR hp hm
              go_enter Tryd.func46, Tryd.ntmps46
              go_wp2_with (first | (go_at_call 68; refine (validTimes_any _ _ _).mono ?_; rintro e w1 ⟨rfl, rfl⟩) | (go_at_call 69; with_reducible refine Gives.then (pvalid_any p m _) ?_; intro w1 hb; have hw := chain (B := w.heap.size) (a := w) (by go_grown) (by go_size) hb; clear hb))
              go_returns
              exact ⟨rfl, by first | assumption | go_grown⟩
            · have hR : ndE ⟨4, (p, m), false, 0, 0, .slice ao n cap⟩ n = 0 := ndE_fin (by simp [argB, hp, hm]) true hv
              rw [hR]; clear hR hp hm
              go_enter Tryd.func46, Tryd.ntmps46
              go_wp2_with (first | (go_at_call 68; refine (validTimes_any _ _ _).mono ?_; rintro e w1 ⟨rfl, rfl⟩) | (go_at_call 69; with_reducible refine Gives.then (pvalid_any p m _) ?_; intro w1 hb; have hw := chain (B := w.heap.size) (a := w) (by go_grown) (by go_size) hb; clear hb))
              go_returns
              exact ⟨rfl, by first | assumption | go_grown⟩
          · have bma := i_no hma
            have hR : ndE ⟨4, (p, m), false, 0, ma, .slice ao n cap⟩ n = 2 := ndE_bad (by simp [argB, hp, hm, hma])
            rw [hR]; clear hR hp hm
            go_enter Tryd.func46, Tryd.ntmps46
            go_wp2_with (first | (go_at_call 68; refine (validTimes_any _ _ _).mono ?_; rintro e w1 ⟨rfl, rfl⟩) | (go_at_call 69; with_reducible refine Gives.then (pvalid_any p m _) ?_; intro w1 hb; have hw := chain (B := w.heap.size) (a := w) (by go_grown) (by go_size) hb; clear hb))
            go_returns
            exact ⟨rfl, by first | assumption | go_grown⟩
        · have bmi := i_no hmi
          have hR : ndE ⟨4, (p, m), false, mi, ma, .slice ao n cap⟩ n = 2 := ndE_bad (by simp [argB, hp, hm, hmi])
          rw [hR]; clear hR hp hm
          go_enter Tryd.func46, Tryd.ntmps46
          go_wp2_with (first | (go_at_call 68; refine (validTimes_any _ _ _).mono ?_; rintro e w1 ⟨rfl, rfl⟩) | (go_at_call 69; with_reducible refine Gives.then (pvalid_any p m _) ?_; intro w1 hb; have hw := chain (B := w.heap.size) (a := w) (by go_grown) (by go_size) hb; clear hb))
          go_returns
          exact ⟨rfl, by first | assumption | go_grown⟩
      · have hR : ndE ⟨4, (p, m), true, mi, ma, .slice ao n cap⟩ n = 2 := ndE_bad (by simp [argB, hp, hm])
        rw [hR]; clear hR hp hm
        go_enter Tryd.func46, Tryd.ntmps46
        go_wp2_with (first | (go_at_call 68; refine (validTimes_any _ _ _).mono ?_; rintro e w1 ⟨rfl, rfl⟩) | (go_at_call 69; with_reducible refine Gives.then (pvalid_any p m _) ?_; intro w1 hb; have hw := chain (B := w.heap.size) (a := w) (by go_grown) (by go_size) hb; clear hb))
        go_returns
        exact ⟨rfl, by first | assumption | go_grown⟩
    · have bm := z_no hm
      have hR : ndE ⟨4, (p, m), neg, mi, ma, .slice ao n cap⟩ n = 2 := ndE_bad (by simp [argB, hp, hm])
      rw [hR]; clear hR hp hm
      go_enter Tryd.func46, Tryd.ntmps46
      go_wp2_with (first | (go_at_call 68; refine (validTimes_any _ _ _).mono ?_; rintro e w1 ⟨rfl, rfl⟩) | (go_at_call 69; with_reducible refine Gives.then (pvalid_any p m _) ?_; intro w1 hb; have hw := chain (B := w.heap.size) (a := w) (by go_grown) (by go_size) hb; clear hb))
      go_returns
      exact ⟨rfl, by first | assumption | go_grown⟩
  · have bp := z_no hp
    have hR : ndE ⟨4, (p, m), neg, mi, ma, .slice ao n cap⟩ n = 2 := ndE_bad (by simp [argB, hp])
    rw [hR]; clear hR hp
    go_enter Tryd.func46, Tryd.ntmps46
    go_wp2_with (first | (go_at_call 68; refine (validTimes_any _ _ _).mono ?_; rintro e w1 ⟨rfl, rfl⟩) | (go_at_call 69; with_reducible refine Gives.then (pvalid_any p m _) ?_; intro w1 hb; have hw := chain (B := w.heap.size) (a := w) (by go_grown) (by go_size) hb; clear hb))
    go_returns
    exact ⟨rfl, by first | assumption | go_grown⟩
set_option maxHeartbeats 4000000 in
theorem checkNode_5 (p m : BitVec 32) (neg : Bool) (mi ma : Int) (ao : Option Addr) (n cap : Nat) (w : World) (l1 : n ≤ 9223372036854775807) : Gives 46 #[.agg #[.int .i64 5, .int .u32 (p.toNat : Int), .int .u32 (m.toNat : Int), .bool neg, .int .i64 mi, .int .i64 ma, .slice ao n cap]] w (.int .i64 (ndE ⟨5, (p, m), neg, mi, ma, .slice ao n cap⟩ n)) := by
  unfold Gives
  by_cases hn : n = 1
  · subst hn
    rcases ht : tmB mi ma with _ | _
    · have hR : ndE ⟨5, (p, m), neg, mi, ma, .slice ao 1 cap⟩ 1 = 2 := ndE_bad (by simp [arg5, ht])
      rw [hR]; clear hR
      go_enter Tryd.func46, Tryd.ntmps46
      go_wp2_with (first | (go_at_call 68; refine (validTimes_any _ _ _).mono ?_; rintro e w1 ⟨rfl, rfl⟩) | (go_at_call 69; with_reducible refine Gives.then (pvalid_any p m _) ?_; intro w1 hb; have hw := chain (B := w.heap.size) (a := w) (by go_grown) (by go_size) hb; clear hb))
      go_returns
      exact ⟨rfl, by first | assumption | go_grown⟩
    · by_cases hp : p = 0#32
      · have bp := z_yes hp
        by_cases hm : m = 0#32
        · have bm := z_yes hm
          rcases neg with _ | _
          · rcases hv : vd (p, m) with _ | _
            · have hR : ndE ⟨5, (p, m), false, mi, ma, .slice ao 1 cap⟩ 1 = 14 := ndE_fin (by simp [arg5, ht, hp, hm]) false hv
              rw [hR]; clear hR hp hm
              go_enter Tryd.func46, Tryd.ntmps46
              go_wp2_with (first | (go_at_call 68; refine (validTimes_any _ _ _).mono ?_; rintro e w1 ⟨rfl, rfl⟩) | (go_at_call 69; with_reducible refine Gives.then (pvalid_any p m _) ?_; intro w1 hb; have hw := chain (B := w.heap.size) (a := w) (by go_grown) (by go_size) hb; clear hb))
              go_returns
              exact ⟨rfl, by first | assumption | go_grown⟩
            · have hR : ndE ⟨5, (p, m), false, mi, ma, .slice ao 1 cap⟩ 1 = 0 := ndE_fin (by simp [arg5, ht, hp, hm]) true hv
              rw [hR]; clear hR hp hm
              go_enter Tryd.func46, Tryd.ntmps46
              go_wp2_with (first | (go_at_call 68; refine (validTimes_any _ _ _).mono ?_; rintro e w1 ⟨rfl, rfl⟩) | (go_at_call 69; with_reducible refine Gives.then (pvalid_any p m _) ?_; intro w1 hb; have hw := chain (B := w.heap.size) (a := w) (by go_grown) (by go_size) hb; clear hb))
              go_returns
              exact ⟨rfl, by first | assumption | go_grown⟩
          · have hR : ndE ⟨5, (p, m), true, mi, ma, .slice ao 1 cap⟩ 1 = 2 := ndE_bad (by simp [arg5, ht, hp, hm])
            rw [hR]; clear hR hp hm
            go_enter Tryd.func46, Tryd.ntmps46
            go_wp2_with (first | (go_at_call 68; refine (validTimes_any _ _ _).mono ?_; rintro e w1 ⟨rfl, rfl⟩) | (go_at_call 69; with_reducible refine Gives.then (pvalid_any p m _) ?_; intro w1 hb; have hw := chain (B := w.heap.size) (a := w) (by go_grown) (by go_size) hb; clear hb))
            go_returns
            exact ⟨rfl, by first | assumption | go_grown⟩
        · have bm := z_no hm
          have hR : ndE ⟨5, (p, m), neg, mi, ma, .slice ao 1 cap⟩ 1 = 2 := ndE_bad (by simp [arg5, ht, hp, hm])
          rw [hR]; clear hR hp hm
          go_enter Tryd.func46, Tryd.ntmps46
          go_wp2_with (first | (go_at_call 68; refine (validTimes_any _ _ _).mono ?_; rintro e w1 ⟨rfl, rfl⟩) | (go_at_call 69; with_reducible refine Gives.then (pvalid_any p m _) ?_; intro w1 hb; have hw := chain (B := w.heap.size) (a := w) (by go_grown) (by go_size) hb; clear hb))
          go_returns
          exact ⟨rfl, by first | assumption | go_grown⟩
      · have bp := z_no hp
        have hR : ndE ⟨5, (p, m), neg, mi, ma, .slice ao 1 cap⟩ 1 = 2 := ndE_bad (by simp [arg5, ht, hp])
        rw [hR]; clear hR hp
        go_enter Tryd.func46, Tryd.ntmps46
        go_wp2_with (first | (go_at_call 68; refine (validTimes_any _ _ _).mono ?_; rintro e w1 ⟨rfl, rfl⟩) | (go_at_call 69; with_reducible refine Gives.then (pvalid_any p m _) ?_; intro w1 hb; have hw := chain (B := w.heap.size) (a := w) (by go_grown) (by go_size) hb; clear hb))
        go_returns
        exact ⟨rfl, by first | assumption | go_grown⟩
  · have bn : ((n : Int) == 1) = false := by rw [beq_eq_false_iff_ne]; omega
    have hR : ndE ⟨5, (p, m), neg, mi, ma, .slice ao n cap⟩ n = 2 := ndE_bad (by simp [arg5, hn])
    rw [hR]; clear hR
    go_enter Tryd.func46, Tryd.ntmps46
    go_wp2_with (first | (go_at_call 68; refine (validTimes_any _ _ _).mono ?_; rintro e w1 ⟨rfl, rfl⟩) | (go_at_call 69; with_reducible refine Gives.then (pvalid_any p m _) ?_; intro w1 hb; have hw := chain (B := w.heap.size) (a := w) (by go_grown) (by go_size) hb; clear hb))
    go_returns
    exact ⟨rfl, by first | assumption | go_grown⟩
end Go.Proofs.YtmobilppakjihaaDoor
