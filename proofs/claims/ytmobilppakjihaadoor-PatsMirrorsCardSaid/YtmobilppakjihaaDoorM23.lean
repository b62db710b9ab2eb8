/-
  Lemmas that the theorem of this claim rests on: 4 texts, one behind the other.
-/
import Derived.Test.YtmobilppakjihaaDoorM4
set_option linter.unusedSimpArgs false
set_option linter.unusedVariables false
/-
  The specification's error of a node alone (node).
-/
namespace Go.Proofs.YtmobilppakjihaaDoor
open Go.RowKit Go.Sort
attribute [local go_sem ↓] snd_eql snd_neq
set_option maxHeartbeats 8000000 in
theorem rnode_0 (p m : BitVec 32) (neg : Bool) (mi ma : Int) (ao : Option Addr) (n cap : Nat) (w : World) (l1 : n ≤ 9223372036854775807) : Gives 70 #[.agg #[.int .i64 0, .int .u32 (p.toNat : Int), .int .u32 (m.toNat : Int), .bool neg, .int .i64 mi, .int .i64 ma, .slice ao n cap]] w (.int .i64 (ndE ⟨0, (p, m), neg, mi, ma, .slice ao n cap⟩ n)) := by
  unfold Gives
  by_cases hp : p = 0#32
  · have bp := z_yes hp
    by_cases hm : m = 0#32
    · have bm := z_yes hm
      rcases neg with _ | _
      · by_cases hn : n = 0
        · subst hn
          by_cases hmi : mi = 0
          · subst hmi
            by_cases hma : ma = 0
            · subst hma
              rcases hv : vd (p, m) with _ | _
              · have hR : ndE ⟨0, (p, m), false, 0, 0, .slice ao 0 cap⟩ 0 = 14 := ndE_fin (by first | (simp [argB, hp, hm]; done) | (simp [argB, hp, hm]; omega)) false hv
                rw [hR]; clear hR hp hm
                go_enter Tryd.func70, Tryd.ntmps70
                go_wp2_with (go_at_call 86; with_reducible refine Gives.then (rvalid_any p m _) ?_; intro w1 hb; have hw := chain (B := w.heap.size) (a := w) (by go_grown) (by go_size) hb; clear hb)
                go_returns
                exact ⟨rfl, by first | assumption | go_grown⟩
              · have hR : ndE ⟨0, (p, m), false, 0, 0, .slice ao 0 cap⟩ 0 = 0 := ndE_fin (by first | (simp [argB, hp, hm]; done) | (simp [argB, hp, hm]; omega)) true hv
                rw [hR]; clear hR hp hm
                go_enter Tryd.func70, Tryd.ntmps70
                go_wp2_with (go_at_call 86; with_reducible refine Gives.then (rvalid_any p m _) ?_; intro w1 hb; have hw := chain (B := w.heap.size) (a := w) (by go_grown) (by go_size) hb; clear hb)
                go_returns
                exact ⟨rfl, by first | assumption | go_grown⟩
            · have bma := i_no hma
              have hR : ndE ⟨0, (p, m), false, 0, ma, .slice ao 0 cap⟩ 0 = 2 := ndE_bad (by first | (simp [argB, hp, hm, hma]; done) | (simp [argB, hp, hm, hma]; omega))
              rw [hR]; clear hR hp hm
              go_enter Tryd.func70, Tryd.ntmps70
              go_wp2_with (go_at_call 86; with_reducible refine Gives.then (rvalid_any p m _) ?_; intro w1 hb; have hw := chain (B := w.heap.size) (a := w) (by go_grown) (by go_size) hb; clear hb)
              go_returns
              exact ⟨rfl, by first | assumption | go_grown⟩
          · have bmi := i_no hmi
            have hR : ndE ⟨0, (p, m), false, mi, ma, .slice ao 0 cap⟩ 0 = 2 := ndE_bad (by first | (simp [argB, hp, hm, hmi]; done) | (simp [argB, hp, hm, hmi]; omega))
            rw [hR]; clear hR hp hm
            go_enter Tryd.func70, Tryd.ntmps70
            go_wp2_with (go_at_call 86; with_reducible refine Gives.then (rvalid_any p m _) ?_; intro w1 hb; have hw := chain (B := w.heap.size) (a := w) (by go_grown) (by go_size) hb; clear hb)
            go_returns
            exact ⟨rfl, by first | assumption | go_grown⟩
        · have bn : (0 : Int) < (n : Int) := by omega
          have bn2 : 0 < n := by omega
          have hR : ndE ⟨0, (p, m), false, mi, ma, .slice ao n cap⟩ n = 2 := ndE_bad (by first | (simp [argB, hp, hm, hn]; done) | (simp [argB, hp, hm, hn]; omega))
          rw [hR]; clear hR hp hm
          go_enter Tryd.func70, Tryd.ntmps70
          go_wp2_with (go_at_call 86; with_reducible refine Gives.then (rvalid_any p m _) ?_; intro w1 hb; have hw := chain (B := w.heap.size) (a := w) (by go_grown) (by go_size) hb; clear hb)
          go_returns
          exact ⟨rfl, by first | assumption | go_grown⟩
      · have hR : ndE ⟨0, (p, m), true, mi, ma, .slice ao n cap⟩ n = 2 := ndE_bad (by first | (simp [argB, hp, hm]; done) | (simp [argB, hp, hm]; omega))
        rw [hR]; clear hR hp hm
        go_enter Tryd.func70, Tryd.ntmps70
        go_wp2_with (go_at_call 86; with_reducible refine Gives.then (rvalid_any p m _) ?_; intro w1 hb; have hw := chain (B := w.heap.size) (a := w) (by go_grown) (by go_size) hb; clear hb)
        go_returns
        exact ⟨rfl, by first | assumption | go_grown⟩
    · have bm := z_no hm
      have hR : ndE ⟨0, (p, m), neg, mi, ma, .slice ao n cap⟩ n = 2 := ndE_bad (by first | (simp [argB, hp, hm]; done) | (simp [argB, hp, hm]; omega))
      rw [hR]; clear hR hp hm
      go_enter Tryd.func70, Tryd.ntmps70
      go_wp2_with (go_at_call 86; with_reducible refine Gives.then (rvalid_any p m _) ?_; intro w1 hb; have hw := chain (B := w.heap.size) (a := w) (by go_grown) (by go_size) hb; clear hb)
      go_returns
      exact ⟨rfl, by first | assumption | go_grown⟩
  · have bp := z_no hp
    have hR : ndE ⟨0, (p, m), neg, mi, ma, .slice ao n cap⟩ n = 2 := ndE_bad (by first | (simp [argB, hp]; done) | (simp [argB, hp]; omega))
    rw [hR]; clear hR hp
    go_enter Tryd.func70, Tryd.ntmps70
    go_wp2_with (go_at_call 86; with_reducible refine Gives.then (rvalid_any p m _) ?_; intro w1 hb; have hw := chain (B := w.heap.size) (a := w) (by go_grown) (by go_size) hb; clear hb)
    go_returns
    exact ⟨rfl, by first | assumption | go_grown⟩
set_option maxHeartbeats 8000000 in
theorem rnode_1 (p m : BitVec 32) (neg : Bool) (mi ma : Int) (ao : Option Addr) (n cap : Nat) (w : World) (l1 : n ≤ 9223372036854775807) : Gives 70 #[.agg #[.int .i64 1, .int .u32 (p.toNat : Int), .int .u32 (m.toNat : Int), .bool neg, .int .i64 mi, .int .i64 ma, .slice ao n cap]] w (.int .i64 (ndE ⟨1, (p, m), neg, mi, ma, .slice ao n cap⟩ n)) := by
  unfold Gives
  by_cases hn : n = 0
  · subst hn
    by_cases hmi : mi = 0
    · subst hmi
      by_cases hma : ma = 0
      · subst hma
        rcases hv : vd (p, m) with _ | _
        · have hR : ndE ⟨1, (p, m), neg, 0, 0, .slice ao 0 cap⟩ 0 = 14 := ndE_fin (by first | (simp [argB]; done) | (simp [argB]; omega)) false hv
          rw [hR]; clear hR
          go_enter Tryd.func70, Tryd.ntmps70
          go_wp2_with (go_at_call 86; with_reducible refine Gives.then (rvalid_any p m _) ?_; intro w1 hb; have hw := chain (B := w.heap.size) (a := w) (by go_grown) (by go_size) hb; clear hb)
          go_returns
          exact ⟨rfl, by first | assumption | go_grown⟩
        · have hR : ndE ⟨1, (p, m), neg, 0, 0, .slice ao 0 cap⟩ 0 = 0 := ndE_fin (by first | (simp [argB]; done) | (simp [argB]; omega)) true hv
          rw [hR]; clear hR
          go_enter Tryd.func70, Tryd.ntmps70
          go_wp2_with (go_at_call 86; with_reducible refine Gives.then (rvalid_any p m _) ?_; intro w1 hb; have hw := chain (B := w.heap.size) (a := w) (by go_grown) (by go_size) hb; clear hb)
          go_returns
          exact ⟨rfl, by first | assumption | go_grown⟩
      · have bma := i_no hma
        have hR : ndE ⟨1, (p, m), neg, 0, ma, .slice ao 0 cap⟩ 0 = 2 := ndE_bad (by first | (simp [argB, hma]; done) | (simp [argB, hma]; omega))
        rw [hR]; clear hR
        go_enter Tryd.func70, Tryd.ntmps70
        go_wp2_with (go_at_call 86; with_reducible refine Gives.then (rvalid_any p m _) ?_; intro w1 hb; have hw := chain (B := w.heap.size) (a := w) (by go_grown) (by go_size) hb; clear hb)
        go_returns
        exact ⟨rfl, by first | assumption | go_grown⟩
    · have bmi := i_no hmi
      have hR : ndE ⟨1, (p, m), neg, mi, ma, .slice ao 0 cap⟩ 0 = 2 := ndE_bad (by first | (simp [argB, hmi]; done) | (simp [argB, hmi]; omega))
      rw [hR]; clear hR
      go_enter Tryd.func70, Tryd.ntmps70
      go_wp2_with (go_at_call 86; with_reducible refine Gives.then (rvalid_any p m _) ?_; intro w1 hb; have hw := chain (B := w.heap.size) (a := w) (by go_grown) (by go_size) hb; clear hb)
      go_returns
      exact ⟨rfl, by first | assumption | go_grown⟩
  · have bn : (0 : Int) < (n : Int) := by omega
    have bn2 : 0 < n := by omega
    have hR : ndE ⟨1, (p, m), neg, mi, ma, .slice ao n cap⟩ n = 2 := ndE_bad (by first | (simp [argB, hn]; done) | (simp [argB, hn]; omega))
    rw [hR]; clear hR
    go_enter Tryd.func70, Tryd.ntmps70
    go_wp2_with (go_at_call 86; with_reducible refine Gives.then (rvalid_any p m _) ?_; intro w1 hb; have hw := chain (B := w.heap.size) (a := w) (by go_grown) (by go_size) hb; clear hb)
    go_returns
    exact ⟨rfl, by first | assumption | go_grown⟩
set_option maxHeartbeats 8000000 in
theorem rnode_2 (p m : BitVec 32) (neg : Bool) (mi ma : Int) (ao : Option Addr) (n cap : Nat) (w : World) (l1 : n ≤ 9223372036854775807) : Gives 70 #[.agg #[.int .i64 2, .int .u32 (p.toNat : Int), .int .u32 (m.toNat : Int), .bool neg, .int .i64 mi, .int .i64 ma, .slice ao n cap]] w (.int .i64 (ndE ⟨2, (p, m), neg, mi, ma, .slice ao n cap⟩ n)) := by
  unfold Gives
  by_cases hp : p = 0#32
  · have bp := z_yes hp
    by_cases hm : m = 0#32
    · have bm := z_yes hm
      rcases neg with _ | _
      · by_cases hn : n = 0
        · subst hn
          by_cases hmi : mi = 0
          · subst hmi
            by_cases hma : ma = 0
            · subst hma
              rcases hv : vd (p, m) with _ | _
              · have hR : ndE ⟨2, (p, m), false, 0, 0, .slice ao 0 cap⟩ 0 = 14 := ndE_fin (by first | (simp [argB, hp, hm]; done) | (simp [argB, hp, hm]; omega)) false hv
                rw [hR]; clear hR hp hm
                go_enter Tryd.func70, Tryd.ntmps70
                go_wp2_with (go_at_call 86; with_reducible refine Gives.then (rvalid_any p m _) ?_; intro w1 hb; have hw := chain (B := w.heap.size) (a := w) (by go_grown) (by go_size) hb; clear hb)
                go_returns
                exact ⟨rfl, by first | assumption | go_grown⟩
              · have hR : ndE ⟨2, (p, m), false, 0, 0, .slice ao 0 cap⟩ 0 = 0 := ndE_fin (by first | (simp [argB, hp, hm]; done) | (simp [argB, hp, hm]; omega)) true hv
                rw [hR]; clear hR hp hm
                go_enter Tryd.func70, Tryd.ntmps70
                go_wp2_with (go_at_call 86; with_reducible refine Gives.then (rvalid_any p m _) ?_; intro w1 hb; have hw := chain (B := w.heap.size) (a := w) (by go_grown) (by go_size) hb; clear hb)
                go_returns
                exact ⟨rfl, by first | assumption | go_grown⟩
            · have bma := i_no hma
              have hR : ndE ⟨2, (p, m), false, 0, ma, .slice ao 0 cap⟩ 0 = 2 := ndE_bad (by first | (simp [argB, hp, hm, hma]; done) | (simp [argB, hp, hm, hma]; omega))
              rw [hR]; clear hR hp hm
              go_enter Tryd.func70, Tryd.ntmps70
              go_wp2_with (go_at_call 86; with_reducible refine Gives.then (rvalid_any p m _) ?_; intro w1 hb; have hw := chain (B := w.heap.size) (a := w) (by go_grown) (by go_size) hb; clear hb)
              go_returns
              exact ⟨rfl, by first | assumption | go_grown⟩
          · have bmi := i_no hmi
            have hR : ndE ⟨2, (p, m), false, mi, ma, .slice ao 0 cap⟩ 0 = 2 := ndE_bad (by first | (simp [argB, hp, hm, hmi]; done) | (simp [argB, hp, hm, hmi]; omega))
            rw [hR]; clear hR hp hm
            go_enter Tryd.func70, Tryd.ntmps70
            go_wp2_with (go_at_call 86; with_reducible refine Gives.then (rvalid_any p m _) ?_; intro w1 hb; have hw := chain (B := w.heap.size) (a := w) (by go_grown) (by go_size) hb; clear hb)
            go_returns
            exact ⟨rfl, by first | assumption | go_grown⟩
        · have bn : (0 : Int) < (n : Int) := by omega
          have bn2 : 0 < n := by omega
          have hR : ndE ⟨2, (p, m), false, mi, ma, .slice ao n cap⟩ n = 2 := ndE_bad (by first | (simp [argB, hp, hm, hn]; done) | (simp [argB, hp, hm, hn]; omega))
          rw [hR]; clear hR hp hm
          go_enter Tryd.func70, Tryd.ntmps70
          go_wp2_with (go_at_call 86; with_reducible refine Gives.then (rvalid_any p m _) ?_; intro w1 hb; have hw := chain (B := w.heap.size) (a := w) (by go_grown) (by go_size) hb; clear hb)
          go_returns
          exact ⟨rfl, by first | assumption | go_grown⟩
      · have hR : ndE ⟨2, (p, m), true, mi, ma, .slice ao n cap⟩ n = 2 := ndE_bad (by first | (simp [argB, hp, hm]; done) | (simp [argB, hp, hm]; omega))
        rw [hR]; clear hR hp hm
        go_enter Tryd.func70, Tryd.ntmps70
        go_wp2_with (go_at_call 86; with_reducible refine Gives.then (rvalid_any p m _) ?_; intro w1 hb; have hw := chain (B := w.heap.size) (a := w) (by go_grown) (by go_size) hb; clear hb)
        go_returns
        exact ⟨rfl, by first | assumption | go_grown⟩
    · have bm := z_no hm
      have hR : ndE ⟨2, (p, m), neg, mi, ma, .slice ao n cap⟩ n = 2 := ndE_bad (by first | (simp [argB, hp, hm]; done) | (simp [argB, hp, hm]; omega))
      rw [hR]; clear hR hp hm
      go_enter Tryd.func70, Tryd.ntmps70
      go_wp2_with (go_at_call 86; with_reducible refine Gives.then (rvalid_any p m _) ?_; intro w1 hb; have hw := chain (B := w.heap.size) (a := w) (by go_grown) (by go_size) hb; clear hb)
      go_returns
      exact ⟨rfl, by first | assumption | go_grown⟩
  · have bp := z_no hp
    have hR : ndE ⟨2, (p, m), neg, mi, ma, .slice ao n cap⟩ n = 2 := ndE_bad (by first | (simp [argB, hp]; done) | (simp [argB, hp]; omega))
    rw [hR]; clear hR hp
    go_enter Tryd.func70, Tryd.ntmps70
    go_wp2_with (go_at_call 86; with_reducible refine Gives.then (rvalid_any p m _) ?_; intro w1 hb; have hw := chain (B := w.heap.size) (a := w) (by go_grown) (by go_size) hb; clear hb)
    go_returns
    exact ⟨rfl, by first | assumption | go_grown⟩
end Go.Proofs.YtmobilppakjihaaDoor

/-
  The specification's error of a node alone (node).
-/
namespace Go.Proofs.YtmobilppakjihaaDoor
open Go.RowKit Go.Sort
attribute [local go_sem ↓] snd_eql snd_neq
set_option maxHeartbeats 8000000 in
theorem rnode_3 (p m : BitVec 32) (neg : Bool) (mi ma : Int) (ao : Option Addr) (n cap : Nat) (w : World) (l1 : n ≤ 9223372036854775807) : Gives 70 #[.agg #[.int .i64 3, .int .u32 (p.toNat : Int), .int .u32 (m.toNat : Int), .bool neg, .int .i64 mi, .int .i64 ma, .slice ao n cap]] w (.int .i64 (ndE ⟨3, (p, m), neg, mi, ma, .slice ao n cap⟩ n)) := by
  unfold Gives
  by_cases hp : p = 0#32
  · have bp := z_yes hp
    by_cases hm : m = 0#32
    · have bm := z_yes hm
      rcases neg with _ | _
      · by_cases hmi : mi = 0
        · subst hmi
          by_cases hma : ma = 0
          · subst hma
            rcases hv : vd (p, m) with _ | _
            · have hR : ndE ⟨3, (p, m), false, 0, 0, .slice ao n cap⟩ n = 14 := ndE_fin (by first | (simp [argB, hp, hm]; done) | (simp [argB, hp, hm]; omega)) false hv
              rw [hR]; clear hR hp hm
              go_enter Tryd.func70, Tryd.ntmps70
              go_wp2_with (go_at_call 86; with_reducible refine Gives.then (rvalid_any p m _) ?_; intro w1 hb; have hw := chain (B := w.heap.size) (a := w) (by go_grown) (by go_size) hb; clear hb)
              go_returns
              exact ⟨rfl, by first | assumption | go_grown⟩
            · have hR : ndE ⟨3, (p, m), false, 0, 0, .slice ao n cap⟩ n = 0 := ndE_fin (by first | (simp [argB, hp, hm]; done) | (simp [argB, hp, hm]; omega)) true hv
              rw [hR]; clear hR hp hm
              go_enter Tryd.func70, Tryd.ntmps70
              go_wp2_with (go_at_call 86; with_reducible refine Gives.then (rvalid_any p m _) ?_; intro w1 hb; have hw := chain (B := w.heap.size) (a := w) (by go_grown) (by go_size) hb; clear hb)
              go_returns
              exact ⟨rfl, by first | assumption | go_grown⟩
          · have bma := i_no hma
            have hR : ndE ⟨3, (p, m), false, 0, ma, .slice ao n cap⟩ n = 2 := ndE_bad (by first | (simp [argB, hp, hm, hma]; done) | (simp [argB, hp, hm, hma]; omega))
            rw [hR]; clear hR hp hm
            go_enter Tryd.func70, Tryd.ntmps70
            go_wp2_with (go_at_call 86; with_reducible refine Gives.then (rvalid_any p m _) ?_; intro w1 hb; have hw := chain (B := w.heap.size) (a := w) (by go_grown) (by go_size) hb; clear hb)
            go_returns
            exact ⟨rfl, by first | assumption | go_grown⟩
        · have bmi := i_no hmi
          have hR : ndE ⟨3, (p, m), false, mi, ma, .slice ao n cap⟩ n = 2 := ndE_bad (by first | (simp [argB, hp, hm, hmi]; done) | (simp [argB, hp, hm, hmi]; omega))
          rw [hR]; clear hR hp hm
          go_enter Tryd.func70, Tryd.ntmps70
          go_wp2_with (go_at_call 86; with_reducible refine Gives.then (rvalid_any p m _) ?_; intro w1 hb; have hw := chain (B := w.heap.size) (a := w) (by go_grown) (by go_size) hb; clear hb)
          go_returns
          exact ⟨rfl, by first | assumption | go_grown⟩
      · have hR : ndE ⟨3, (p, m), true, mi, ma, .slice ao n cap⟩ n = 2 := ndE_bad (by first | (simp [argB, hp, hm]; done) | (simp [argB, hp, hm]; omega))
        rw [hR]; clear hR hp hm
        go_enter Tryd.func70, Tryd.ntmps70
        go_wp2_with (go_at_call 86; with_reducible refine Gives.then (rvalid_any p m _) ?_; intro w1 hb; have hw := chain (B := w.heap.size) (a := w) (by go_grown) (by go_size) hb; clear hb)
        go_returns
        exact ⟨rfl, by first | assumption | go_grown⟩
    · have bm := z_no hm
      have hR : ndE ⟨3, (p, m), neg, mi, ma, .slice ao n cap⟩ n = 2 := ndE_bad (by first | (simp [argB, hp, hm]; done) | (simp [argB, hp, hm]; omega))
      rw [hR]; clear hR hp hm
      go_enter Tryd.func70, Tryd.ntmps70
      go_wp2_with (go_at_call 86; with_reducible refine Gives.then (rvalid_any p m _) ?_; intro w1 hb; have hw := chain (B := w.heap.size) (a := w) (by go_grown) (by go_size) hb; clear hb)
      go_returns
      exact ⟨rfl, by first | assumption | go_grown⟩
  · have bp := z_no hp
    have hR : ndE ⟨3, (p, m), neg, mi, ma, .slice ao n cap⟩ n = 2 := ndE_bad (by first | (simp [argB, hp]; done) | (simp [argB, hp]; omega))
    rw [hR]; clear hR hp
    go_enter Tryd.func70, Tryd.ntmps70
    go_wp2_with (go_at_call 86; with_reducible refine Gives.then (rvalid_any p m _) ?_; intro w1 hb; have hw := chain (B := w.heap.size) (a := w) (by go_grown) (by go_size) hb; clear hb)
    go_returns
    exact ⟨rfl, by first | assumption | go_grown⟩
set_option maxHeartbeats 8000000 in
theorem rnode_4 (p m : BitVec 32) (neg : Bool) (mi ma : Int) (ao : Option Addr) (n cap : Nat) (w : World) (l1 : n ≤ 9223372036854775807) : Gives 70 #[.agg #[.int .i64 4, .int .u32 (p.toNat : Int), .int .u32 (m.toNat : Int), .bool neg, .int .i64 mi, .int .i64 ma, .slice ao n cap]] w (.int .i64 (ndE ⟨4, (p, m), neg, mi, ma, .slice ao n cap⟩ n)) := by
  unfold Gives
  by_cases hp : p = 0#32
  · have bp := z_yes hp
    by_cases hm : m = 0#32
    · have bm := z_yes hm
      rcases neg with _ | _
      · by_cases hmi : mi = 0
        · subst hmi
          by_cases hma : ma = 0
          · subst hma
            rcases hv : vd (p, m) with _ | _
            · have hR : ndE ⟨4, (p, m), false, 0, 0, .slice ao n cap⟩ n = 14 := ndE_fin (by first | (simp [argB, hp, hm]; done) | (simp [argB, hp, hm]; omega)) false hv
              rw [hR]; clear hR hp hm
              go_enter Tryd.func70, Tryd.ntmps70
              go_wp2_with (go_at_call 86; with_reducible refine Gives.then (rvalid_any p m _) ?_; intro w1 hb; have hw := chain (B := w.heap.size) (a := w) (by go_grown) (by go_size) hb; clear hb)
              go_returns
              exact ⟨rfl, by first | assumption | go_grown⟩
            · have hR : ndE ⟨4, (p, m), false, 0, 0, .slice ao n cap⟩ n = 0 := ndE_fin (by first | (simp [argB, hp, hm]; done) | (simp [argB, hp, hm]; omega)) true hv
              rw [hR]; clear hR hp hm
              go_enter Tryd.func70, Tryd.ntmps70
              go_wp2_with (go_at_call 86; with_reducible refine Gives.then (rvalid_any p m _) ?_; intro w1 hb; have hw := chain (B := w.heap.size) (a := w) (by go_grown) (by go_size) hb; clear hb)
              go_returns
              exact ⟨rfl, by first | assumption | go_grown⟩
          · have bma := i_no hma
            have hR : ndE ⟨4, (p, m), false, 0, ma, .slice ao n cap⟩ n = 2 := ndE_bad (by first | (simp [argB, hp, hm, hma]; done) | (simp [argB, hp, hm, hma]; omega))
            rw [hR]; clear hR hp hm
            go_enter Tryd.func70, Tryd.ntmps70
            go_wp2_with (go_at_call 86; with_reducible refine Gives.then (rvalid_any p m _) ?_; intro w1 hb; have hw := chain (B := w.heap.size) (a := w) (by go_grown) (by go_size) hb; clear hb)
            go_returns
            exact ⟨rfl, by first | assumption | go_grown⟩
        · have bmi := i_no hmi
          have hR : ndE ⟨4, (p, m), false, mi, ma, .slice ao n cap⟩ n = 2 := ndE_bad (by first | (simp [argB, hp, hm, hmi]; done) | (simp [argB, hp, hm, hmi]; omega))
          rw [hR]; clear hR hp hm
          go_enter Tryd.func70, Tryd.ntmps70
          go_wp2_with (go_at_call 86; with_reducible refine Gives.then (rvalid_any p m _) ?_; intro w1 hb; have hw := chain (B := w.heap.size) (a := w) (by go_grown) (by go_size) hb; clear hb)
          go_returns
          exact ⟨rfl, by first | assumption | go_grown⟩
      · have hR : ndE ⟨4, (p, m), true, mi, ma, .slice ao n cap⟩ n = 2 := ndE_bad (by first | (simp [argB, hp, hm]; done) | (simp [argB, hp, hm]; omega))
        rw [hR]; clear hR hp hm
        go_enter Tryd.func70, Tryd.ntmps70
        go_wp2_with (go_at_call 86; with_reducible refine Gives.then (rvalid_any p m _) ?_; intro w1 hb; have hw := chain (B := w.heap.size) (a := w) (by go_grown) (by go_size) hb; clear hb)
        go_returns
        exact ⟨rfl, by first | assumption | go_grown⟩
    · have bm := z_no hm
      have hR : ndE ⟨4, (p, m), neg, mi, ma, .slice ao n cap⟩ n = 2 := ndE_bad (by first | (simp [argB, hp, hm]; done) | (simp [argB, hp, hm]; omega))
      rw [hR]; clear hR hp hm
      go_enter Tryd.func70, Tryd.ntmps70
      go_wp2_with (go_at_call 86; with_reducible refine Gives.then (rvalid_any p m _) ?_; intro w1 hb; have hw := chain (B := w.heap.size) (a := w) (by go_grown) (by go_size) hb; clear hb)
      go_returns
      exact ⟨rfl, by first | assumption | go_grown⟩
  · have bp := z_no hp
    have hR : ndE ⟨4, (p, m), neg, mi, ma, .slice ao n cap⟩ n = 2 := ndE_bad (by first | (simp [argB, hp]; done) | (simp [argB, hp]; omega))
    rw [hR]; clear hR hp
    go_enter Tryd.func70, Tryd.ntmps70
    go_wp2_with (go_at_call 86; with_reducible refine Gives.then (rvalid_any p m _) ?_; intro w1 hb; have hw := chain (B := w.heap.size) (a := w) (by go_grown) (by go_size) hb; clear hb)
    go_returns
    exact ⟨rfl, by first | assumption | go_grown⟩
end Go.Proofs.YtmobilppakjihaaDoor

/-
  The specification's error of a node alone (node).
-/
namespace Go.Proofs.YtmobilppakjihaaDoor
open Go.RowKit Go.Sort
attribute [local go_sem ↓] snd_eql snd_neq
set_option maxHeartbeats 8000000 in
theorem rnode_5 (p m : BitVec 32) (neg : Bool) (mi ma : Int) (ao : Option Addr) (n cap : Nat) (w : World) (l1 : n ≤ 9223372036854775807) : Gives 70 #[.agg #[.int .i64 5, .int .u32 (p.toNat : Int), .int .u32 (m.toNat : Int), .bool neg, .int .i64 mi, .int .i64 ma, .slice ao n cap]] w (.int .i64 (ndE ⟨5, (p, m), neg, mi, ma, .slice ao n cap⟩ n)) := by
  unfold Gives
  by_cases hp : p = 0#32
  · have bp := z_yes hp
    by_cases hm : m = 0#32
    · have bm := z_yes hm
      rcases neg with _ | _
      · by_cases hn : n = 1
        · subst hn
          by_cases h1 : mi < 0
          · have hR : ndE ⟨5, (p, m), false, mi, ma, .slice ao 1 cap⟩ 1 = 2 := ndE_bad (by first | (simp [argB, hp, hm, h1]; done) | (simp [argB, hp, hm, h1]; omega))
            rw [hR]; clear hR hp hm
            go_enter Tryd.func70, Tryd.ntmps70
            go_wp2_with (go_at_call 86; with_reducible refine Gives.then (rvalid_any p m _) ?_; intro w1 hb; have hw := chain (B := w.heap.size) (a := w) (by go_grown) (by go_size) hb; clear hb)
            go_returns
            exact ⟨rfl, by first | assumption | go_grown⟩
          · by_cases h2 : 32 < mi
            · have hR : ndE ⟨5, (p, m), false, mi, ma, .slice ao 1 cap⟩ 1 = 2 := ndE_bad (by first | (simp [argB, hp, hm, h1, h2]; done) | (simp [argB, hp, hm, h1, h2]; omega))
              rw [hR]; clear hR hp hm
              go_enter Tryd.func70, Tryd.ntmps70
              go_wp2_with (go_at_call 86; with_reducible refine Gives.then (rvalid_any p m _) ?_; intro w1 hb; have hw := chain (B := w.heap.size) (a := w) (by go_grown) (by go_size) hb; clear hb)
              go_returns
              exact ⟨rfl, by first | assumption | go_grown⟩
            · by_cases h3 : ma = -1
              · subst h3
                rcases hv : vd (p, m) with _ | _
                · have hR : ndE ⟨5, (p, m), false, mi, -1, .slice ao 1 cap⟩ 1 = 14 := ndE_fin (by first | (simp [argB, hp, hm, h1, h2]; done) | (simp [argB, hp, hm, h1, h2]; omega)) false hv
                  rw [hR]; clear hR hp hm
                  go_enter Tryd.func70, Tryd.ntmps70
                  go_wp2_with (go_at_call 86; with_reducible refine Gives.then (rvalid_any p m _) ?_; intro w1 hb; have hw := chain (B := w.heap.size) (a := w) (by go_grown) (by go_size) hb; clear hb)
                  go_returns
                  exact ⟨rfl, by first | assumption | go_grown⟩
                · have hR : ndE ⟨5, (p, m), false, mi, -1, .slice ao 1 cap⟩ 1 = 0 := ndE_fin (by first | (simp [argB, hp, hm, h1, h2]; done) | (simp [argB, hp, hm, h1, h2]; omega)) true hv
                  rw [hR]; clear hR hp hm
                  go_enter Tryd.func70, Tryd.ntmps70
                  go_wp2_with (go_at_call 86; with_reducible refine Gives.then (rvalid_any p m _) ?_; intro w1 hb; have hw := chain (B := w.heap.size) (a := w) (by go_grown) (by go_size) hb; clear hb)
                  go_returns
                  exact ⟨rfl, by first | assumption | go_grown⟩
              · have b3 : (ma == -1) = false := by simpa using h3
                by_cases h4 : ma < mi
                · have hR : ndE ⟨5, (p, m), false, mi, ma, .slice ao 1 cap⟩ 1 = 2 := ndE_bad (by first | (simp [argB, hp, hm, h1, h2, h3, h4]; done) | (simp [argB, hp, hm, h1, h2, h3, h4]; omega))
                  rw [hR]; clear hR hp hm
                  go_enter Tryd.func70, Tryd.ntmps70
                  go_wp2_with (go_at_call 86; with_reducible refine Gives.then (rvalid_any p m _) ?_; intro w1 hb; have hw := chain (B := w.heap.size) (a := w) (by go_grown) (by go_size) hb; clear hb)
                  go_returns
                  exact ⟨rfl, by first | assumption | go_grown⟩
                · by_cases h5 : 32 < ma
                  · have hR : ndE ⟨5, (p, m), false, mi, ma, .slice ao 1 cap⟩ 1 = 2 := ndE_bad (by first | (simp [argB, hp, hm, h1, h2, h3, h4, h5]; done) | (simp [argB, hp, hm, h1, h2, h3, h4, h5]; omega))
                    rw [hR]; clear hR hp hm
                    go_enter Tryd.func70, Tryd.ntmps70
                    go_wp2_with (go_at_call 86; with_reducible refine Gives.then (rvalid_any p m _) ?_; intro w1 hb; have hw := chain (B := w.heap.size) (a := w) (by go_grown) (by go_size) hb; clear hb)
                    go_returns
                    exact ⟨rfl, by first | assumption | go_grown⟩
                  · rcases hv : vd (p, m) with _ | _
                    · have hR : ndE ⟨5, (p, m), false, mi, ma, .slice ao 1 cap⟩ 1 = 14 := ndE_fin (by first | (simp [argB, hp, hm, h1, h2, h3, h4, h5]; done) | (simp [argB, hp, hm, h1, h2, h3, h4, h5]; omega)) false hv
                      rw [hR]; clear hR hp hm
                      go_enter Tryd.func70, Tryd.ntmps70
                      go_wp2_with (go_at_call 86; with_reducible refine Gives.then (rvalid_any p m _) ?_; intro w1 hb; have hw := chain (B := w.heap.size) (a := w) (by go_grown) (by go_size) hb; clear hb)
                      go_returns
                      exact ⟨rfl, by first | assumption | go_grown⟩
                    · have hR : ndE ⟨5, (p, m), false, mi, ma, .slice ao 1 cap⟩ 1 = 0 := ndE_fin (by first | (simp [argB, hp, hm, h1, h2, h3, h4, h5]; done) | (simp [argB, hp, hm, h1, h2, h3, h4, h5]; omega)) true hv
                      rw [hR]; clear hR hp hm
                      go_enter Tryd.func70, Tryd.ntmps70
                      go_wp2_with (go_at_call 86; with_reducible refine Gives.then (rvalid_any p m _) ?_; intro w1 hb; have hw := chain (B := w.heap.size) (a := w) (by go_grown) (by go_size) hb; clear hb)
                      go_returns
                      exact ⟨rfl, by first | assumption | go_grown⟩
        · have bn : ((n : Int) == 1) = false := by rw [beq_eq_false_iff_ne]; omega
          have hR : ndE ⟨5, (p, m), false, mi, ma, .slice ao n cap⟩ n = 2 := ndE_bad (by first | (simp [argB, hp, hm, hn]; done) | (simp [argB, hp, hm, hn]; omega))
          rw [hR]; clear hR hp hm
          go_enter Tryd.func70, Tryd.ntmps70
          go_wp2_with (go_at_call 86; with_reducible refine Gives.then (rvalid_any p m _) ?_; intro w1 hb; have hw := chain (B := w.heap.size) (a := w) (by go_grown) (by go_size) hb; clear hb)
          go_returns
          exact ⟨rfl, by first | assumption | go_grown⟩
      · have hR : ndE ⟨5, (p, m), true, mi, ma, .slice ao n cap⟩ n = 2 := ndE_bad (by first | (simp [argB, hp, hm]; done) | (simp [argB, hp, hm]; omega))
        rw [hR]; clear hR hp hm
        go_enter Tryd.func70, Tryd.ntmps70
        go_wp2_with (go_at_call 86; with_reducible refine Gives.then (rvalid_any p m _) ?_; intro w1 hb; have hw := chain (B := w.heap.size) (a := w) (by go_grown) (by go_size) hb; clear hb)
        go_returns
        exact ⟨rfl, by first | assumption | go_grown⟩
    · have bm := z_no hm
      have hR : ndE ⟨5, (p, m), neg, mi, ma, .slice ao n cap⟩ n = 2 := ndE_bad (by first | (simp [argB, hp, hm]; done) | (simp [argB, hp, hm]; omega))
      rw [hR]; clear hR hp hm
      go_enter Tryd.func70, Tryd.ntmps70
      go_wp2_with (go_at_call 86; with_reducible refine Gives.then (rvalid_any p m _) ?_; intro w1 hb; have hw := chain (B := w.heap.size) (a := w) (by go_grown) (by go_size) hb; clear hb)
      go_returns
      exact ⟨rfl, by first | assumption | go_grown⟩
  · have bp := z_no hp
    have hR : ndE ⟨5, (p, m), neg, mi, ma, .slice ao n cap⟩ n = 2 := ndE_bad (by first | (simp [argB, hp]; done) | (simp [argB, hp]; omega))
    rw [hR]; clear hR hp
    go_enter Tryd.func70, Tryd.ntmps70
    go_wp2_with (go_at_call 86; with_reducible refine Gives.then (rvalid_any p m _) ?_; intro w1 hb; have hw := chain (B := w.heap.size) (a := w) (by go_grown) (by go_size) hb; clear hb)
    go_returns
    exact ⟨rfl, by first | assumption | go_grown⟩
set_option maxHeartbeats 8000000 in
theorem rnode_6 (p m : BitVec 32) (neg : Bool) (mi ma : Int) (ao : Option Addr) (n cap : Nat) (w : World) (l1 : n ≤ 9223372036854775807) : Gives 70 #[.agg #[.int .i64 6, .int .u32 (p.toNat : Int), .int .u32 (m.toNat : Int), .bool neg, .int .i64 mi, .int .i64 ma, .slice ao n cap]] w (.int .i64 (ndE ⟨6, (p, m), neg, mi, ma, .slice ao n cap⟩ n)) := by
  unfold Gives
  by_cases hp : p = 0#32
  · have bp := z_yes hp
    by_cases hm : m = 0#32
    · have bm := z_yes hm
      rcases neg with _ | _
      · by_cases hn : n = 0
        · subst hn
          by_cases hmi : mi = 0
          · subst hmi
            by_cases hma : ma = 0
            · subst hma
              rcases hv : vd (p, m) with _ | _
              · have hR : ndE ⟨6, (p, m), false, 0, 0, .slice ao 0 cap⟩ 0 = 14 := ndE_fin (by first | (simp [argB, hp, hm]; done) | (simp [argB, hp, hm]; omega)) false hv
                rw [hR]; clear hR hp hm
                go_enter Tryd.func70, Tryd.ntmps70
                go_wp2_with (go_at_call 86; with_reducible refine Gives.then (rvalid_any p m _) ?_; intro w1 hb; have hw := chain (B := w.heap.size) (a := w) (by go_grown) (by go_size) hb; clear hb)
                go_returns
                exact ⟨rfl, by first | assumption | go_grown⟩
              · have hR : ndE ⟨6, (p, m), false, 0, 0, .slice ao 0 cap⟩ 0 = 0 := ndE_fin (by first | (simp [argB, hp, hm]; done) | (simp [argB, hp, hm]; omega)) true hv
                rw [hR]; clear hR hp hm
                go_enter Tryd.func70, Tryd.ntmps70
                go_wp2_with (go_at_call 86; with_reducible refine Gives.then (rvalid_any p m _) ?_; intro w1 hb; have hw := chain (B := w.heap.size) (a := w) (by go_grown) (by go_size) hb; clear hb)
                go_returns
                exact ⟨rfl, by first | assumption | go_grown⟩
            · have bma := i_no hma
              have hR : ndE ⟨6, (p, m), false, 0, ma, .slice ao 0 cap⟩ 0 = 2 := ndE_bad (by first | (simp [argB, hp, hm, hma]; done) | (simp [argB, hp, hm, hma]; omega))
              rw [hR]; clear hR hp hm
              go_enter Tryd.func70, Tryd.ntmps70
              go_wp2_with (go_at_call 86; with_reducible refine Gives.then (rvalid_any p m _) ?_; intro w1 hb; have hw := chain (B := w.heap.size) (a := w) (by go_grown) (by go_size) hb; clear hb)
              go_returns
              exact ⟨rfl, by first | assumption | go_grown⟩
          · have bmi := i_no hmi
            have hR : ndE ⟨6, (p, m), false, mi, ma, .slice ao 0 cap⟩ 0 = 2 := ndE_bad (by first | (simp [argB, hp, hm, hmi]; done) | (simp [argB, hp, hm, hmi]; omega))
            rw [hR]; clear hR hp hm
            go_enter Tryd.func70, Tryd.ntmps70
            go_wp2_with (go_at_call 86; with_reducible refine Gives.then (rvalid_any p m _) ?_; intro w1 hb; have hw := chain (B := w.heap.size) (a := w) (by go_grown) (by go_size) hb; clear hb)
            go_returns
            exact ⟨rfl, by first | assumption | go_grown⟩
        · have bn : (0 : Int) < (n : Int) := by omega
          have bn2 : 0 < n := by omega
          have hR : ndE ⟨6, (p, m), false, mi, ma, .slice ao n cap⟩ n = 2 := ndE_bad (by first | (simp [argB, hp, hm, hn]; done) | (simp [argB, hp, hm, hn]; omega))
          rw [hR]; clear hR hp hm
          go_enter Tryd.func70, Tryd.ntmps70
          go_wp2_with (go_at_call 86; with_reducible refine Gives.then (rvalid_any p m _) ?_; intro w1 hb; have hw := chain (B := w.heap.size) (a := w) (by go_grown) (by go_size) hb; clear hb)
          go_returns
          exact ⟨rfl, by first | assumption | go_grown⟩
      · have hR : ndE ⟨6, (p, m), true, mi, ma, .slice ao n cap⟩ n = 2 := ndE_bad (by first | (simp [argB, hp, hm]; done) | (simp [argB, hp, hm]; omega))
        rw [hR]; clear hR hp hm
        go_enter Tryd.func70, Tryd.ntmps70
        go_wp2_with (go_at_call 86; with_reducible refine Gives.then (rvalid_any p m _) ?_; intro w1 hb; have hw := chain (B := w.heap.size) (a := w) (by go_grown) (by go_size) hb; clear hb)
        go_returns
        exact ⟨rfl, by first | assumption | go_grown⟩
    · have bm := z_no hm
      have hR : ndE ⟨6, (p, m), neg, mi, ma, .slice ao n cap⟩ n = 2 := ndE_bad (by first | (simp [argB, hp, hm]; done) | (simp [argB, hp, hm]; omega))
      rw [hR]; clear hR hp hm
      go_enter Tryd.func70, Tryd.ntmps70
      go_wp2_with (go_at_call 86; with_reducible refine Gives.then (rvalid_any p m _) ?_; intro w1 hb; have hw := chain (B := w.heap.size) (a := w) (by go_grown) (by go_size) hb; clear hb)
      go_returns
      exact ⟨rfl, by first | assumption | go_grown⟩
  · have bp := z_no hp
    have hR : ndE ⟨6, (p, m), neg, mi, ma, .slice ao n cap⟩ n = 2 := ndE_bad (by first | (simp [argB, hp]; done) | (simp [argB, hp]; omega))
    rw [hR]; clear hR hp
    go_enter Tryd.func70, Tryd.ntmps70
    go_wp2_with (go_at_call 86; with_reducible refine Gives.then (rvalid_any p m _) ?_; intro w1 hb; have hw := chain (B := w.heap.size) (a := w) (by go_grown) (by go_size) hb; clear hb)
    go_returns
    exact ⟨rfl, by first | assumption | go_grown⟩
end Go.Proofs.YtmobilppakjihaaDoor

/-
  The specification's error of a node alone (node).
-/
namespace Go.Proofs.YtmobilppakjihaaDoor
open Go.RowKit Go.Sort
attribute [local go_sem ↓] snd_eql snd_neq
set_option maxHeartbeats 4000000 in
theorem rnode_any (d : Nd) (ao : Option Addr) (n cap : Nat) (w : World) (hsl : d.sl = .slice ao n cap) (hn : n ≤ maxLen) : Gives 70 #[ndV d] w (.int .i64 (ndE d n)) := by
  have l1 : n ≤ 9223372036854775807 := hn
  clear hn
  obtain ⟨kind, ⟨p, m⟩, neg, mi, ma, sl⟩ := d
  simp only at hsl
  subst hsl
  unfold ndV
  simp only
  by_cases hk0 : kind = 0
  · subst hk0; exact rnode_0 p m neg mi ma ao n cap w l1
  by_cases hk1 : kind = 1
  · subst hk1; exact rnode_1 p m neg mi ma ao n cap w l1
  by_cases hk2 : kind = 2
  · subst hk2; exact rnode_2 p m neg mi ma ao n cap w l1
  by_cases hk3 : kind = 3
  · subst hk3; exact rnode_3 p m neg mi ma ao n cap w l1
  by_cases hk4 : kind = 4
  · subst hk4; exact rnode_4 p m neg mi ma ao n cap w l1
  by_cases hk5 : kind = 5
  · subst hk5; exact rnode_5 p m neg mi ma ao n cap w l1
  by_cases hk6 : kind = 6
  · subst hk6; exact rnode_6 p m neg mi ma ao n cap w l1
  unfold Gives
  by_cases hlt : kind < 0
  · have hR : ndE ⟨kind, (p, m), neg, mi, ma, .slice ao n cap⟩ n = 2 := ndE_bad (by simp [argB, hlt])
    rw [hR]; clear hR hk0 hk1 hk2 hk3 hk4 hk5 hk6
    go_enter Tryd.func70, Tryd.ntmps70
    go_wp2_with (go_at_call 86; with_reducible refine Gives.then (rvalid_any p m _) ?_; intro w1 hb; have hw := chain (B := w.heap.size) (a := w) (by go_grown) (by go_size) hb; clear hb)
    go_returns
    exact ⟨rfl, by first | assumption | go_grown⟩
  · have hgt : 6 < kind := by omega
    have hR : ndE ⟨kind, (p, m), neg, mi, ma, .slice ao n cap⟩ n = 2 := ndE_bad (by simp [argB, hgt])
    rw [hR]; clear hR hk0 hk1 hk2 hk3 hk4 hk5 hk6
    go_enter Tryd.func70, Tryd.ntmps70
    go_wp2_with (go_at_call 86; with_reducible refine Gives.then (rvalid_any p m _) ?_; intro w1 hb; have hw := chain (B := w.heap.size) (a := w) (by go_grown) (by go_size) hb; clear hb)
    go_returns
    exact ⟨rfl, by first | assumption | go_grown⟩
end Go.Proofs.YtmobilppakjihaaDoor
