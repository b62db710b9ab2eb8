/-
  Lemmas that the theorem of this claim rests on: 3 texts, one behind the other.
-/
import Derived.Test.YtmobilppakjihaaDoorM2
set_option linter.unusedSimpArgs false
set_option linter.unusedVariables false
/-
  Valid sounds and words; which sounds satisfy a condition; how often a pattern may be repeated; places.
-/
namespace Go.Proofs.YtmobilppakjihaaDoor
open Go.RowKit Go.Sort
attribute [local go_sem] bv_and bv_or ofInt32_nat
set_option maxHeartbeats 1000000 in
theorem pvalid_any (p m : BitVec 32) (w : World) : Gives 69 #[sn p.toNat m.toNat] w (.bool (vd (p, m))) := by
  unfold Gives
  generalize hd : vd (p, m) = D
  have hv := vd_iff p m
  rw [hd] at hv
  have HV := Lib.hid hv; clear hv hd
  by_cases h1 : p.toNat &&& m.toNat = 0
  · go_enter Tryd.func69, Tryd.ntmps69
    go_wp2
    go_returns
    refine ⟨ret_bool ?_, by go_grown⟩
    rw [Bool.eq_iff_iff, HV.out]; simp [h1]; omega
  · go_enter Tryd.func69, Tryd.ntmps69
    go_wp2
    go_returns
    refine ⟨ret_bool ?_, by go_grown⟩
    rw [Bool.eq_iff_iff, HV.out]; simp [h1]
set_option maxHeartbeats 2000000 in
theorem pcheckWord_any (ss : List Snd) (v : Value) (w : World) (h : Wd w v ss) : Gives 71 #[v] w (.int .i64 (chk ss)) := by
  unfold Gives
  obtain ⟨ao, cap, rfl, c1, m1, H1⟩ := h.open
  have l1 := maxLen_lt (Nat.le_trans c1 m1)
  clear h c1 m1
  generalize hC : chk ss = C
  have HC := Lib.hid hC; have H1 := Lib.hid H1; clear hC
  by_cases hlen : ss.length ≤ 32
  · go_enter Tryd.func71, Tryd.ntmps71
    go_wp2_with fail
    go_loopw [10] (fun i wr => ∃ k : Nat, k ≤ ss.length ∧ i = .int .i64 (k : Int) ∧ (ss.take k).all vd = true ∧ Below w.heap.size w wr ∧ w.heap.size ≤ wr.heap.size) (fun i _ => ss.length - (intOf i).toNat)
    case atStart => exact ⟨0, by omega, rfl, by simp, by go_grown, by go_size⟩
    case round =>
      obtain ⟨k, hk, rfl, hp, hw, hsz⟩ := hrel
      have HP := Lib.hid hp; clear hp
      by_cases hlt : k < ss.length
      · obtain ⟨b, off, rfl, lb, d0, d1⟩ := H1.out k hlt
        have d0 := (hw.cell (p := ⟨b, off + k * 2, none⟩) lb).trans d0
        have d1 := (hw.cell (p := ⟨b, off + k * 2 + 1, none⟩) lb).trans d1
        clear H1
        have hbad := fun hv => chk_bad hlen hlt hv
        have hgood := fun hv => vd_more hlt hv HP.out
        generalize hx : ss[k] = x at *
        obtain ⟨x1, x2⟩ := x
        rcases hv : vd (x1, x2) with _ | _
        · have HB := Lib.hid (hbad hv); have HV := Lib.hid hv; clear hbad hgood hv hx
          go_wp2_with fail
          go_at_call 69
          with_reducible refine Gives.then (Gives.eq (pvalid_any x1 x2 _) rfl (by rw [HV.out])) ?_
          intro w1 hb
          go_wp2_with fail
          go_returns
          exact ⟨ret_num (HB.out.symm.trans HC.out), hw.trans ((by go_grown : Below wr.heap.size wr _).trans (hb.mono (by go_size)) |>.mono hsz)⟩
        · have HB := Lib.hid (hgood hv); have HV := Lib.hid hv; clear hbad hgood hv hx
          go_wp2_with fail
          go_at_call 69
          with_reducible refine Gives.then (Gives.eq (pvalid_any x1 x2 _) rfl (by rw [HV.out])) ?_
          intro w1 hb
          go_wp2_with fail
          have hw2 : Below w.heap.size w w1 := hw.trans ((by go_grown : Below wr.heap.size wr _).trans (hb.mono (by go_size)) |>.mono hsz)
          go_roundw
          case rel => exact ⟨k + 1, by omega, by go_num, HB.out, hw2, hw2.size⟩
          case measure => simp [intOf]; omega
      · clear H1
        go_wp2_with fail
        go_returns
        exact ⟨ret_num ((chk_good hlen hlt HP.out).symm.trans HC.out), hw⟩
  · have hfin := (chk_long hlen).symm.trans HC.out
    subst hfin
    clear H1
    go_enter Tryd.func71, Tryd.ntmps71
    go_wp2_with fail
    go_returns
    exact ⟨rfl, by go_grown⟩

attribute [local go_sem ↓] snd_eql snd_neq
theorem bv_eq_dec (a b : BitVec 32) : ((a.toNat : Int) == (b.toNat : Int)) = decide (a = b) := by
  rw [Bool.eq_iff_iff, beq_iff_eq, decide_eq_true_eq, Int.natCast_inj, BitVec.toNat_inj]
set_option maxHeartbeats 1000000 in
theorem psat_any (s c : Snd) (w : World) : Gives 105 #[sdV s, sdV c] w (.bool (satB s c)) := by
  unfold Gives
  obtain ⟨s1, s2⟩ := s
  obtain ⟨c1, c2⟩ := c
  have hb : satB (s1, s2) (c1, c2) = (((c1.toNat : Int) == ((s1 &&& c1).toNat : Int)) && ((c2.toNat : Int) == ((s2 &&& c2).toNat : Int))) := by
    rw [bv_eq_dec, bv_eq_dec]; unfold satB; simp only [eq_comm]
  have HB := Lib.hid hb; clear hb
  unfold sdV
  dsimp only
  go_enter Tryd.func105, Tryd.ntmps105
  go_wp2_with fail
  go_returns
  refine ⟨ret_bool ?_, by go_grown⟩
  rw [HB.out]; simp
end Go.Proofs.YtmobilppakjihaaDoor

/-
  What is wrong with a node: checkNode.
-/
namespace Go.Proofs.YtmobilppakjihaaDoor
open Go.RowKit Go.Sort
attribute [local go_sem ↓] snd_eql snd_neq
/-- Whether the numbers of repetitions are allowed. -/
def tmB (a b : Int) : Bool := decide (0 ≤ a) && decide (a ≤ 32) && (decide (b = -1) || (decide (a ≤ b) && decide (b ≤ 32)))
set_option maxHeartbeats 1000000 in
theorem validTimes_any (a b : Int) (w : World) : Calls Tryd.prog 68 #[.int .i64 a, .int .i64 b] w fun e w' => e = .returned (.bool (tmB a b)) ∧ w = w' := by
  by_cases h1 : 0 ≤ a
  · by_cases h2 : a ≤ 32
    · by_cases h3 : b = -1
      · have hf : tmB a b = true := by simp [tmB, h1, h2, h3]
        rw [hf]
        subst h3
        clear hf
        go_enter Tryd.func68, Tryd.ntmps68
        go_wp2
        go_returns
        exact ⟨by first | rfl | simp, rfl⟩
      · by_cases h4 : a ≤ b
        · by_cases h5 : b ≤ 32
          · have hf : tmB a b = true := by simp [tmB, h1, h2, h4, h5]
            rw [hf]
            have h3' : (b == -1) = false := by simpa using h3
            clear hf h3
            go_enter Tryd.func68, Tryd.ntmps68
            go_wp2
            go_returns
            exact ⟨by first | rfl | simp, rfl⟩
          · have hf : tmB a b = false := by simp [tmB, h3, h5]
            rw [hf]
            have h3' : (b == -1) = false := by simpa using h3
            clear hf h3
            go_enter Tryd.func68, Tryd.ntmps68
            go_wp2
            go_returns
            exact ⟨by first | rfl | simp, rfl⟩
        · have hf : tmB a b = false := by simp [tmB, h3, h4]
          rw [hf]
          have h3' : (b == -1) = false := by simpa using h3
          clear hf h3
          go_enter Tryd.func68, Tryd.ntmps68
          go_wp2
          go_returns
          exact ⟨by first | rfl | simp, rfl⟩
    · have hf : tmB a b = false := by simp [tmB, h2]
      rw [hf]
      clear hf
      go_enter Tryd.func68, Tryd.ntmps68
      go_wp2
      go_returns
      exact ⟨by first | rfl | simp, rfl⟩
  · have hf : tmB a b = false := by simp [tmB, h1]
    rw [hf]
    clear hf
    go_enter Tryd.func68, Tryd.ntmps68
    go_wp2
    go_returns
    exact ⟨by first | rfl | simp, rfl⟩
theorem z_yes {p : BitVec 32} (h : p = 0#32) : ((p.toNat : Int) == 0) = true := by subst h; rfl
theorem z_no {p : BitVec 32} (h : ¬ p = 0#32) : ((p.toNat : Int) == 0) = false := by
  rw [nat_beq0, beq_eq_false_iff_ne]; exact h
theorem i_no {a b : Int} (h : ¬ a = b) : (a == b) = false := by simpa using h
theorem ndE_bad {d : Nd} {n : Nat} (h : argB d n = true) : ndE d n = 2 := by unfold ndE; rw [if_pos h]
theorem ndE_fin {d : Nd} {n : Nat} (h : argB d n = false) (r : Bool) (hv : vd d.is = r) : ndE d n = if r = true then 0 else 14 := by unfold ndE; rw [if_neg (by simp [h]), hv]
theorem arg5 (p m : BitVec 32) (neg : Bool) (mi ma : Int) (sl : Value) (n : Nat) : argB ⟨5, (p, m), neg, mi, ma, sl⟩ n = (decide ((p, m) ≠ (0#32, 0#32)) || neg || decide (n ≠ 1) || !tmB mi ma) := by
  have h : (decide (mi < 0) || decide (32 < mi) || (decide (ma ≠ -1) && (decide (ma < mi) || decide (32 < ma)))) = !tmB mi ma := by
    rw [Bool.eq_iff_iff]; simp [tmB] <;> omega
  rw [← h]
  unfold argB
  simp only
  generalize decide (mi < 0) = A
  generalize decide (32 < mi) = B
  generalize (decide (ma ≠ -1) && (decide (ma < mi) || decide (32 < ma))) = C
  generalize decide ((p, m) ≠ (0#32, 0#32)) = Z
  generalize decide (n ≠ 1) = N
  cases A <;> cases B <;> cases C <;> cases Z <;> cases N <;> cases neg <;> rfl
end Go.Proofs.YtmobilppakjihaaDoor

/-
  What is wrong with a node of some kinds.
-/
namespace Go.Proofs.YtmobilppakjihaaDoor
open Go.RowKit Go.Sort
attribute [local go_sem ↓] snd_eql snd_neq
set_option maxHeartbeats 4000000 in
theorem checkNode_0 (p m : BitVec 32) (neg : Bool) (mi ma : Int) (ao : Option Addr) (n cap : Nat) (w : World) (l1 : n ≤ 9223372036854775807) : Gives 46 #[.agg #[.int .i64 0, .int .u32 (p.toNat : Int), .int .u32 (m.toNat : Int), .bool neg, .int .i64 mi, .int .i64 ma, .slice ao n cap]] w (.int .i64 (ndE ⟨0, (p, m), neg, mi, ma, .slice ao n cap⟩ n)) := by
  unfold Gives
  by_cases hp : p = 0#32
  · have bp := z_yes hp
    by_cases hm : m = 0#32
    · have bm := z_yes hm
      rcases neg with _ | _
      · by_cases hmi : mi = 0
        · subst hmi
          by_cases hma : ma = 0
          · subst hma
            by_cases hn : n = 0
            · subst hn
              rcases hv : vd (p, m) with _ | _
              · have hR : ndE ⟨0, (p, m), false, 0, 0, .slice ao 0 cap⟩ 0 = 14 := ndE_fin (by simp [argB, hp, hm]) false hv
                rw [hR]; clear hR hp hm
                go_enter Tryd.func46, Tryd.ntmps46
                go_wp2_with (first | (go_at_call 68; refine (validTimes_any _ _ _).mono ?_; rintro e w1 ⟨rfl, rfl⟩) | (go_at_call 69; with_reducible refine Gives.then (pvalid_any p m _) ?_; intro w1 hb; have hw := chain (B := w.heap.size) (a := w) (by go_grown) (by go_size) hb; clear hb))
                go_returns
                exact ⟨rfl, by first | assumption | go_grown⟩
              · have hR : ndE ⟨0, (p, m), false, 0, 0, .slice ao 0 cap⟩ 0 = 0 := ndE_fin (by simp [argB, hp, hm]) true hv
                rw [hR]; clear hR hp hm
                go_enter Tryd.func46, Tryd.ntmps46
                go_wp2_with (first | (go_at_call 68; refine (validTimes_any _ _ _).mono ?_; rintro e w1 ⟨rfl, rfl⟩) | (go_at_call 69; with_reducible refine Gives.then (pvalid_any p m _) ?_; intro w1 hb; have hw := chain (B := w.heap.size) (a := w) (by go_grown) (by go_size) hb; clear hb))
                go_returns
                exact ⟨rfl, by first | assumption | go_grown⟩
            · have bn : ((n : Int) == 0) = false := by rw [beq_eq_false_iff_ne]; omega
              have hR : ndE ⟨0, (p, m), false, 0, 0, .slice ao n cap⟩ n = 2 := ndE_bad (by simp [argB, hp, hm, hn])
              rw [hR]; clear hR hp hm
              go_enter Tryd.func46, Tryd.ntmps46
              go_wp2_with (first | (go_at_call 68; refine (validTimes_any _ _ _).mono ?_; rintro e w1 ⟨rfl, rfl⟩) | (go_at_call 69; with_reducible refine Gives.then (pvalid_any p m _) ?_; intro w1 hb; have hw := chain (B := w.heap.size) (a := w) (by go_grown) (by go_size) hb; clear hb))
              go_returns
              exact ⟨rfl, by first | assumption | go_grown⟩
          · have bma := i_no hma
            have hR : ndE ⟨0, (p, m), false, 0, ma, .slice ao n cap⟩ n = 2 := ndE_bad (by simp [argB, hp, hm, hma])
            rw [hR]; clear hR hp hm
            go_enter Tryd.func46, Tryd.ntmps46
            go_wp2_with (first | (go_at_call 68; refine (validTimes_any _ _ _).mono ?_; rintro e w1 ⟨rfl, rfl⟩) | (go_at_call 69; with_reducible refine Gives.then (pvalid_any p m _) ?_; intro w1 hb; have hw := chain (B := w.heap.size) (a := w) (by go_grown) (by go_size) hb; clear hb))
            go_returns
            exact ⟨rfl, by first | assumption | go_grown⟩
        · have bmi := i_no hmi
          have hR : ndE ⟨0, (p, m), false, mi, ma, .slice ao n cap⟩ n = 2 := ndE_bad (by simp [argB, hp, hm, hmi])
          rw [hR]; clear hR hp hm
          go_enter Tryd.func46, Tryd.ntmps46
          go_wp2_with (first | (go_at_call 68; refine (validTimes_any _ _ _).mono ?_; rintro e w1 ⟨rfl, rfl⟩) | (go_at_call 69; with_reducible refine Gives.then (pvalid_any p m _) ?_; intro w1 hb; have hw := chain (B := w.heap.size) (a := w) (by go_grown) (by go_size) hb; clear hb))
          go_returns
          exact ⟨rfl, by first | assumption | go_grown⟩
      · have hR : ndE ⟨0, (p, m), true, mi, ma, .slice ao n cap⟩ n = 2 := ndE_bad (by simp [argB, hp, hm])
        rw [hR]; clear hR hp hm
        go_enter Tryd.func46, Tryd.ntmps46
        go_wp2_with (first | (go_at_call 68; refine (validTimes_any _ _ _).mono ?_; rintro e w1 ⟨rfl, rfl⟩) | (go_at_call 69; with_reducible refine Gives.then (pvalid_any p m _) ?_; intro w1 hb; have hw := chain (B := w.heap.size) (a := w) (by go_grown) (by go_size) hb; clear hb))
        go_returns
        exact ⟨rfl, by first | assumption | go_grown⟩
    · have bm := z_no hm
      have hR : ndE ⟨0, (p, m), neg, mi, ma, .slice ao n cap⟩ n = 2 := ndE_bad (by simp [argB, hp, hm])
      rw [hR]; clear hR hp hm
      go_enter Tryd.func46, Tryd.ntmps46
      go_wp2_with (first | (go_at_call 68; refine (validTimes_any _ _ _).mono ?_; rintro e w1 ⟨rfl, rfl⟩) | (go_at_call 69; with_reducible refine Gives.then (pvalid_any p m _) ?_; intro w1 hb; have hw := chain (B := w.heap.size) (a := w) (by go_grown) (by go_size) hb; clear hb))
      go_returns
      exact ⟨rfl, by first | assumption | go_grown⟩
  · have bp := z_no hp
    have hR : ndE ⟨0, (p, m), neg, mi, ma, .slice ao n cap⟩ n = 2 := ndE_bad (by simp [argB, hp])
    rw [hR]; clear hR hp
    go_enter Tryd.func46, Tryd.ntmps46
    go_wp2_with (first | (go_at_call 68; refine (validTimes_any _ _ _).mono ?_; rintro e w1 ⟨rfl, rfl⟩) | (go_at_call 69; with_reducible refine Gives.then (pvalid_any p m _) ?_; intro w1 hb; have hw := chain (B := w.heap.size) (a := w) (by go_grown) (by go_size) hb; clear hb))
    go_returns
    exact ⟨rfl, by first | assumption | go_grown⟩
set_option maxHeartbeats 4000000 in
theorem checkNode_1 (p m : BitVec 32) (neg : Bool) (mi ma : Int) (ao : Option Addr) (n cap : Nat) (w : World) (l1 : n ≤ 9223372036854775807) : Gives 46 #[.agg #[.int .i64 1, .int .u32 (p.toNat : Int), .int .u32 (m.toNat : Int), .bool neg, .int .i64 mi, .int .i64 ma, .slice ao n cap]] w (.int .i64 (ndE ⟨1, (p, m), neg, mi, ma, .slice ao n cap⟩ n)) := by
  unfold Gives
  by_cases hmi : mi = 0
  · subst hmi
    by_cases hma : ma = 0
    · subst hma
      by_cases hn : n = 0
      · subst hn
        rcases hv : vd (p, m) with _ | _
        · have hR : ndE ⟨1, (p, m), neg, 0, 0, .slice ao 0 cap⟩ 0 = 14 := ndE_fin (by simp [argB]) false hv
          rw [hR]; clear hR
          go_enter Tryd.func46, Tryd.ntmps46
          go_wp2_with (first | (go_at_call 68; refine (validTimes_any _ _ _).mono ?_; rintro e w1 ⟨rfl, rfl⟩) | (go_at_call 69; with_reducible refine Gives.then (pvalid_any p m _) ?_; intro w1 hb; have hw := chain (B := w.heap.size) (a := w) (by go_grown) (by go_size) hb; clear hb))
          go_returns
          exact ⟨rfl, by first | assumption | go_grown⟩
        · have hR : ndE ⟨1, (p, m), neg, 0, 0, .slice ao 0 cap⟩ 0 = 0 := ndE_fin (by simp [argB]) true hv
          rw [hR]; clear hR
          go_enter Tryd.func46, Tryd.ntmps46
          go_wp2_with (first | (go_at_call 68; refine (validTimes_any _ _ _).mono ?_; rintro e w1 ⟨rfl, rfl⟩) | (go_at_call 69; with_reducible refine Gives.then (pvalid_any p m _) ?_; intro w1 hb; have hw := chain (B := w.heap.size) (a := w) (by go_grown) (by go_size) hb; clear hb))
          go_returns
          exact ⟨rfl, by first | assumption | go_grown⟩
      · have bn : ((n : Int) == 0) = false := by rw [beq_eq_false_iff_ne]; omega
        have hR : ndE ⟨1, (p, m), neg, 0, 0, .slice ao n cap⟩ n = 2 := ndE_bad (by simp [argB, hn])
        rw [hR]; clear hR
        go_enter Tryd.func46, Tryd.ntmps46
        go_wp2_with (first | (go_at_call 68; refine (validTimes_any _ _ _).mono ?_; rintro e w1 ⟨rfl, rfl⟩) | (go_at_call 69; with_reducible refine Gives.then (pvalid_any p m _) ?_; intro w1 hb; have hw := chain (B := w.heap.size) (a := w) (by go_grown) (by go_size) hb; clear hb))
        go_returns
        exact ⟨rfl, by first | assumption | go_grown⟩
    · have bma := i_no hma
      have hR : ndE ⟨1, (p, m), neg, 0, ma, .slice ao n cap⟩ n = 2 := ndE_bad (by simp [argB, hma])
      rw [hR]; clear hR
      go_enter Tryd.func46, Tryd.ntmps46
      go_wp2_with (first | (go_at_call 68; refine (validTimes_any _ _ _).mono ?_; rintro e w1 ⟨rfl, rfl⟩) | (go_at_call 69; with_reducible refine Gives.then (pvalid_any p m _) ?_; intro w1 hb; have hw := chain (B := w.heap.size) (a := w) (by go_grown) (by go_size) hb; clear hb))
      go_returns
      exact ⟨rfl, by first | assumption | go_grown⟩
  · have bmi := i_no hmi
    have hR : ndE ⟨1, (p, m), neg, mi, ma, .slice ao n cap⟩ n = 2 := ndE_bad (by simp [argB, hmi])
    rw [hR]; clear hR
    go_enter Tryd.func46, Tryd.ntmps46
    go_wp2_with (first | (go_at_call 68; refine (validTimes_any _ _ _).mono ?_; rintro e w1 ⟨rfl, rfl⟩) | (go_at_call 69; with_reducible refine Gives.then (pvalid_any p m _) ?_; intro w1 hb; have hw := chain (B := w.heap.size) (a := w) (by go_grown) (by go_size) hb; clear hb))
    go_returns
    exact ⟨rfl, by first | assumption | go_grown⟩
set_option maxHeartbeats 4000000 in
theorem checkNode_6 (p m : BitVec 32) (neg : Bool) (mi ma : Int) (ao : Option Addr) (n cap : Nat) (w : World) (l1 : n ≤ 9223372036854775807) : Gives 46 #[.agg #[.int .i64 6, .int .u32 (p.toNat : Int), .int .u32 (m.toNat : Int), .bool neg, .int .i64 mi, .int .i64 ma, .slice ao n cap]] w (.int .i64 (ndE ⟨6, (p, m), neg, mi, ma, .slice ao n cap⟩ n)) := by
  unfold Gives
  by_cases hp : p = 0#32
  · have bp := z_yes hp
    by_cases hm : m = 0#32
    · have bm := z_yes hm
      rcases neg with _ | _
      · by_cases hmi : mi = 0
        · subst hmi
          by_cases hma : ma = 0
          · subst hma
            by_cases hn : n = 0
            · subst hn
              rcases hv : vd (p, m) with _ | _
              · have hR : ndE ⟨6, (p, m), false, 0, 0, .slice ao 0 cap⟩ 0 = 14 := ndE_fin (by simp [argB, hp, hm]) false hv
                rw [hR]; clear hR hp hm
                go_enter Tryd.func46, Tryd.ntmps46
                go_wp2_with (first | (go_at_call 68; refine (validTimes_any _ _ _).mono ?_; rintro e w1 ⟨rfl, rfl⟩) | (go_at_call 69; with_reducible refine Gives.then (pvalid_any p m _) ?_; intro w1 hb; have hw := chain (B := w.heap.size) (a := w) (by go_grown) (by go_size) hb; clear hb))
                go_returns
                exact ⟨rfl, by first | assumption | go_grown⟩
              · have hR : ndE ⟨6, (p, m), false, 0, 0, .slice ao 0 cap⟩ 0 = 0 := ndE_fin (by simp [argB, hp, hm]) true hv
                rw [hR]; clear hR hp hm
                go_enter Tryd.func46, Tryd.ntmps46
                go_wp2_with (first | (go_at_call 68; refine (validTimes_any _ _ _).mono ?_; rintro e w1 ⟨rfl, rfl⟩) | (go_at_call 69; with_reducible refine Gives.then (pvalid_any p m _) ?_; intro w1 hb; have hw := chain (B := w.heap.size) (a := w) (by go_grown) (by go_size) hb; clear hb))
                go_returns
                exact ⟨rfl, by first | assumption | go_grown⟩
            · have bn : ((n : Int) == 0) = false := by rw [beq_eq_false_iff_ne]; omega
              have hR : ndE ⟨6, (p, m), false, 0, 0, .slice ao n cap⟩ n = 2 := ndE_bad (by simp [argB, hp, hm, hn])
              rw [hR]; clear hR hp hm
              go_enter Tryd.func46, Tryd.ntmps46
              go_wp2_with (first | (go_at_call 68; refine (validTimes_any _ _ _).mono ?_; rintro e w1 ⟨rfl, rfl⟩) | (go_at_call 69; with_reducible refine Gives.then (pvalid_any p m _) ?_; intro w1 hb; have hw := chain (B := w.heap.size) (a := w) (by go_grown) (by go_size) hb; clear hb))
              go_returns
              exact ⟨rfl, by first | assumption | go_grown⟩
          · have bma := i_no hma
            have hR : ndE ⟨6, (p, m), false, 0, ma, .slice ao n cap⟩ n = 2 := ndE_bad (by simp [argB, hp, hm, hma])
            rw [hR]; clear hR hp hm
            go_enter Tryd.func46, Tryd.ntmps46
            go_wp2_with (first | (go_at_call 68; refine (validTimes_any _ _ _).mono ?_; rintro e w1 ⟨rfl, rfl⟩) | (go_at_call 69; with_reducible refine Gives.then (pvalid_any p m _) ?_; intro w1 hb; have hw := chain (B := w.heap.size) (a := w) (by go_grown) (by go_size) hb; clear hb))
            go_returns
            exact ⟨rfl, by first | assumption | go_grown⟩
        · have bmi := i_no hmi
          have hR : ndE ⟨6, (p, m), false, mi, ma, .slice ao n cap⟩ n = 2 := ndE_bad (by simp [argB, hp, hm, hmi])
          rw [hR]; clear hR hp hm
          go_enter Tryd.func46, Tryd.ntmps46
          go_wp2_with (first | (go_at_call 68; refine (validTimes_any _ _ _).mono ?_; rintro e w1 ⟨rfl, rfl⟩) | (go_at_call 69; with_reducible refine Gives.then (pvalid_any p m _) ?_; intro w1 hb; have hw := chain (B := w.heap.size) (a := w) (by go_grown) (by go_size) hb; clear hb))
          go_returns
          exact ⟨rfl, by first | assumption | go_grown⟩
      · have hR : ndE ⟨6, (p, m), true, mi, ma, .slice ao n cap⟩ n = 2 := ndE_bad (by simp [argB, hp, hm])
        rw [hR]; clear hR hp hm
        go_enter Tryd.func46, Tryd.ntmps46
        go_wp2_with (first | (go_at_call 68; refine (validTimes_any _ _ _).mono ?_; rintro e w1 ⟨rfl, rfl⟩) | (go_at_call 69; with_reducible refine Gives.then (pvalid_any p m _) ?_; intro w1 hb; have hw := chain (B := w.heap.size) (a := w) (by go_grown) (by go_size) hb; clear hb))
        go_returns
        exact ⟨rfl, by first | assumption | go_grown⟩
    · have bm := z_no hm
      have hR : ndE ⟨6, (p, m), neg, mi, ma, .slice ao n cap⟩ n = 2 := ndE_bad (by simp [argB, hp, hm])
      rw [hR]; clear hR hp hm
      go_enter Tryd.func46, Tryd.ntmps46
      go_wp2_with (first | (go_at_call 68; refine (validTimes_any _ _ _).mono ?_; rintro e w1 ⟨rfl, rfl⟩) | (go_at_call 69; with_reducible refine Gives.then (pvalid_any p m _) ?_; intro w1 hb; have hw := chain (B := w.heap.size) (a := w) (by go_grown) (by go_size) hb; clear hb))
      go_returns
      exact ⟨rfl, by first | assumption | go_grown⟩
  · have bp := z_no hp
    have hR : ndE ⟨6, (p, m), neg, mi, ma, .slice ao n cap⟩ n = 2 := ndE_bad (by simp [argB, hp])
    rw [hR]; clear hR hp
    go_enter Tryd.func46, Tryd.ntmps46
    go_wp2_with (first | (go_at_call 68; refine (validTimes_any _ _ _).mono ?_; rintro e w1 ⟨rfl, rfl⟩) | (go_at_call 69; with_reducible refine Gives.then (pvalid_any p m _) ?_; intro w1 hb; have hw := chain (B := w.heap.size) (a := w) (by go_grown) (by go_size) hb; clear hb))
    go_returns
    exact ⟨rfl, by first | assumption | go_grown⟩
end Go.Proofs.YtmobilppakjihaaDoor
