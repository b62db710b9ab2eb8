/-
  Valid sounds and words: valid, Check; parts: isPart, slices.Clone.
-/
import Derived.Test.YtfjngkdpembdcaaHd
namespace Go.Proofs.Ytfjngkdpembdcaa
open Go.RowKit Go.Sort
attribute [local go_sem] bv_and bv_or ofInt32_nat
/-- Which sounds are valid. -/
def vd (s : Snd) : Bool := decide (s.1.toNat &&& s.2.toNat = 0) && decide (s.1.toNat ||| s.2.toNat < 16777216)
/-- What Check returns. -/
def chk (ss : List Snd) : Int := if 32 < ss.length then 11 else if ss.all vd then 0 else 14
theorem ret_num {a b : Int} (h : a = b) : Ending.returned (.int .i64 a) = .returned (.int .i64 b) := by rw [h]
theorem vd_iff (p m : BitVec 32) : vd (p, m) = true ↔ p.toNat &&& m.toNat = 0 ∧ p.toNat ||| m.toNat < 16777216 := by simp [vd]
set_option maxHeartbeats 1000000 in
theorem valid_any (p m : BitVec 32) (w : World) : Gives 32 #[sn p.toNat m.toNat] w (.bool (vd (p, m))) := by
  unfold Gives
  generalize hd : vd (p, m) = D
  have hv := vd_iff p m
  rw [hd] at hv
  have HV := Lib.hid hv; clear hv hd
  by_cases h1 : p.toNat &&& m.toNat = 0
  · go_enter Try.func32, Try.ntmps32
    go_wp2
    go_returns
    refine ⟨ret_bool ?_, by go_grown⟩
    rw [Bool.eq_iff_iff, HV.out]; simp [h1]; omega
  · go_enter Try.func32, Try.ntmps32
    go_wp2
    go_returns
    refine ⟨ret_bool ?_, by go_grown⟩
    rw [Bool.eq_iff_iff, HV.out]; simp [h1]
theorem chk_long {ss : List Snd} (h : ¬ ss.length ≤ 32) : chk ss = 11 := by unfold chk; rw [if_pos (by omega)]
theorem chk_bad {ss : List Snd} {k : Nat} (h : ss.length ≤ 32) (hk : k < ss.length) (hv : vd ss[k] = false) : chk ss = 14 := by
  have : ss.all vd = false := by
    rw [Bool.eq_false_iff]; intro ha; rw [List.all_eq_true] at ha
    have := ha _ (List.getElem_mem hk); rw [hv] at this; cases this
  unfold chk; rw [if_neg (by omega), this]; rfl
theorem chk_good {ss : List Snd} {k : Nat} (h : ss.length ≤ 32) (hk : ¬ k < ss.length) (hv : (ss.take k).all vd = true) : chk ss = 0 := by
  rw [List.take_of_length_le (by omega)] at hv
  unfold chk; rw [if_neg (by omega), hv]; rfl
theorem vd_more {ss : List Snd} {k : Nat} (hk : k < ss.length) (h : vd ss[k] = true) (ha : (ss.take k).all vd = true) : (ss.take (k + 1)).all vd = true := by
  rw [List.take_succ_eq_append_getElem hk, List.all_append, ha]; simp [h]
set_option maxHeartbeats 2000000 in
theorem check_any (ss : List Snd) (v : Value) (w : World) (h : Wd w v ss) : Gives 11 #[v] w (.int .i64 (chk ss)) := by
  unfold Gives
  obtain ⟨ao, cap, rfl, c1, m1, H1⟩ := h.open
  have l1 := maxLen_lt (Nat.le_trans c1 m1)
  clear h c1 m1
  generalize hC : chk ss = C
  have HC := Lib.hid hC; have H1 := Lib.hid H1; clear hC
  by_cases hlen : ss.length ≤ 32
  · go_enter Try.func11, Try.ntmps11
    go_wp2_with fail
    go_loopw [10] (fun i wr => ∃ k : Nat, k ≤ ss.length ∧ i = .int .i64 (k : Int) ∧ (ss.take k).all vd = true ∧ Below w.heap.size w wr ∧ w.heap.size ≤ wr.heap.size) (fun i _ => ss.length - (intOf i).toNat)
    case atStart => exact ⟨0, by omega, rfl, by simp, by go_grown, by go_size⟩
    case round =>
      obtain ⟨k, hk, rfl, hp, hw, hsz⟩ := hrel
      have HP := Lib.hid hp; clear hp
      by_cases hlt : k < ss.length
      · obtain ⟨b, off, rfl, lb, d0, d1⟩ := H1.out k hlt
        have d0 := (hw.cell (p := ⟨b, off + k * 2, none⟩) lb).trans d0
        have d1 := (hw.cell (p := ⟨b, off + k * 2 + 1, none⟩) lb).trans d1
        clear H1
        have hbad := fun hv => chk_bad hlen hlt hv
        have hgood := fun hv => vd_more hlt hv HP.out
        generalize hx : ss[k] = x at *
        obtain ⟨x1, x2⟩ := x
        rcases hv : vd (x1, x2) with _ | _
        · have HB := Lib.hid (hbad hv); have HV := Lib.hid hv; clear hbad hgood hv hx
          go_wp2_with fail
          go_at_call 32
          with_reducible refine Gives.then (Gives.eq (valid_any x1 x2 _) rfl (by rw [HV.out])) ?_
          intro w1 hb
          go_wp2_with fail
          go_returns
          exact ⟨ret_num (HB.out.symm.trans HC.out), hw.trans ((by go_grown : Below wr.heap.size wr _).trans (hb.mono (by go_size)) |>.mono hsz)⟩
        · have HB := Lib.hid (hgood hv); have HV := Lib.hid hv; clear hbad hgood hv hx
          go_wp2_with fail
          go_at_call 32
          with_reducible refine Gives.then (Gives.eq (valid_any x1 x2 _) rfl (by rw [HV.out])) ?_
          intro w1 hb
          go_wp2_with fail
          have hw2 : Below w.heap.size w w1 := hw.trans ((by go_grown : Below wr.heap.size wr _).trans (hb.mono (by go_size)) |>.mono hsz)
          go_roundw
          case rel => exact ⟨k + 1, by omega, by go_num, HB.out, hw2, hw2.size⟩
          case measure => simp [intOf]; omega
      · clear H1
        go_wp2_with fail
        go_returns
        exact ⟨ret_num ((chk_good hlen hlt HP.out).symm.trans HC.out), hw⟩
  · have hfin := (chk_long hlen).symm.trans HC.out
    subst hfin
    clear H1
    go_enter Try.func11, Try.ntmps11
    go_wp2_with fail
    go_returns
    exact ⟨rfl, by go_grown⟩
end Go.Proofs.Ytfjngkdpembdcaa
