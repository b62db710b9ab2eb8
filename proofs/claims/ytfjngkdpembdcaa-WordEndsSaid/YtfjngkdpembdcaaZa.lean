/-
  The specification's Valid, Check, Copy and Cut.
-/
import Derived.Test.YtfjngkdpembdcaaHg
import Derived.Test.YtfjngkdpembdcaaHc
namespace Go.Proofs.Ytfjngkdpembdcaa
open Go.RowKit Go.Sort
attribute [local go_sem] bv_and bv_or ofInt32_nat
theorem vd_iff3 (p m : BitVec 32) : vd (p, m) = true ↔ p.toNat &&& m.toNat = 0 ∧ p.toNat < 16777216 ∧ m.toNat < 16777216 := by
  rw [vd_iff]
  refine and_congr_right fun _ => ⟨fun h => ⟨Nat.lt_of_le_of_lt Nat.left_le_or h, Nat.lt_of_le_of_lt Nat.right_le_or h⟩, fun h => ?_⟩
  exact Nat.or_lt_two_pow (n := 24) h.1 h.2
theorem vd_iff4 (p m : BitVec 32) : vd (p, m) = true ↔ p.toNat &&& m.toNat = 0 ∧ (decide ((p.toNat : Int) < 16777216) = true) ∧ decide ((m.toNat : Int) < 16777216) = true := by
  rw [vd_iff3, decide_eq_true_eq, decide_eq_true_eq]
  exact and_congr_right fun _ => ⟨fun h => ⟨by omega, by omega⟩, fun h => ⟨by omega, by omega⟩⟩
set_option maxHeartbeats 1000000 in
theorem rvalid_any (p m : BitVec 32) (w : World) : Gives 44 #[sn p.toNat m.toNat] w (.bool (vd (p, m))) := by
  unfold Gives
  generalize hd : vd (p, m) = D
  have hv := vd_iff4 p m
  rw [hd] at hv
  have HV := Lib.hid hv; clear hv hd
  by_cases h1 : p.toNat &&& m.toNat = 0
  · rcases h2 : decide ((p.toNat : Int) < 16777216) with _ | _
    · have hD : false = D := by
        rcases D with _ | _
        · rfl
        · have := (HV.out.1 rfl).2.1; rw [h2] at this; cases this
      subst hD; clear HV
      go_enter Try.func44, Try.ntmps44
      go_wp2
      go_returns
      exact ⟨ret_bool (by first | rfl | simp), by go_grown⟩
    · rcases h3 : decide ((m.toNat : Int) < 16777216) with _ | _
      · have hD : false = D := by
          rcases D with _ | _
          · rfl
          · have := (HV.out.1 rfl).2.2; rw [h3] at this; cases this
        subst hD; clear HV
        go_enter Try.func44, Try.ntmps44
        go_wp2
        go_returns
        exact ⟨ret_bool (by first | rfl | simp), by go_grown⟩
      · have hD : true = D := (HV.out.2 ⟨h1, h2, h3⟩).symm
        subst hD; clear HV
        go_enter Try.func44, Try.ntmps44
        go_wp2
        go_returns
        exact ⟨ret_bool (by first | rfl | simp), by go_grown⟩
  · have hD : false = D := by
      rcases D with _ | _
      · rfl
      · exact absurd (HV.out.1 rfl).1 h1
    subst hD; clear HV
    go_enter Try.func44, Try.ntmps44
    go_wp2
    go_returns
    exact ⟨ret_bool (by first | rfl | simp), by go_grown⟩
set_option maxHeartbeats 2000000 in
theorem rcheck_any (ss : List Snd) (v : Value) (w : World) (h : Wd w v ss) : Gives 30 #[v] w (.int .i64 (chk ss)) := by
  unfold Gives
  obtain ⟨ao, cap, rfl, c1, m1, H1⟩ := h.open
  have l1 := maxLen_lt (Nat.le_trans c1 m1)
  clear h c1 m1
  generalize hC : chk ss = C
  have HC := Lib.hid hC; have H1 := Lib.hid H1; clear hC
  by_cases hlen : ss.length ≤ 32
  · go_enter Try.func30, Try.ntmps30
    go_wp2_with fail
    go_loopw [3] (fun i wr => ∃ k : Nat, k ≤ ss.length ∧ i = .int .i64 (k : Int) ∧ (ss.take k).all vd = true ∧ Below w.heap.size w wr ∧ w.heap.size ≤ wr.heap.size) (fun i _ => ss.length - (intOf i).toNat)
    case atStart => exact ⟨0, by omega, rfl, by simp, by go_grown, by go_size⟩
    case round =>
      obtain ⟨k, hk, rfl, hp, hw, hsz⟩ := hrel
      have HP := Lib.hid hp; clear hp
      by_cases hlt : k < ss.length
      · obtain ⟨b, off, rfl, lb, d0, d1⟩ := H1.out k hlt
        have d0 := (hw.cell (p := ⟨b, off + k * 2, none⟩) lb).trans d0
        have d1 := (hw.cell (p := ⟨b, off + k * 2 + 1, none⟩) lb).trans d1
        clear H1
        have hbad := fun hv => chk_bad hlen hlt hv
        have hgood := fun hv => vd_more hlt hv HP.out
        generalize hx : ss[k] = x at *
        obtain ⟨x1, x2⟩ := x
        rcases hv : vd (x1, x2) with _ | _
        · have HB := Lib.hid (hbad hv); have HV := Lib.hid hv; clear hbad hgood hv hx
          go_wp2_with fail
          go_at_call 44
          with_reducible refine Gives.then (Gives.eq (rvalid_any x1 x2 _) rfl (by rw [HV.out])) ?_
          intro w1 hb
          go_wp2_with fail
          go_returns
          exact ⟨ret_num (HB.out.symm.trans HC.out), hw.trans ((by go_grown : Below wr.heap.size wr _).trans (hb.mono (by go_size)) |>.mono hsz)⟩
        · have HB := Lib.hid (hgood hv); have HV := Lib.hid hv; clear hbad hgood hv hx
          go_wp2_with fail
          go_at_call 44
          with_reducible refine Gives.then (Gives.eq (rvalid_any x1 x2 _) rfl (by rw [HV.out])) ?_
          intro w1 hb
          go_wp2_with fail
          have hw2 : Below w.heap.size w w1 := hw.trans ((by go_grown : Below wr.heap.size wr _).trans (hb.mono (by go_size)) |>.mono hsz)
          go_roundw
          case rel => exact ⟨k + 1, by omega, by go_num, HB.out, hw2, hw2.size⟩
          case measure => simp [intOf]; omega
      · clear H1
        go_wp2_with fail
        go_returns
        exact ⟨ret_num ((chk_good hlen hlt HP.out).symm.trans HC.out), hw⟩
  · have hfin := (chk_long hlen).symm.trans HC.out
    subst hfin
    clear H1
    go_enter Try.func30, Try.ntmps30
    go_wp2_with fail
    go_returns
    exact ⟨rfl, by go_grown⟩
set_option maxHeartbeats 2000000 in
set_option maxRecDepth 100000 in
theorem copy_any (xs : List Snd) (v : Value) (hl : xs.length ≤ 1000000000) (w : World) (h : Wd w v xs) : Makes 7 #[v] w xs := by
  unfold Makes
  obtain ⟨ao, cap, rfl, -, -, H1⟩ := h.open
  clear h
  have H1 := Lib.hid H1
  go_enter Try.func7, Try.ntmps7
  go_wp2_with fail
  go_loopw [4, 3] (fun i s wr => ∃ k : Nat, k ≤ xs.length ∧ i = .int .i64 (k : Int) ∧ Own wr w.heap.size s (xs.take k) ∧ Below w.heap.size w wr ∧ w.heap.size ≤ wr.heap.size) (fun i _ _ => xs.length - (intOf i).toNat)
  case atStart => exact ⟨0, by omega, rfl, by rw [List.take_zero]; exact Own.nil _ _, Below.refl _ _, Nat.le_refl _⟩
  case round =>
    obtain ⟨k, hk, rfl, ho, hw, hsz⟩ := hrel
    by_cases hlt : k < xs.length
    · obtain ⟨bb, off, rfl, lb, d0, d1⟩ := H1.out k hlt
      have d0 := (hw.cell (p := ⟨bb, off + k * 2, none⟩) lb).trans d0
      have d1 := (hw.cell (p := ⟨bb, off + k * 2 + 1, none⟩) lb).trans d1
      have hq := List.take_succ_eq_append_getElem hlt
      have hkl : (xs.take k).length = k := by rw [List.length_take]; omega
      generalize hx : xs[k] = x at *
      obtain ⟨x1, x2⟩ := x
      have HO := Lib.hid ho; have HQ := Lib.hid hq; have HKL := Lib.hid hkl
      simp only at d0 d1
      clear ho hq hx H1 hkl
      have ho1 := HO.out.below ((Below.refl _ wr).alloc (Nat.le_refl _) (.cells #[.int .u32 x1.toNat, .int .u32 x2.toNat] 32 (0, 0)))
      have hw1 := hw.alloc hsz (.cells #[.int .u32 x1.toNat, .int .u32 x2.toNat] 32 (0, 0))
      have HO1 := Lib.hid ho1
      clear ho1
      go_wp2_with (at_builtin; refine wpList_app rfl (.tmp 11) (.tmp 16) 24 Try.underlying24 rfl w.heap.size _ _ _ _ rfl rfl HO1.out (one_new wr _ _ x1 x2 rfl rfl) (by have := HKL.out; simp; omega) (by rw [World.size_alloc]; omega) ?_; intro v' w2 ho2 hk2 hz2)
      go_roundw
      case rel => exact ⟨k + 1, by omega, by go_num, by rw [HQ.out]; exact ho2, hk2 _ _ (Nat.le_refl _) hw1, by have := (hk2 _ _ (Nat.le_refl _) hw1).size; omega⟩
      case measure => simp [intOf]; omega
    · obtain rfl : k = xs.length := by omega
      rw [List.take_length] at ho
      go_wp2_with fail
      go_returns
      exact ⟨_, rfl, ho, hw⟩
end Go.Proofs.Ytfjngkdpembdcaa
