/-
  Lists of texts that are compared; the lists of the names of features.
-/
import Derived.Test.YtmgikhldkebjbaaNa
namespace Go.Proofs.Ytmgikhldkebjbaa
open Go.RowKit Go.Shelf Go.Sort
theorem preS_eq {xs ys : List ByteArray} {k : Nat} (h : k < xs.length) (h' : k < ys.length) (hp : xs.take k = ys.take k) (he : xs[k] = ys[k]) : xs.take (k + 1) = ys.take (k + 1) := by
  rw [List.take_succ_eq_append_getElem h, List.take_succ_eq_append_getElem h', hp, he]
set_option maxRecDepth 100000 in
set_option maxHeartbeats 4000000 in
theorem eqS_any (xs ys : List ByteArray) (v u : Value) (w : World) (h1 : Ss w v xs) (h2 : Ss w u ys) : Gives 17 #[v, u] w (.bool (decide (xs = ys))) := by
  unfold Gives
  obtain ⟨ao, cap, rfl, c1, m1, H1⟩ := h1.open
  obtain ⟨bo, cap', rfl, c2, m2, H2⟩ := h2.open
  unfold maxLen at m1 m2
  have l1 : xs.length ≤ 9223372036854775807 := by omega
  have l2 : ys.length ≤ 9223372036854775807 := by omega
  clear h1 h2 c1 m1 c2 m2
  have H1 := Lib.hid H1; have H2 := Lib.hid H2
  by_cases hl : xs.length = ys.length
  · obtain ⟨D, hD⟩ : ∃ D, decide (xs = ys) = D := ⟨_, rfl⟩
    rw [hD]
    have HD := Lib.hid hD
    have HL := Lib.hid hl
    have g1 : decide ((xs.length : Int) = (ys.length : Int)) = true := decide_eq_true (by omega)
    have g2 : ((xs.length : Int) == (ys.length : Int)) = true := by rw [beq_iff_eq]; omega
    have g3 : ((xs.length : Int) != (ys.length : Int)) = false := by rw [bne_eq_false_iff_eq]; omega
    clear hD hl
    go_enter Try.func17, Try.ntmps17
    go_wp2_with fail
    go_loopw [13] (fun i wr => ∃ k : Nat, k ≤ xs.length ∧ i = .int .i64 (k : Int) ∧ xs.take k = ys.take k ∧ Below w.heap.size w wr) (fun i _ => xs.length - (intOf i).toNat)
    case atStart => exact ⟨0, by omega, rfl, by simp, Below.refl _ _⟩
    case round =>
      obtain ⟨k, hk, rfl, hp, hw⟩ := hrel
      have HP := Lib.hid hp; clear hp
      by_cases hlt : k < xs.length
      · have hlt' : k < ys.length := by have := HL.out; omega
        obtain ⟨b, off, hao, lb, d0⟩ := H1.out k hlt
        obtain ⟨b', off', hbo, lb', e0⟩ := H2.out k hlt'
        have d0 := (hw.cell (p := ⟨b, off + k, none⟩) lb).trans d0
        have e0 := (hw.cell (p := ⟨b', off' + k, none⟩) lb').trans e0
        have HW := Lib.hid hw
        subst hao; subst hbo
        have hyes : xs[k] = ys[k] → xs.take (k + 1) = ys.take (k + 1) := fun e => preS_eq hlt hlt' HP.out e
        have hno : ¬ xs[k] = ys[k] → false = D := fun e => by
          rw [← HD.out]; symm
          exact decide_eq_false fun e2 => e (by simp only [e2])
        have HY := Lib.hid hyes; have HN := Lib.hid hno
        clear hyes hno H1 H2 hw
        generalize xs[k] = x at *
        generalize ys[k] = y at *
        by_cases hxy : x = y
        · have HT := Lib.hid (HY.out hxy)
          subst hxy
          clear HY HN
          go_wp2_with fail
          go_quiet (fail)
          have HW2 := Lib.hid (below_drewN HW.out nq)
          clear HW d0 e0
          generalize wr.drewN nq = wd at *
          go_wp2_with fail
          go_roundw
          case rel => exact ⟨k + 1, by omega, by go_num, HT.out, HW2.out⟩
          case measure => simp [intOf]; omega
        · have HF := Lib.hid (HN.out hxy)
          have e1 : (x.toList == y.toList) = false := by rw [toList_beq]; exact decide_eq_false hxy
          have e2 : (x.toList != y.toList) = true := by unfold bne; rw [e1]; rfl
          clear HY HN hxy
          go_wp2_with fail
          go_quiet (fail)
          have HW2 := Lib.hid (below_drewN HW.out nq)
          clear HW d0 e0
          generalize wr.drewN nq = wd at *
          go_wp2_with fail
          go_returns
          exact ⟨by rw [← HF.out]; rfl, HW2.out⟩
      · obtain rfl : k = xs.length := by omega
        have HF := Lib.hid (show true = D from by
          rw [← HD.out]; symm
          have h := HP.out
          rw [List.take_length, List.take_of_length_le (by rw [HL.out]; exact Nat.le_refl _)] at h
          exact decide_eq_true h)
        go_wp2_with fail
        go_returns
        exact ⟨by rw [← HF.out]; rfl, hw⟩
  · have hD : decide (xs = ys) = false := decide_eq_false fun e => hl (by rw [e])
    rw [hD]
    have g1 : decide ((xs.length : Int) = (ys.length : Int)) = false := decide_eq_false (by omega)
    have g2 : ((xs.length : Int) == (ys.length : Int)) = false := by rw [Bool.eq_false_iff]; intro e; have := beq_iff_eq.1 e; omega
    have g3 : ((xs.length : Int) != (ys.length : Int)) = true := by unfold bne; rw [g2]; rfl
    clear hl hD H1 H2
    go_enter Try.func17, Try.ntmps17
    go_wp2_with fail
    go_returns
    exact ⟨rfl, Below.refl _ _⟩
theorem feats_any {w : World} {base B : Nat} {l : List ByteArray} {a : List (ByteArray × Snd)} {nv av : Value} {bf bs by_ : Nat} (h : Inv w base B l a nv av bf bs by_) (hl : l.length ≤ 24) : Calls Try.prog 20 #[.pointer (some ⟨B, 0, none⟩)] w fun e w' => ∃ v', e = .returned v' ∧ OwnS w' w.heap.size v' l ∧ Below w.heap.size w w' := by
  have hv := valid_yes B w h.cells.1
  have hcl := fun (W : World) (hb : Below w.heap.size w W) => cloneS_any l nv W (by omega) (h.below hb).names.ss
  obtain ⟨ao, ac, hnv⟩ := h.names.form
  subst hnv
  have hc := fun (W : World) (hb : Below w.heap.size w W) => (h.below hb).cells.2.1
  have HV := Lib.hid hv; have HCL := Lib.hid hcl; have HC := Lib.hid hc
  clear h hv hcl hc
  go_enter Try.func20, Try.ntmps20
  go_wp2_with fail
  go_at_call 44
  refine Gives.then HV.out ?_
  intro w1 hb
  have c1 := HC.out w1 hb
  have HB := Lib.hid hb
  clear hb
  go_wp2_with fail
  go_at_call 15
  refine (HCL.out w1 HB.out).mono ?_
  rintro e w2 ⟨v2, rfl, ho, hb2⟩
  obtain ⟨a2, c2, rfl, -, -, -⟩ := ho.ss.open
  have HO := Lib.hid (ho.mono HB.out.size)
  have HW := Lib.hid (HB.out.trans (hb2.mono HB.out.size))
  clear ho hb2
  go_wp2_with fail
  go_returns
  exact ⟨_, rfl, HO.out, HW.out⟩
set_option maxHeartbeats 1000000 in
theorem rfeats_any {w : World} {base R : Nat} {l : List ByteArray} {a : List (ByteArray × Snd)} {nv av : Value} (h : RInv w base R l a nv av) (hl : l.length ≤ 24) : Calls Try.prog 21 #[.pointer (some ⟨R, 0, none⟩)] w fun e w' => ∃ v', e = .returned v' ∧ OwnS w' w.heap.size v' l ∧ Below w.heap.size w w' := by
  have hmd := rmade_yes R w h.cells.1
  obtain ⟨ao, ac, hnv⟩ := h.names.form
  subst hnv
  have HI := Lib.hid h; have HMD := Lib.hid hmd
  clear h hmd
  go_enter Try.func21, Try.ntmps21
  go_wp2_with fail
  go_at_call 45
  refine Gives.then HMD.out ?_
  intro w1 hb
  have h1 := HI.out.below hb
  have c1 := h1.cells.2.1
  have lR := h1.lt
  have c1' := fun X => cell_past (X := X) lR c1
  have HO1 := Lib.hid ((OwnS.empty w1).mono hb.size)
  have HN1 := Lib.hid (h1.names.ss.below ((Below.refl _ w1).alloc (Nat.le_refl _) (.cells #[] 9)))
  have HB := Lib.hid hb
  have hsz := hb.size
  clear hb HMD h1
  go_wp2_with (at_builtin; refine wpList_appS rfl (.tmp 6) (.tmp 10) rfl w.heap.size _ _ [] l rfl rfl HO1.out HN1.out (by simp; omega) (by go_size) ?_; intro v' w2 ho2 hk2 hz2; have ho2 : OwnS w2 w.heap.size v' l := ho2; obtain ⟨a2, c2, hv2, -, -, -⟩ := ho2.ss.open; subst hv2; have HO2 := Lib.hid ho2; have HK2 := Lib.hid hk2; clear ho2 hk2 hz2)
  go_returns
  exact ⟨_, rfl, HO2.out, HK2.out _ _ (Nat.le_refl _) (HB.out.alloc hsz (.cells #[] 9))⟩
end Go.Proofs.Ytmgikhldkebjbaa
