/-
  Lemmas that the theorem of this claim rests on: 4 texts, one behind the other.
-/
import Derived.Test.YtpnmapfabjdfjaaDoorY0LUd
import Derived.Deep.RegionHeld3
import Derived.Test.YtpnmapfabjdfjaaDoorM6
import Derived.Test.YtpnmapfabjdfjaaDoorM13
set_option linter.unusedSimpArgs false
set_option linter.unusedVariables false

/-
  NaturalTurns, walked.
-/
namespace Go.Proofs.YtpnmapfabjdfjaaDoor
open Go.RowKit Go.Sort
theorem gap_vld {l : List Snd} (hv : ∀ x ∈ l, vld x.1 x.2 = true) {g : Snd} (h : gapP l g) : vld g.1 g.2 = true ∧ g ∉ l := by
  obtain ⟨a, ha, b, hb, h1, z, hz, _, rfl, hn⟩ := (gapP_all l g).1 h
  refine ⟨?_, hn⟩
  have hf := (lon_val (dif_lt (hv a ha) (hv b hb)) (of_decide_eq_true h1)).1
  exact vld_with (hv z hz) _ _ (by show ((feN a b : Nat) : Int).toNat < 24; unfold feN; omega)
theorem Good.rev {l : List Snd} (h : Good l) : Good l.reverse := ⟨List.pairwise_reverse.2 (List.Pairwise.imp (fun h => Ne.symm h) h.1), fun s hs => h.2 s (List.mem_reverse.1 hs)⟩
theorem Pz.take8 {w : World} {b off N cap : Nat} {l : List (Nat × Nat)} (h : Pz w (.slice (some ⟨b, off, none⟩) N cap) l) (hN : 8 < N) : Pz w (.slice (some ⟨b, off, none⟩) 8 cap) (l.take 8) := by
  rcases h with ⟨h, -⟩ | ⟨b', off', cap', hv, h1, h2, h3, h4⟩
  · rcases h with h | ⟨aa, h⟩
    · cases h
    · injection h with _ h _; omega
  · injection hv with e1 e2 e3
    injection e1 with e1
    injection e1 with ea eb
    subst ea; subst eb; subst e3
    have hl : (l.take 8).length = 8 := by rw [List.length_take]; omega
    refine .inr ⟨b, off, cap, by rw [hl], by omega, h2, h3, fun i hi => ?_⟩
    have hi2 : i < l.length := by omega
    have := h4 i hi2
    rw [List.getElem_take]
    exact this
theorem ordS_any (x y : Snd) (w : World) : Gives 41 #[.agg #[.int .u32 (x.1.toNat : Int), .int .u32 (x.2.toNat : Int)], .agg #[.int .u32 (y.1.toNat : Int), .int .u32 (y.2.toNat : Int)]] w (.int .i64 (ordS x y)) := Calls.mono (Dn.orderF_d x.1 x.2 y.1 y.2 w) fun _ _ h => ⟨h.1, h.2.b⟩
theorem rev_drop {l : List Snd} {j : Nat} (h0 : 0 < j) (hj : j ≤ l.length) : (l.drop (j - 1)).reverse = (l.drop j).reverse ++ [l[j - 1]'(by omega)] := by
  rw [List.drop_eq_getElem_cons (i := j - 1) (by omega), List.reverse_cons, show j - 1 + 1 = j from by omega]
/-- Behind the cut. -/
theorem turns_in (l0 : List (Nat × Nat)) (v0 : Value) (w : World) (h0 : Pz w v0 l0) (h8 : l0.length ≤ 8) : Calls Tryd.prog 33 #[v0] w fun e w' => ∃ m S, e = .returned m ∧ Own w' w.heap.size m S ∧ Good S ∧ S.length ≤ 8 ∧ Below w.heap.size w w' := Calls.mono (different_len l0 v0 w h0) fun _ _ ⟨m, S, h1, h2, h3, _, h5, h6⟩ => ⟨m, S, h1, h2, h3, Nat.le_trans h5 h8, h6⟩
set_option maxRecDepth 100000 in
set_option maxHeartbeats 8000000 in
theorem turns_any (l0 : List (Nat × Nat)) (v0 : Value) (w : World) (h0 : Pz w v0 l0) (hT : Tab w) (lT : 0 < w.heap.size) : Gives 10 #[v0] w (.bool true) := by
  unfold Gives
  have HT := Lib.hid hT; have LT := Lib.hid lT
  clear hT lT
  have h0' := h0
  obtain ⟨ao0, cap0, rfl, hc0, -, hm0⟩ := h0.open
  obtain ⟨L, hL⟩ : ∃ L, l0.length = L := ⟨_, rfl⟩
  rw [hL] at h0' hc0 ⊢
  by_cases h8 : 8 < L
  · obtain ⟨b, off, hao, -⟩ := hm0 0 (by omega)
    subst hao
    have HDI := Lib.hid (turns_in _ _ w (h0'.take8 h8) (by rw [List.length_take]; omega))
    have g1 : decide ((8 : Int) < (L : Int)) = true := decide_eq_true (by omega)
    have g1' : decide (8 < L) = true := decide_eq_true h8
    have b1 : (8 : Int) ≤ (cap0 : Int) := by omega
    have b2 : 8 ≤ cap0 := by omega
    have b3 : (cap0 = 0) = False := by simp; omega
    clear h0 hm0 h0' hc0
    go_enter Tryd.func10, Tryd.ntmps10
    go_wp2_with fail
    go_at_call 33
    refine HDI.out.mono ?_
    rintro e w1 ⟨m1, l, rfl, ho1, hg1, hs1, hb1⟩
    clear HDI g1 g1'
    obtain ⟨ao, cap, hv1, c1, cm1, hc⟩ := ho1.wd.open
    obtain ⟨N, hN⟩ : ∃ N, l.length = N := ⟨_, rfl⟩
    have hwd := ho1.wd
    rw [hN] at hv1 hs1
    subst hv1
    have l1 : N ≤ 9223372036854775807 := by omega
    have HC := Lib.hid hc; have HWD := Lib.hid hwd; have HBw1 := Lib.hid hb1; have HN := Lib.hid hN; have HG := Lib.hid hg1
    have hww : IntKind.i64.wrap ((N : Int) - 1) = (N : Int) - 1 := by rw [IntKind.wrap_i64]; omega
    clear hc hwd hb1 ho1 c1 cm1 hN hg1
    go_wp2_with fail
    go_loopw [4, 5] (fun u i wr => ∃ j : Nat, j ≤ N ∧ i = .int .i64 ((j : Int) - 1) ∧ Own wr w1.heap.size u (l.drop j).reverse ∧ Below w1.heap.size w1 wr) (fun _ i _ => (intOf i + 1).toNat)
    case atStart => exact ⟨N, Nat.le_refl _, rfl, by rw [List.drop_of_length_le (by rw [HN.out]; exact Nat.le_refl _)]; exact Own.nil _ _, Below.refl _ _⟩
    case round =>
    obtain ⟨j, hj, rfl, ho, hw⟩ := hrel
    obtain ⟨oa, oc, hov, -, -, -⟩ := ho.wd.open
    rw [List.length_reverse, List.length_drop, HN.out] at hov
    subst hov
    by_cases hj0 : 0 < j
    · have hjl : j - 1 < l.length := by rw [HN.out]; omega
      obtain ⟨b, off, hao, lb, d0, d1⟩ := HC.out (j - 1) hjl
      subst hao
      have d0 := (hw.cell (p := ⟨b, _, none⟩) lb).trans d0
      have d1 := (hw.cell (p := ⟨b, _, none⟩) lb).trans d1
      have hsn := rev_drop hj0 (by rw [HN.out]; exact hj)
      generalize l[j - 1] = x at *
      obtain ⟨p, m⟩ := x
      simp only at d0 d1
      have hbo := (Below.refl wr.heap.size wr).alloc (Nat.le_refl _) (.cells #[.int .u32 (p.toNat : Int), .int .u32 (m.toNat : Int)] 27)
      have HSN := Lib.hid hsn; have HWO := Lib.hid (wd_one wr p m); have HZ := Lib.hid hw.size
      have HO3 := Lib.hid (ho.below hbo); have HW3 := Lib.hid (hw.trans (hbo.mono hw.size))
      have k1 : (0 : Int) ≤ (j : Int) - 1 := by omega
      have k2 : (j : Int) - 1 < (N : Int) := by omega
      have k3 : ((j : Int) - 1).toNat = j - 1 := by omega
      have k4 : decide ((0 : Int) ≤ (j : Int) - 1) = true := decide_eq_true k1
      have k5 : IntKind.i64.wrap ((j : Int) - 1 - 1) = (j : Int) - 1 - 1 := by rw [IntKind.wrap_i64]; omega
      clear hsn hbo HC ho hw
      go_wp2_with (at_builtin; refine wpList_app rfl (.tmp 34) (.tmp 39) 22 Tryd.underlying22 rfl w1.heap.size (.slice oa (N - j) oc) (.slice (some ⟨wr.heap.size, 0, none⟩) 1 1) _ [(p, m)] rfl rfl HO3.out HWO.out (by rw [List.length_reverse, List.length_drop, HN.out]; simp; omega) (by have := HZ.out; simp only [World.size_alloc]; omega) ?_; intro v4 w4 ho4 hk4 hz4; have HO4 := Lib.hid ho4; have HW4 := Lib.hid (hk4 _ _ (Nat.le_refl _) HW3.out); clear ho4 hk4 hz4)
      go_roundw
      case rel => exact ⟨j - 1, by omega, by rw [show ((j - 1 : Nat) : Int) = (j : Int) - 1 from by omega], by rw [HSN.out]; exact HO4.out, HW4.out⟩
      case measure => simp [intOf]; omega
    obtain rfl : j = 0 := by omega
    rw [List.drop_zero] at ho
    simp only [Nat.sub_zero] at ho ⊢
    have hgr := HG.out.rev
    have hrl : l.reverse.length = N := by rw [List.length_reverse]; exact HN.out
    have hck := HG.out.ck (most := 256) (by rw [HN.out]; omega)
    have hck2 := HG.out.ck (most := 12) (by rw [HN.out]; omega)
    have hcr := hgr.ck (most := 256) (by rw [hrl]; omega)
    have hcr2 := hgr.ck (most := 12) (by rw [hrl]; omega)
    have hmm : ∀ x, x ∈ l ↔ x ∈ l.reverse := fun x => List.mem_reverse.symm
    have hcn := cnt_same hck2 hcr2 hmm
    obtain ⟨hc1, hc2⟩ := cnt_bounds hck2
    rw [HN.out] at hc1 hc2
    have hnd : ndM l = ndM l.reverse := by rw [ndM_good hck, ndM_good hcr, ndF_same hmm]
    have hgp := gapP_same hmm
    obtain ⟨cn, hcne⟩ : ∃ c, cntN l = c := ⟨_, rfl⟩
    have hco1 := fun W v h => count_any l v W h
    have hco2 := fun W v h => count_any l.reverse v W h
    have hne1 := fun W v h => needed_any l v W h
    have hne2 := fun W v h => needed_any l.reverse v W h
    rw [hcne, hck2] at hco1
    rw [← hcn, hcne, hcr2] at hco2
    rw [hck] at hne1
    rw [← hnd, hcr] at hne2
    rw [hcne] at hc1 hc2
    generalize ndM l = nd at *
    have HCO1 := Lib.hid hco1; have HCO2 := Lib.hid hco2; have HNE1 := Lib.hid hne1; have HNE2 := Lib.hid hne2; have HGP := Lib.hid hgp; have HCK := Lib.hid hck; have HCR := Lib.hid hcr; have HCC1 := Lib.hid hc1; have HCC2 := Lib.hid hc2
    clear hgr hrl hck hck2 hcr hcr2 hmm hcn hnd hgp hco1 hco2 hne1 hne2 hcne hc1 hc2
    have HREV := Lib.hid ho.wd
    have HWDR := Lib.hid (HWD.out.below hw)
    have HBR := Lib.hid (HBw1.out.trans (hw.mono HBw1.out.size))
    have k4 : decide ((0 : Int) ≤ (((0 : Nat) : Int) - 1)) = false := decide_eq_false (by omega)
    clear ho hw HC hj0 hj HWD hww
    go_wp2_with fail
    go_at_call 31
    (with_reducible refine Gives.then (HCO1.out _ _ HWDR.out) ?_)
    intro w11 hbw11
    have HBw11 := Lib.hid (HBR.out.trans (hbw11.mono HBR.out.size))
    have HWDR := Lib.hid (HWDR.out.below hbw11)
    have HREV := Lib.hid (HREV.out.below hbw11)
    clear hbw11
    go_wp2_with fail
    go_at_call 31
    (with_reducible refine Gives.then (HCO2.out _ _ HREV.out) ?_)
    intro w12 hbw12
    have HBw12 := Lib.hid (HBw11.out.trans (hbw12.mono HBw11.out.size))
    have HWDR := Lib.hid (HWDR.out.below hbw12)
    have HREV := Lib.hid (HREV.out.below hbw12)
    clear hbw12
    go_wp2_with fail
    go_at_call 27
    (with_reducible refine Gives.then (HNE1.out _ _ HWDR.out) ?_)
    intro w13 hbw13
    have HBw13 := Lib.hid (HBw12.out.trans (hbw13.mono HBw12.out.size))
    have HWDR := Lib.hid (HWDR.out.below hbw13)
    have HREV := Lib.hid (HREV.out.below hbw13)
    clear hbw13
    go_wp2_with fail
    go_at_call 27
    (with_reducible refine Gives.then (HNE2.out _ _ HREV.out) ?_)
    intro w14 hbw14
    have HBw14 := Lib.hid (HBw13.out.trans (hbw14.mono HBw13.out.size))
    have HWDR := Lib.hid (HWDR.out.below hbw14)
    have HREV := Lib.hid (HREV.out.below hbw14)
    clear hbw14
    go_wp2_with fail
    go_at_call 29
    refine (gaps_any l _ w14 HWDR.out (HT.out.below HBw14.out LT.out) (Nat.lt_of_lt_of_le LT.out HBw14.out.size)).mono ?_
    rintro e w15 ⟨m2, Y, he, hwd, hy, -, hbw15⟩
    rw [HCK.out] at he
    subst he
    have HWY1 := Lib.hid hwd; have HY1 := Lib.hid (hy HCK.out)
    clear hwd hy
    have HBw15 := Lib.hid (HBw14.out.trans (hbw15.mono HBw14.out.size))
    have HWDR := Lib.hid (HWDR.out.below hbw15)
    have HREV := Lib.hid (HREV.out.below hbw15)
    clear hbw15
    go_wp2_with fail
    go_at_call 29
    refine (gaps_any l.reverse _ w15 HREV.out (HT.out.below HBw15.out LT.out) (Nat.lt_of_lt_of_le LT.out HBw15.out.size)).mono ?_
    rintro e w16 ⟨m3, Y2, he, hwd, hy, -, hbw16⟩
    rw [HCR.out] at he
    subst he
    have HWY2 := Lib.hid hwd; have HY2 := Lib.hid (hy HCR.out)
    clear hwd hy
    have HBw16 := Lib.hid (HBw15.out.trans (hbw16.mono HBw15.out.size))
    have HWDR := Lib.hid (HWDR.out.below hbw16)
    have HREV := Lib.hid (HREV.out.below hbw16)
    have HWY1 := Lib.hid (HWY1.out.below hbw16)
    clear hbw16
    have hYY : Y = Y2 := inc_same HY1.out.1 HY2.out.1 fun q => by rw [HY1.out.2, HY2.out.2]; exact HGP.out q
    subst hYY
    obtain ⟨ya, yc, hm2, hyc1, hyc2, hyc⟩ := HWY1.out.open
    obtain ⟨n, hn⟩ : ∃ n, Y.length = n := ⟨_, rfl⟩
    rw [hn] at hm2 hyc1
    subst hm2
    have HYC := Lib.hid hyc; have HNY := Lib.hid hn
    have ln : n ≤ 9223372036854775807 := by unfold maxLen at hyc2; omega
    clear hyc hn hyc2
    clear HREV
    go_wp2_with fail
    have hsm := same_any Y Y _ _ w16 HWY1.out HWY2.out
    rw [decide_eq_true rfl] at hsm
    have HSM := Lib.hid hsm
    clear hsm
    go_at_call 22
    refine Gives.then HSM.out ?_
    intro w17 hbw17
    have HBw17 := Lib.hid (HBw16.out.trans (hbw17.mono HBw16.out.size))
    have HWDR := Lib.hid (HWDR.out.below hbw17)
    have HWY1 := Lib.hid (HWY1.out.below hbw17)
    have HWY2 := Lib.hid (HWY2.out.below hbw17)
    clear hbw17
    clear HSM
    clear HWY2
    go_wp2_with fail
    obtain ⟨ax, cx, hvx, -, -, hcx⟩ := HWDR.out.open
    rw [HN.out] at hvx
    obtain ⟨rfl, rfl⟩ : ao = ax ∧ cap = cx := by injection hvx with x y z; exact ⟨x, z⟩
    obtain ⟨ay, cy, hvy, -, -, hcy⟩ := HWY1.out.open
    rw [HNY.out] at hvy
    obtain ⟨rfl, rfl⟩ : ya = ay ∧ yc = cy := by injection hvy with x y z; exact ⟨x, z⟩
    have HCX := Lib.hid hcx; have HCY := Lib.hid hcy
    clear hcx hcy hvx hvy
    go_loopw [18] (fun i wr2 => ∃ k : Nat, k ≤ n ∧ i = .int .i64 (k : Int) ∧ Below w17.heap.size w17 wr2) (fun i _ => n - (intOf i).toNat)
    case atStart => exact ⟨0, by omega, rfl, Below.refl _ _⟩
    case round =>
    obtain ⟨k, hk, rfl, hw⟩ := hrel
    by_cases hlt : k < n
    · have hkl : k < Y.length := by rw [HNY.out]; exact hlt
      obtain ⟨b, off, hao, lb, d0, d1⟩ := HCY.out k hkl
      subst hao
      have hgv := gap_vld (fun x hx => (HG.out.2 x hx).1) ((HY1.out.2 Y[k]).1 (List.getElem_mem hkl))
      have hvv := gv_vld Y[k]
      rw [hgv.1] at hvv
      have hpv : 0 < k → ∃ p q : BitVec 32, (w17.cell? ⟨b, off + (k - 1) * 2, none⟩ = some (.int .u32 (p.toNat : Int)) ∧ w17.cell? ⟨b, off + (k - 1) * 2 + 1, none⟩ = some (.int .u32 (q.toNat : Int))) ∧ ordS (p, q) Y[k] < 0 := fun hk0 => by
        have hkl1 : k - 1 < Y.length := by omega
        obtain ⟨b', off', hao', _, e0, e1⟩ := HCY.out (k - 1) hkl1
        cases hao'
        exact ⟨Y[k - 1].1, Y[k - 1].2, ⟨e0, e1⟩, (ordS_lt _ _).2 (HY1.out.1 (k - 1) k (by omega) hkl)⟩
      have hni := hgv.2
      generalize Y[k] = y at *
      obtain ⟨yp, ym⟩ := y
      simp only at d0 d1 hvv
      have HVV := Lib.hid hvv; have HW := Lib.hid hw; have HNI := Lib.hid hni; have D0 := Lib.hid d0; have D1 := Lib.hid d1; have LB := Lib.hid lb
      have hk3 : (k : Int) < (n : Int) := by omega
      have hk0 : (0 : Int) ≤ (k : Int) := by omega
      have hB0 : Below wr.heap.size wr wr.drew := Below.drew (Below.refl _ _)
      clear hw hvv hgv hni HCY
      have fin : ∀ w20, Below wr.heap.size wr w20 → Below w17.heap.size w17 w20 := fun w20 h => HW.out.trans (h.mono HW.out.size)
      have FIN := Lib.hid fin
      clear fin
      by_cases hkp : 0 < k
      · obtain ⟨pp, pq, ⟨e0, e1⟩, hord⟩ := hpv hkp
        have hoa := ordS_any (pp, pq) (yp, ym)
        have h0g : decide ((0 : Int) < (k : Int)) = true := decide_eq_true (by omega)
        have h0g' : decide (0 < k) = true := decide_eq_true hkp
        have hk5 : IntKind.i64.wrap ((k : Int) - 1) = (k : Int) - 1 := by rw [IntKind.wrap_i64]; omega
        have hk6 : (0 : Int) ≤ (k : Int) - 1 := by omega
        have hk7 : (k : Int) - 1 < (n : Int) := by omega
        have hk8 : ((k : Int) - 1).toNat = k - 1 := by omega
        have ho2 : decide ((0 : Int) ≤ ordS (pp, pq) (yp, ym)) = false := decide_eq_false (by omega)
        generalize ordS (pp, pq) (yp, ym) = od at *
        have HOA := Lib.hid hoa
        have KK : Hid (∀ W : World, Below wr.heap.size wr W → (W.cell? ⟨b, off + (k - 1) * 2, none⟩ = some (.int .u32 (pp.toNat : Int)) ∧ W.cell? ⟨b, off + (k - 1) * 2 + 1, none⟩ = some (.int .u32 (pq.toNat : Int))) ∧ W.cell? ⟨b, off + k * 2, none⟩ = some (.int .u32 (yp.toNat : Int)) ∧ W.cell? ⟨b, off + k * 2 + 1, none⟩ = some (.int .u32 (ym.toNat : Int))) := Lib.hid (fun W hW => ⟨⟨((FIN.out W hW).cell (p := ⟨b, _, none⟩) LB.out).trans e0, ((FIN.out W hW).cell (p := ⟨b, _, none⟩) LB.out).trans e1⟩, ((FIN.out W hW).cell (p := ⟨b, _, none⟩) LB.out).trans D0.out, ((FIN.out W hW).cell (p := ⟨b, _, none⟩) LB.out).trans D1.out⟩)
        clear hpv hoa e0 e1 d0 d1 hord lb
        go_wp2_with fail
        have x0 := cell_regrown (KK.out wr (Below.refl _ _)).1.1
        have x1 := cell_regrown (KK.out wr (Below.refl _ _)).1.2
        have x2 := cell_regrown (KK.out wr (Below.refl _ _)).2.1
        have x3 := cell_regrown (KK.out wr (Below.refl _ _)).2.2
        refine wp_region_quiet_below (by kernel_rfl) (by kernel_rfl) ?_
        try simp only [List.append]
        repeat (go_big_quiet_step (first | (go_at_call 40; with_reducible exact Calls.regrown_of (HVV.out _)) | (go_at_call 41; with_reducible exact Calls.regrown_of (HOA.out _))))
        refine wpQuiet_nil ?_
        intro w21 hw21
        have hB1 : Below wr.heap.size wr w21 := by obtain ⟨q, rfl⟩ := hw21; exact below_regrown _ _ _
        clear hw21 x0 x1 x2 x3
        have HW21 := Lib.hid (FIN.out _ hB1)
        clear hB0 hB1 KK HOA
        go_wp2_with fail
        go_loopw [19] (fun i wi => ∃ q : Nat, q ≤ N ∧ i = .int .i64 (q : Int) ∧ Below w17.heap.size w17 wi) (fun i _ => N - (intOf i).toNat)
        case atStart => exact ⟨0, by omega, rfl, HW21.out⟩
        case round =>
        obtain ⟨q, hq, rfl, hwq⟩ := hrel
        by_cases hq2 : q < N
        · have hql : q < l.length := by rw [HN.out]; exact hq2
          obtain ⟨b2, off2, hao2, lb2, c0, c1⟩ := HCX.out q hql
          subst hao2
          have c0 := (hwq.cell (p := ⟨b2, _, none⟩) lb2).trans c0
          have c1 := (hwq.cell (p := ⟨b2, _, none⟩) lb2).trans c1
          have d0 := (hwq.cell (p := ⟨b, _, none⟩) LB.out).trans D0.out
          have d1 := (hwq.cell (p := ⟨b, _, none⟩) LB.out).trans D1.out
          have heq := fun W => snd_eql (l[q].1.toNat : Int) (l[q].2.toNat : Int) (yp.toNat : Int) (ym.toNat : Int) W
          have hsb := snd_beq l[q] (yp, ym)
          simp only at hsb
          rw [hsb, decide_eq_false (fun e => HNI.out (by rw [← e]; exact List.getElem_mem hql))] at heq
          generalize l[q] = x at *
          obtain ⟨xp, xm⟩ := x
          simp only at c0 c1 heq
          have HWQ := Lib.hid hwq
          have hq3 : (q : Int) < (N : Int) := by omega
          have hq0 : (0 : Int) ≤ (q : Int) := by omega
          clear hwq hsb HCX
          go_wp2_with fail
          go_region
          all_goals go_wp2_with fail
          all_goals (
            go_roundw
            case rel => exact ⟨q + 1, by omega, by go_num, HWQ.out.drew⟩
            case measure => simp [intOf]; omega)
        · obtain rfl : q = N := by omega
          have HWQ := Lib.hid hwq
          clear hwq hq2
          go_wp2_with fail
          go_roundw
          case rel => exact ⟨k + 1, by omega, by go_num, HWQ.out⟩
          case measure => simp [intOf]; omega
      · have h0g : decide ((0 : Int) < (k : Int)) = false := decide_eq_false (by omega)
        have h0g' : decide (0 < k) = false := decide_eq_false hkp
        have KK : Hid (∀ W : World, Below wr.heap.size wr W → W.cell? ⟨b, off + k * 2, none⟩ = some (.int .u32 (yp.toNat : Int)) ∧ W.cell? ⟨b, off + k * 2 + 1, none⟩ = some (.int .u32 (ym.toNat : Int))) := Lib.hid (fun W hW => ⟨((FIN.out W hW).cell (p := ⟨b, _, none⟩) LB.out).trans D0.out, ((FIN.out W hW).cell (p := ⟨b, _, none⟩) LB.out).trans D1.out⟩)
        clear hpv d0 d1 lb
        go_wp2_with fail
        have x0 := cell_regrown (KK.out wr (Below.refl _ _)).1
        have x1 := cell_regrown (KK.out wr (Below.refl _ _)).2
        refine wp_region_quiet_below (by kernel_rfl) (by kernel_rfl) ?_
        try simp only [List.append]
        repeat (go_big_quiet_step (first | (go_at_call 40; with_reducible exact Calls.regrown_of (HVV.out _))))
        refine wpQuiet_nil ?_
        intro w21 hw21
        have hB1 : Below wr.heap.size wr w21 := by obtain ⟨q, rfl⟩ := hw21; exact below_regrown _ _ _
        clear hw21 x0 x1
        have HW21 := Lib.hid (FIN.out _ hB1)
        clear hB0 hB1 KK
        go_wp2_with fail
        go_loopw [19] (fun i wi => ∃ q : Nat, q ≤ N ∧ i = .int .i64 (q : Int) ∧ Below w17.heap.size w17 wi) (fun i _ => N - (intOf i).toNat)
        case atStart => exact ⟨0, by omega, rfl, HW21.out⟩
        case round =>
        obtain ⟨q, hq, rfl, hwq⟩ := hrel
        by_cases hq2 : q < N
        · have hql : q < l.length := by rw [HN.out]; exact hq2
          obtain ⟨b2, off2, hao2, lb2, c0, c1⟩ := HCX.out q hql
          subst hao2
          have c0 := (hwq.cell (p := ⟨b2, _, none⟩) lb2).trans c0
          have c1 := (hwq.cell (p := ⟨b2, _, none⟩) lb2).trans c1
          have d0 := (hwq.cell (p := ⟨b, _, none⟩) LB.out).trans D0.out
          have d1 := (hwq.cell (p := ⟨b, _, none⟩) LB.out).trans D1.out
          have heq := fun W => snd_eql (l[q].1.toNat : Int) (l[q].2.toNat : Int) (yp.toNat : Int) (ym.toNat : Int) W
          have hsb := snd_beq l[q] (yp, ym)
          simp only at hsb
          rw [hsb, decide_eq_false (fun e => HNI.out (by rw [← e]; exact List.getElem_mem hql))] at heq
          generalize l[q] = x at *
          obtain ⟨xp, xm⟩ := x
          simp only at c0 c1 heq
          have HWQ := Lib.hid hwq
          have hq3 : (q : Int) < (N : Int) := by omega
          have hq0 : (0 : Int) ≤ (q : Int) := by omega
          clear hwq hsb HCX
          go_wp2_with fail
          go_region
          all_goals go_wp2_with fail
          all_goals (
            go_roundw
            case rel => exact ⟨q + 1, by omega, by go_num, HWQ.out.drew⟩
            case measure => simp [intOf]; omega)
        · obtain rfl : q = N := by omega
          have HWQ := Lib.hid hwq
          clear hwq hq2
          go_wp2_with fail
          go_roundw
          case rel => exact ⟨k + 1, by omega, by go_num, HWQ.out⟩
          case measure => simp [intOf]; omega
    obtain rfl : k = n := by omega
    have HE := Lib.hid (HBw17.out.trans (hw.mono HBw17.out.size))
    clear hw hlt HCX HCY
    obtain ⟨P, hP⟩ : ∃ P : Nat, 2 ^ N = P := ⟨_, rfl⟩
    have hP2 : P ≤ 256 := by rw [← hP]; exact Nat.le_trans (Nat.pow_le_pow_right (by decide) hs1) (by decide)
    have hPi : ((2 : Int) ^ N) = (P : Int) := by rw [← hP]; simp
    have hPw : IntKind.i64.wrap ((2 : Int) ^ N) = (P : Int) := by rw [hPi, IntKind.wrap_i64]; omega
    have hPm : IntKind.i64.wrap ((P : Int) - 1) = (P : Int) - 1 := by rw [IntKind.wrap_i64]; omega
    have q1 := HCC1.out
    have q2 := HCC2.out
    rw [hP] at q2
    have q3 : decide ((min (N : Int) 1) ≤ cn) = true := decide_eq_true (by omega)
    have q4 : decide (cn ≤ (P : Int) - 1) = true := decide_eq_true q2
    have HPI := Lib.hid hPi
    clear hP hPi q1 q2
    go_wp2_with fail
    go_at_call 14
    refine Gives.then (works_any _ (HT.out.below HE.out LT.out) (Nat.lt_of_lt_of_le LT.out HE.out.size)) ?_
    intro w6 hb6
    have HW6 := Lib.hid (HE.out.trans (hb6.mono HE.out.size))
    clear hb6
    go_wp2_with fail
    go_returns
    exact ⟨rfl, HW6.out⟩
  · have HDI := Lib.hid (turns_in _ _ w h0' (by omega))
    have g1 : decide ((8 : Int) < (L : Int)) = false := decide_eq_false (by omega)
    have g1' : decide (8 < L) = false := decide_eq_false h8
    clear h0 hm0 h0' hc0
    go_enter Tryd.func10, Tryd.ntmps10
    go_wp2_with fail
    go_at_call 33
    refine HDI.out.mono ?_
    rintro e w1 ⟨m1, l, rfl, ho1, hg1, hs1, hb1⟩
    clear HDI g1 g1'
    obtain ⟨ao, cap, hv1, c1, cm1, hc⟩ := ho1.wd.open
    obtain ⟨N, hN⟩ : ∃ N, l.length = N := ⟨_, rfl⟩
    have hwd := ho1.wd
    rw [hN] at hv1 hs1
    subst hv1
    have l1 : N ≤ 9223372036854775807 := by omega
    have HC := Lib.hid hc; have HWD := Lib.hid hwd; have HBw1 := Lib.hid hb1; have HN := Lib.hid hN; have HG := Lib.hid hg1
    have hww : IntKind.i64.wrap ((N : Int) - 1) = (N : Int) - 1 := by rw [IntKind.wrap_i64]; omega
    clear hc hwd hb1 ho1 c1 cm1 hN hg1
    go_wp2_with fail
    go_loopw [4, 5] (fun u i wr => ∃ j : Nat, j ≤ N ∧ i = .int .i64 ((j : Int) - 1) ∧ Own wr w1.heap.size u (l.drop j).reverse ∧ Below w1.heap.size w1 wr) (fun _ i _ => (intOf i + 1).toNat)
    case atStart => exact ⟨N, Nat.le_refl _, rfl, by rw [List.drop_of_length_le (by rw [HN.out]; exact Nat.le_refl _)]; exact Own.nil _ _, Below.refl _ _⟩
    case round =>
    obtain ⟨j, hj, rfl, ho, hw⟩ := hrel
    obtain ⟨oa, oc, hov, -, -, -⟩ := ho.wd.open
    rw [List.length_reverse, List.length_drop, HN.out] at hov
    subst hov
    by_cases hj0 : 0 < j
    · have hjl : j - 1 < l.length := by rw [HN.out]; omega
      obtain ⟨b, off, hao, lb, d0, d1⟩ := HC.out (j - 1) hjl
      subst hao
      have d0 := (hw.cell (p := ⟨b, _, none⟩) lb).trans d0
      have d1 := (hw.cell (p := ⟨b, _, none⟩) lb).trans d1
      have hsn := rev_drop hj0 (by rw [HN.out]; exact hj)
      generalize l[j - 1] = x at *
      obtain ⟨p, m⟩ := x
      simp only at d0 d1
      have hbo := (Below.refl wr.heap.size wr).alloc (Nat.le_refl _) (.cells #[.int .u32 (p.toNat : Int), .int .u32 (m.toNat : Int)] 27)
      have HSN := Lib.hid hsn; have HWO := Lib.hid (wd_one wr p m); have HZ := Lib.hid hw.size
      have HO3 := Lib.hid (ho.below hbo); have HW3 := Lib.hid (hw.trans (hbo.mono hw.size))
      have k1 : (0 : Int) ≤ (j : Int) - 1 := by omega
      have k2 : (j : Int) - 1 < (N : Int) := by omega
      have k3 : ((j : Int) - 1).toNat = j - 1 := by omega
      have k4 : decide ((0 : Int) ≤ (j : Int) - 1) = true := decide_eq_true k1
      have k5 : IntKind.i64.wrap ((j : Int) - 1 - 1) = (j : Int) - 1 - 1 := by rw [IntKind.wrap_i64]; omega
      clear hsn hbo HC ho hw
      go_wp2_with (at_builtin; refine wpList_app rfl (.tmp 34) (.tmp 39) 22 Tryd.underlying22 rfl w1.heap.size (.slice oa (N - j) oc) (.slice (some ⟨wr.heap.size, 0, none⟩) 1 1) _ [(p, m)] rfl rfl HO3.out HWO.out (by rw [List.length_reverse, List.length_drop, HN.out]; simp; omega) (by have := HZ.out; simp only [World.size_alloc]; omega) ?_; intro v4 w4 ho4 hk4 hz4; have HO4 := Lib.hid ho4; have HW4 := Lib.hid (hk4 _ _ (Nat.le_refl _) HW3.out); clear ho4 hk4 hz4)
      go_roundw
      case rel => exact ⟨j - 1, by omega, by rw [show ((j - 1 : Nat) : Int) = (j : Int) - 1 from by omega], by rw [HSN.out]; exact HO4.out, HW4.out⟩
      case measure => simp [intOf]; omega
    obtain rfl : j = 0 := by omega
    rw [List.drop_zero] at ho
    simp only [Nat.sub_zero] at ho ⊢
    have hgr := HG.out.rev
    have hrl : l.reverse.length = N := by rw [List.length_reverse]; exact HN.out
    have hck := HG.out.ck (most := 256) (by rw [HN.out]; omega)
    have hck2 := HG.out.ck (most := 12) (by rw [HN.out]; omega)
    have hcr := hgr.ck (most := 256) (by rw [hrl]; omega)
    have hcr2 := hgr.ck (most := 12) (by rw [hrl]; omega)
    have hmm : ∀ x, x ∈ l ↔ x ∈ l.reverse := fun x => List.mem_reverse.symm
    have hcn := cnt_same hck2 hcr2 hmm
    obtain ⟨hc1, hc2⟩ := cnt_bounds hck2
    rw [HN.out] at hc1 hc2
    have hnd : ndM l = ndM l.reverse := by rw [ndM_good hck, ndM_good hcr, ndF_same hmm]
    have hgp := gapP_same hmm
    obtain ⟨cn, hcne⟩ : ∃ c, cntN l = c := ⟨_, rfl⟩
    have hco1 := fun W v h => count_any l v W h
    have hco2 := fun W v h => count_any l.reverse v W h
    have hne1 := fun W v h => needed_any l v W h
    have hne2 := fun W v h => needed_any l.reverse v W h
    rw [hcne, hck2] at hco1
    rw [← hcn, hcne, hcr2] at hco2
    rw [hck] at hne1
    rw [← hnd, hcr] at hne2
    rw [hcne] at hc1 hc2
    generalize ndM l = nd at *
    have HCO1 := Lib.hid hco1; have HCO2 := Lib.hid hco2; have HNE1 := Lib.hid hne1; have HNE2 := Lib.hid hne2; have HGP := Lib.hid hgp; have HCK := Lib.hid hck; have HCR := Lib.hid hcr; have HCC1 := Lib.hid hc1; have HCC2 := Lib.hid hc2
    clear hgr hrl hck hck2 hcr hcr2 hmm hcn hnd hgp hco1 hco2 hne1 hne2 hcne hc1 hc2
    have HREV := Lib.hid ho.wd
    have HWDR := Lib.hid (HWD.out.below hw)
    have HBR := Lib.hid (HBw1.out.trans (hw.mono HBw1.out.size))
    have k4 : decide ((0 : Int) ≤ (((0 : Nat) : Int) - 1)) = false := decide_eq_false (by omega)
    clear ho hw HC hj0 hj HWD hww
    go_wp2_with fail
    go_at_call 31
    (with_reducible refine Gives.then (HCO1.out _ _ HWDR.out) ?_)
    intro w11 hbw11
    have HBw11 := Lib.hid (HBR.out.trans (hbw11.mono HBR.out.size))
    have HWDR := Lib.hid (HWDR.out.below hbw11)
    have HREV := Lib.hid (HREV.out.below hbw11)
    clear hbw11
    go_wp2_with fail
    go_at_call 31
    (with_reducible refine Gives.then (HCO2.out _ _ HREV.out) ?_)
    intro w12 hbw12
    have HBw12 := Lib.hid (HBw11.out.trans (hbw12.mono HBw11.out.size))
    have HWDR := Lib.hid (HWDR.out.below hbw12)
    have HREV := Lib.hid (HREV.out.below hbw12)
    clear hbw12
    go_wp2_with fail
    go_at_call 27
    (with_reducible refine Gives.then (HNE1.out _ _ HWDR.out) ?_)
    intro w13 hbw13
    have HBw13 := Lib.hid (HBw12.out.trans (hbw13.mono HBw12.out.size))
    have HWDR := Lib.hid (HWDR.out.below hbw13)
    have HREV := Lib.hid (HREV.out.below hbw13)
    clear hbw13
    go_wp2_with fail
    go_at_call 27
    (with_reducible refine Gives.then (HNE2.out _ _ HREV.out) ?_)
    intro w14 hbw14
    have HBw14 := Lib.hid (HBw13.out.trans (hbw14.mono HBw13.out.size))
    have HWDR := Lib.hid (HWDR.out.below hbw14)
    have HREV := Lib.hid (HREV.out.below hbw14)
    clear hbw14
    go_wp2_with fail
    go_at_call 29
    refine (gaps_any l _ w14 HWDR.out (HT.out.below HBw14.out LT.out) (Nat.lt_of_lt_of_le LT.out HBw14.out.size)).mono ?_
    rintro e w15 ⟨m2, Y, he, hwd, hy, -, hbw15⟩
    rw [HCK.out] at he
    subst he
    have HWY1 := Lib.hid hwd; have HY1 := Lib.hid (hy HCK.out)
    clear hwd hy
    have HBw15 := Lib.hid (HBw14.out.trans (hbw15.mono HBw14.out.size))
    have HWDR := Lib.hid (HWDR.out.below hbw15)
    have HREV := Lib.hid (HREV.out.below hbw15)
    clear hbw15
    go_wp2_with fail
    go_at_call 29
    refine (gaps_any l.reverse _ w15 HREV.out (HT.out.below HBw15.out LT.out) (Nat.lt_of_lt_of_le LT.out HBw15.out.size)).mono ?_
    rintro e w16 ⟨m3, Y2, he, hwd, hy, -, hbw16⟩
    rw [HCR.out] at he
    subst he
    have HWY2 := Lib.hid hwd; have HY2 := Lib.hid (hy HCR.out)
    clear hwd hy
    have HBw16 := Lib.hid (HBw15.out.trans (hbw16.mono HBw15.out.size))
    have HWDR := Lib.hid (HWDR.out.below hbw16)
    have HREV := Lib.hid (HREV.out.below hbw16)
    have HWY1 := Lib.hid (HWY1.out.below hbw16)
    clear hbw16
    have hYY : Y = Y2 := inc_same HY1.out.1 HY2.out.1 fun q => by rw [HY1.out.2, HY2.out.2]; exact HGP.out q
    subst hYY
    obtain ⟨ya, yc, hm2, hyc1, hyc2, hyc⟩ := HWY1.out.open
    obtain ⟨n, hn⟩ : ∃ n, Y.length = n := ⟨_, rfl⟩
    rw [hn] at hm2 hyc1
    subst hm2
    have HYC := Lib.hid hyc; have HNY := Lib.hid hn
    have ln : n ≤ 9223372036854775807 := by unfold maxLen at hyc2; omega
    clear hyc hn hyc2
    clear HREV
    go_wp2_with fail
    have hsm := same_any Y Y _ _ w16 HWY1.out HWY2.out
    rw [decide_eq_true rfl] at hsm
    have HSM := Lib.hid hsm
    clear hsm
    go_at_call 22
    refine Gives.then HSM.out ?_
    intro w17 hbw17
    have HBw17 := Lib.hid (HBw16.out.trans (hbw17.mono HBw16.out.size))
    have HWDR := Lib.hid (HWDR.out.below hbw17)
    have HWY1 := Lib.hid (HWY1.out.below hbw17)
    have HWY2 := Lib.hid (HWY2.out.below hbw17)
    clear hbw17
    clear HSM
    clear HWY2
    go_wp2_with fail
    obtain ⟨ax, cx, hvx, -, -, hcx⟩ := HWDR.out.open
    rw [HN.out] at hvx
    obtain ⟨rfl, rfl⟩ : ao = ax ∧ cap = cx := by injection hvx with x y z; exact ⟨x, z⟩
    obtain ⟨ay, cy, hvy, -, -, hcy⟩ := HWY1.out.open
    rw [HNY.out] at hvy
    obtain ⟨rfl, rfl⟩ : ya = ay ∧ yc = cy := by injection hvy with x y z; exact ⟨x, z⟩
    have HCX := Lib.hid hcx; have HCY := Lib.hid hcy
    clear hcx hcy hvx hvy
    go_loopw [18] (fun i wr2 => ∃ k : Nat, k ≤ n ∧ i = .int .i64 (k : Int) ∧ Below w17.heap.size w17 wr2) (fun i _ => n - (intOf i).toNat)
    case atStart => exact ⟨0, by omega, rfl, Below.refl _ _⟩
    case round =>
    obtain ⟨k, hk, rfl, hw⟩ := hrel
    by_cases hlt : k < n
    · have hkl : k < Y.length := by rw [HNY.out]; exact hlt
      obtain ⟨b, off, hao, lb, d0, d1⟩ := HCY.out k hkl
      subst hao
      have hgv := gap_vld (fun x hx => (HG.out.2 x hx).1) ((HY1.out.2 Y[k]).1 (List.getElem_mem hkl))
      have hvv := gv_vld Y[k]
      rw [hgv.1] at hvv
      have hpv : 0 < k → ∃ p q : BitVec 32, (w17.cell? ⟨b, off + (k - 1) * 2, none⟩ = some (.int .u32 (p.toNat : Int)) ∧ w17.cell? ⟨b, off + (k - 1) * 2 + 1, none⟩ = some (.int .u32 (q.toNat : Int))) ∧ ordS (p, q) Y[k] < 0 := fun hk0 => by
        have hkl1 : k - 1 < Y.length := by omega
        obtain ⟨b', off', hao', _, e0, e1⟩ := HCY.out (k - 1) hkl1
        cases hao'
        exact ⟨Y[k - 1].1, Y[k - 1].2, ⟨e0, e1⟩, (ordS_lt _ _).2 (HY1.out.1 (k - 1) k (by omega) hkl)⟩
      have hni := hgv.2
      generalize Y[k] = y at *
      obtain ⟨yp, ym⟩ := y
      simp only at d0 d1 hvv
      have HVV := Lib.hid hvv; have HW := Lib.hid hw; have HNI := Lib.hid hni; have D0 := Lib.hid d0; have D1 := Lib.hid d1; have LB := Lib.hid lb
      have hk3 : (k : Int) < (n : Int) := by omega
      have hk0 : (0 : Int) ≤ (k : Int) := by omega
      have hB0 : Below wr.heap.size wr wr.drew := Below.drew (Below.refl _ _)
      clear hw hvv hgv hni HCY
      have fin : ∀ w20, Below wr.heap.size wr w20 → Below w17.heap.size w17 w20 := fun w20 h => HW.out.trans (h.mono HW.out.size)
      have FIN := Lib.hid fin
      clear fin
      by_cases hkp : 0 < k
      · obtain ⟨pp, pq, ⟨e0, e1⟩, hord⟩ := hpv hkp
        have hoa := ordS_any (pp, pq) (yp, ym)
        have h0g : decide ((0 : Int) < (k : Int)) = true := decide_eq_true (by omega)
        have h0g' : decide (0 < k) = true := decide_eq_true hkp
        have hk5 : IntKind.i64.wrap ((k : Int) - 1) = (k : Int) - 1 := by rw [IntKind.wrap_i64]; omega
        have hk6 : (0 : Int) ≤ (k : Int) - 1 := by omega
        have hk7 : (k : Int) - 1 < (n : Int) := by omega
        have hk8 : ((k : Int) - 1).toNat = k - 1 := by omega
        have ho2 : decide ((0 : Int) ≤ ordS (pp, pq) (yp, ym)) = false := decide_eq_false (by omega)
        generalize ordS (pp, pq) (yp, ym) = od at *
        have HOA := Lib.hid hoa
        have KK : Hid (∀ W : World, Below wr.heap.size wr W → (W.cell? ⟨b, off + (k - 1) * 2, none⟩ = some (.int .u32 (pp.toNat : Int)) ∧ W.cell? ⟨b, off + (k - 1) * 2 + 1, none⟩ = some (.int .u32 (pq.toNat : Int))) ∧ W.cell? ⟨b, off + k * 2, none⟩ = some (.int .u32 (yp.toNat : Int)) ∧ W.cell? ⟨b, off + k * 2 + 1, none⟩ = some (.int .u32 (ym.toNat : Int))) := Lib.hid (fun W hW => ⟨⟨((FIN.out W hW).cell (p := ⟨b, _, none⟩) LB.out).trans e0, ((FIN.out W hW).cell (p := ⟨b, _, none⟩) LB.out).trans e1⟩, ((FIN.out W hW).cell (p := ⟨b, _, none⟩) LB.out).trans D0.out, ((FIN.out W hW).cell (p := ⟨b, _, none⟩) LB.out).trans D1.out⟩)
        clear hpv hoa e0 e1 d0 d1 hord lb
        go_wp2_with fail
        have x0 := cell_regrown (KK.out wr (Below.refl _ _)).1.1
        have x1 := cell_regrown (KK.out wr (Below.refl _ _)).1.2
        have x2 := cell_regrown (KK.out wr (Below.refl _ _)).2.1
        have x3 := cell_regrown (KK.out wr (Below.refl _ _)).2.2
        refine wp_region_quiet_below (by kernel_rfl) (by kernel_rfl) ?_
        try simp only [List.append]
        repeat (go_big_quiet_step (first | (go_at_call 40; with_reducible exact Calls.regrown_of (HVV.out _)) | (go_at_call 41; with_reducible exact Calls.regrown_of (HOA.out _))))
        refine wpQuiet_nil ?_
        intro w21 hw21
        have hB1 : Below wr.heap.size wr w21 := by obtain ⟨q, rfl⟩ := hw21; exact below_regrown _ _ _
        clear hw21 x0 x1 x2 x3
        have HW21 := Lib.hid (FIN.out _ hB1)
        clear hB0 hB1 KK HOA
        go_wp2_with fail
        go_loopw [19] (fun i wi => ∃ q : Nat, q ≤ N ∧ i = .int .i64 (q : Int) ∧ Below w17.heap.size w17 wi) (fun i _ => N - (intOf i).toNat)
        case atStart => exact ⟨0, by omega, rfl, HW21.out⟩
        case round =>
        obtain ⟨q, hq, rfl, hwq⟩ := hrel
        by_cases hq2 : q < N
        · have hql : q < l.length := by rw [HN.out]; exact hq2
          obtain ⟨b2, off2, hao2, lb2, c0, c1⟩ := HCX.out q hql
          subst hao2
          have c0 := (hwq.cell (p := ⟨b2, _, none⟩) lb2).trans c0
          have c1 := (hwq.cell (p := ⟨b2, _, none⟩) lb2).trans c1
          have d0 := (hwq.cell (p := ⟨b, _, none⟩) LB.out).trans D0.out
          have d1 := (hwq.cell (p := ⟨b, _, none⟩) LB.out).trans D1.out
          have heq := fun W => snd_eql (l[q].1.toNat : Int) (l[q].2.toNat : Int) (yp.toNat : Int) (ym.toNat : Int) W
          have hsb := snd_beq l[q] (yp, ym)
          simp only at hsb
          rw [hsb, decide_eq_false (fun e => HNI.out (by rw [← e]; exact List.getElem_mem hql))] at heq
          generalize l[q] = x at *
          obtain ⟨xp, xm⟩ := x
          simp only at c0 c1 heq
          have HWQ := Lib.hid hwq
          have hq3 : (q : Int) < (N : Int) := by omega
          have hq0 : (0 : Int) ≤ (q : Int) := by omega
          clear hwq hsb HCX
          go_wp2_with fail
          go_region
          all_goals go_wp2_with fail
          all_goals (
            go_roundw
            case rel => exact ⟨q + 1, by omega, by go_num, HWQ.out.drew⟩
            case measure => simp [intOf]; omega)
        · obtain rfl : q = N := by omega
          have HWQ := Lib.hid hwq
          clear hwq hq2
          go_wp2_with fail
          go_roundw
          case rel => exact ⟨k + 1, by omega, by go_num, HWQ.out⟩
          case measure => simp [intOf]; omega
      · have h0g : decide ((0 : Int) < (k : Int)) = false := decide_eq_false (by omega)
        have h0g' : decide (0 < k) = false := decide_eq_false hkp
        have KK : Hid (∀ W : World, Below wr.heap.size wr W → W.cell? ⟨b, off + k * 2, none⟩ = some (.int .u32 (yp.toNat : Int)) ∧ W.cell? ⟨b, off + k * 2 + 1, none⟩ = some (.int .u32 (ym.toNat : Int))) := Lib.hid (fun W hW => ⟨((FIN.out W hW).cell (p := ⟨b, _, none⟩) LB.out).trans D0.out, ((FIN.out W hW).cell (p := ⟨b, _, none⟩) LB.out).trans D1.out⟩)
        clear hpv d0 d1 lb
        go_wp2_with fail
        have x0 := cell_regrown (KK.out wr (Below.refl _ _)).1
        have x1 := cell_regrown (KK.out wr (Below.refl _ _)).2
        refine wp_region_quiet_below (by kernel_rfl) (by kernel_rfl) ?_
        try simp only [List.append]
        repeat (go_big_quiet_step (first | (go_at_call 40; with_reducible exact Calls.regrown_of (HVV.out _))))
        refine wpQuiet_nil ?_
        intro w21 hw21
        have hB1 : Below wr.heap.size wr w21 := by obtain ⟨q, rfl⟩ := hw21; exact below_regrown _ _ _
        clear hw21 x0 x1
        have HW21 := Lib.hid (FIN.out _ hB1)
        clear hB0 hB1 KK
        go_wp2_with fail
        go_loopw [19] (fun i wi => ∃ q : Nat, q ≤ N ∧ i = .int .i64 (q : Int) ∧ Below w17.heap.size w17 wi) (fun i _ => N - (intOf i).toNat)
        case atStart => exact ⟨0, by omega, rfl, HW21.out⟩
        case round =>
        obtain ⟨q, hq, rfl, hwq⟩ := hrel
        by_cases hq2 : q < N
        · have hql : q < l.length := by rw [HN.out]; exact hq2
          obtain ⟨b2, off2, hao2, lb2, c0, c1⟩ := HCX.out q hql
          subst hao2
          have c0 := (hwq.cell (p := ⟨b2, _, none⟩) lb2).trans c0
          have c1 := (hwq.cell (p := ⟨b2, _, none⟩) lb2).trans c1
          have d0 := (hwq.cell (p := ⟨b, _, none⟩) LB.out).trans D0.out
          have d1 := (hwq.cell (p := ⟨b, _, none⟩) LB.out).trans D1.out
          have heq := fun W => snd_eql (l[q].1.toNat : Int) (l[q].2.toNat : Int) (yp.toNat : Int) (ym.toNat : Int) W
          have hsb := snd_beq l[q] (yp, ym)
          simp only at hsb
          rw [hsb, decide_eq_false (fun e => HNI.out (by rw [← e]; exact List.getElem_mem hql))] at heq
          generalize l[q] = x at *
          obtain ⟨xp, xm⟩ := x
          simp only at c0 c1 heq
          have HWQ := Lib.hid hwq
          have hq3 : (q : Int) < (N : Int) := by omega
          have hq0 : (0 : Int) ≤ (q : Int) := by omega
          clear hwq hsb HCX
          go_wp2_with fail
          go_region
          all_goals go_wp2_with fail
          all_goals (
            go_roundw
            case rel => exact ⟨q + 1, by omega, by go_num, HWQ.out.drew⟩
            case measure => simp [intOf]; omega)
        · obtain rfl : q = N := by omega
          have HWQ := Lib.hid hwq
          clear hwq hq2
          go_wp2_with fail
          go_roundw
          case rel => exact ⟨k + 1, by omega, by go_num, HWQ.out⟩
          case measure => simp [intOf]; omega
    obtain rfl : k = n := by omega
    have HE := Lib.hid (HBw17.out.trans (hw.mono HBw17.out.size))
    clear hw hlt HCX HCY
    obtain ⟨P, hP⟩ : ∃ P : Nat, 2 ^ N = P := ⟨_, rfl⟩
    have hP2 : P ≤ 256 := by rw [← hP]; exact Nat.le_trans (Nat.pow_le_pow_right (by decide) hs1) (by decide)
    have hPi : ((2 : Int) ^ N) = (P : Int) := by rw [← hP]; simp
    have hPw : IntKind.i64.wrap ((2 : Int) ^ N) = (P : Int) := by rw [hPi, IntKind.wrap_i64]; omega
    have hPm : IntKind.i64.wrap ((P : Int) - 1) = (P : Int) - 1 := by rw [IntKind.wrap_i64]; omega
    have q1 := HCC1.out
    have q2 := HCC2.out
    rw [hP] at q2
    have q3 : decide ((min (N : Int) 1) ≤ cn) = true := decide_eq_true (by omega)
    have q4 : decide (cn ≤ (P : Int) - 1) = true := decide_eq_true q2
    have HPI := Lib.hid hPi
    clear hP hPi q1 q2
    go_wp2_with fail
    go_at_call 14
    refine Gives.then (works_any _ (HT.out.below HE.out LT.out) (Nat.lt_of_lt_of_le LT.out HE.out.size)) ?_
    intro w6 hb6
    have HW6 := Lib.hid (HE.out.trans (hb6.mono HE.out.size))
    clear hb6
    go_wp2_with fail
    go_returns
    exact ⟨rfl, HW6.out⟩
end Go.Proofs.YtpnmapfabjdfjaaDoor

/-
  The specification's Gaps.
-/
namespace Go.Proofs.YtpnmapfabjdfjaaDoor
open Go.RowKit Go.Sort
/-- The sound that three sounds show to be missing. -/
def trip (l : List Snd) (i j k : Nat) (g : Snd) : Prop := i < l.length ∧ j < l.length ∧ k < l.length ∧ one (l.getD i zs) (l.getD j zs) = true ∧ getV (l.getD k zs).1 (l.getD k zs).2 (feN (l.getD i zs) (l.getD j zs)) = getV (l.getD i zs).1 (l.getD i zs).2 (feN (l.getD i zs) (l.getD j zs)) ∧ g = gapS (l.getD k zs) (swp (l.getD i zs) (l.getD j zs)) ∧ g ∉ l
/-- Those that were met before three places. -/
def Pd (l : List Snd) (i j k : Nat) (g : Snd) : Prop := ∃ a b c, trip l a b c g ∧ (a < i ∨ (a = i ∧ (b < j ∨ (b = j ∧ c < k))))
theorem Pd.next {l : List Snd} {i j k : Nat} {g : Snd} : Pd l i j (k + 1) g ↔ Pd l i j k g ∨ trip l i j k g := by
  constructor
  · rintro ⟨a, b, c, ht, h⟩
    by_cases e : a = i ∧ b = j ∧ c = k
    · obtain ⟨rfl, rfl, rfl⟩ := e; exact .inr ht
    · exact .inl ⟨a, b, c, ht, by omega⟩
  · rintro (⟨a, b, c, ht, h⟩ | ht)
    · exact ⟨a, b, c, ht, by omega⟩
    · exact ⟨i, j, k, ht, by omega⟩
theorem Pd.row {l : List Snd} {i j : Nat} {g : Snd} : Pd l i j l.length g ↔ Pd l i (j + 1) 0 g := by
  constructor
  · rintro ⟨a, b, c, ht, h⟩; exact ⟨a, b, c, ht, by omega⟩
  · rintro ⟨a, b, c, ht, h⟩; exact ⟨a, b, c, ht, by have := ht.2.2.1; omega⟩
theorem Pd.skip {l : List Snd} {i j : Nat} {g : Snd} (h1 : one (l.getD i zs) (l.getD j zs) = false) : Pd l i j 0 g ↔ Pd l i (j + 1) 0 g := by
  constructor
  · rintro ⟨a, b, c, ht, h⟩; exact ⟨a, b, c, ht, by omega⟩
  · rintro ⟨a, b, c, ht, h⟩
    refine ⟨a, b, c, ht, ?_⟩
    by_cases e : a = i ∧ b = j
    · obtain ⟨rfl, rfl⟩ := e
      have := ht.2.2.2.1
      rw [h1] at this; cases this
    · omega
theorem Pd.out {l : List Snd} {i : Nat} {g : Snd} : Pd l i l.length 0 g ↔ Pd l (i + 1) 0 0 g := by
  constructor
  · rintro ⟨a, b, c, ht, h⟩; exact ⟨a, b, c, ht, by omega⟩
  · rintro ⟨a, b, c, ht, h⟩; exact ⟨a, b, c, ht, by have := ht.2.1; omega⟩
theorem Pd.start {l : List Snd} {g : Snd} : ¬ Pd l 0 0 0 g := by rintro ⟨a, b, c, ht, h⟩; omega
theorem Pd.gap {l : List Snd} {i j k : Nat} {g : Snd} (h : Pd l i j k g) : gapP l g := by
  obtain ⟨a, b, c, ⟨h1, h2, h3, h4, h5, h6, h7⟩, -⟩ := h
  have hg : ∀ i (h : i < l.length), l.getD i zs = l[i] := fun i h => by simp [List.getD, List.getElem?_eq_getElem h]
  rw [hg a h1, hg b h2] at h4 h5 h6
  rw [hg c h3] at h5 h6
  exact (gapP_all l g).2 ⟨_, List.getElem_mem h1, _, List.getElem_mem h2, h4, _, List.getElem_mem h3, h5, h6, h7⟩
theorem Pd.all {l : List Snd} {g : Snd} : Pd l l.length 0 0 g ↔ gapP l g := by
  refine ⟨Pd.gap, fun h => ?_⟩
  obtain ⟨a, ha, b, hb, h1, z, hz, h2, h3, h4⟩ := (gapP_all l g).1 h
  have hg : ∀ i (h : i < l.length), l.getD i zs = l[i] := fun i h => by simp [List.getD, List.getElem?_eq_getElem h]
  obtain ⟨i, hi, rfl⟩ := List.getElem_of_mem ha
  obtain ⟨j, hj, rfl⟩ := List.getElem_of_mem hb
  obtain ⟨k, hk, rfl⟩ := List.getElem_of_mem hz
  exact ⟨i, j, k, ⟨hi, hj, hk, by rw [hg i hi, hg j hj]; exact h1, by rw [hg i hi, hg j hj, hg k hk]; exact h2, by rw [hg i hi, hg j hj, hg k hk]; exact h3, h4⟩, .inl hi⟩
/-- The list so far. -/
def GpI (l : List Snd) (i j k : Nat) (Y : List Snd) : Prop := IncS Y ∧ ∀ g, g ∈ Y ↔ Pd l i j k g
theorem GpI.len {l : List Snd} {i j k : Nat} {Y : List Snd} (h : GpI l i j k Y) (hl : l.length ≤ 256) : Y.length ≤ 33554432 := by
  have hnd : Y.Nodup := List.nodup_iff_pairwise_ne.2 (List.Pairwise.imp (S := fun a b => a ≠ b) (fun {a b} hxy (e : a = b) => ltS_irr a (by rw [← e] at hxy; exact hxy)) h.1.pw)
  have h1 : Y.length ≤ (gpL l (swS l (prs l))).length := len_of_sub _ _ hnd fun g hg => (gpL_mem l g _).2 ((h.2 g).1 hg).gap
  have h2 := gpL_len l (swS l (prs l))
  have h3 := swS_len l (prs l)
  have h4 := prs_len l
  have h5 : l.length * l.length ≤ 256 * 256 := Nat.mul_le_mul hl hl
  have h6 : (swS l (prs l)).length * l.length ≤ 131072 * 256 := Nat.mul_le_mul (by omega) hl
  omega
theorem IncS.nil : IncS [] := fun i j _ hj => by simp at hj
theorem GpI.start (l : List Snd) : GpI l 0 0 0 [] := ⟨IncS.nil, fun g => ⟨fun h => by simp at h, fun h => absurd h Pd.start⟩⟩
theorem GpI.congr {l : List Snd} {i j k i' j' k' : Nat} {Y : List Snd} (h : GpI l i j k Y) (he : ∀ g, Pd l i j k g ↔ Pd l i' j' k' g) : GpI l i' j' k' Y := ⟨h.1, fun g => (h.2 g).trans (he g)⟩
/-- One more place. -/
theorem GpI.no {l : List Snd} {i j k : Nat} {Y : List Snd} (h : GpI l i j k Y) (hn : ∀ g, ¬ trip l i j k g) : GpI l i j (k + 1) Y := h.congr fun g => by rw [Pd.next]; exact ⟨.inl, fun h => h.elim id fun h => absurd h (hn g)⟩
theorem GpI.yes {l : List Snd} {i j k : Nat} {Y Z : List Snd} {s : Snd} (h : GpI l i j k Y) (ht : trip l i j k s) (hz : IncS Z) (hi : InX Y s Z) : GpI l i j (k + 1) Z := ⟨hz, fun g => by
  rw [hi g, h.2 g, Pd.next]
  refine or_congr Iff.rfl ⟨fun e => e ▸ ht, fun h2 => ?_⟩
  rw [h2.2.2.2.2.2.1, ht.2.2.2.2.2.1]⟩
/-- What Gaps returns. -/
def GpY (l Y : List Snd) : Prop := (ckE l 256 = 0 → IncS Y ∧ ∀ g, g ∈ Y ↔ gapP l g) ∧ (ckE l 256 ≠ 0 → Y = [])
set_option maxRecDepth 100000 in
set_option maxHeartbeats 8000000 in
theorem rgaps_any (l : List Snd) (v : Value) (w : World) (h : Wd w v l) : Calls Tryd.prog 30 #[v] w fun e w' => ∃ m Y, e = .returned (.tuple #[m, .int .i64 (ckE l 256)]) ∧ Wd w' m Y ∧ GpY l Y ∧ Below w.heap.size w w' := by
  have hck := rcheck_any l v 256 w (by decide) h
  rw [show ((256 : Nat) : Int) = 256 from rfl] at hck
  have hvl := fun (h1 : ckE l 256 = 0) => ckE_vld h1
  have hln := fun (h1 : ckE l 256 = 0) => ckE_len h1
  have HWD0 := Lib.hid h
  obtain ⟨ao, cap, rfl, c1, m1, hc⟩ := h.open
  obtain ⟨N, hN⟩ : ∃ N, l.length = N := ⟨_, rfl⟩
  obtain ⟨E, hE⟩ : ∃ E, ckE l 256 = E := ⟨_, rfl⟩
  have HC := Lib.hid hc; have HN := Lib.hid hN; have HEE := Lib.hid hE
  rw [hN] at c1 hck hln HWD0 ⊢
  rw [hE] at hck hvl hln ⊢
  have HCK := Lib.hid hck; have HVL := Lib.hid hvl; have HLN := Lib.hid hln
  clear hc hck hvl hln h hN m1 hE
  by_cases h0 : E = 0
  · subst h0
    have l2 : N ≤ 256 := HLN.out rfl
    have l1 : N ≤ 9223372036854775807 := by omega
    have HV := Lib.hid (HVL.out rfl)
    clear HLN HVL
    go_enter Tryd.func30, Tryd.ntmps30
    go_wp2_with fail
    go_at_call 51
    refine Gives.then HCK.out ?_
    intro w1 hb1
    have HW1 := Lib.hid hb1
    clear hb1 HCK
    go_wp2_with fail
    go_loopw [5, 6] (fun u i wr => ∃ (k : Nat) (Y : List Snd), k ≤ N ∧ i = .int .i64 (k : Int) ∧ Wd wr u Y ∧ GpI l k 0 0 Y ∧ Below w.heap.size w wr) (fun _ i _ => N - (intOf i).toNat)
    case atStart => exact ⟨0, [], by omega, rfl, Wd.nil _, GpI.start l, HW1.out⟩
    case round =>
    obtain ⟨i, Y, hi, rfl, ho, hg, hw⟩ := hrel
    by_cases hlt : i < N
    · have hil : i < l.length := by rw [HN.out]; exact hlt
      have HO := Lib.hid ho; have HG := Lib.hid hg; have HW := Lib.hid hw
      obtain ⟨oa, oc, hov, -, -, -⟩ := ho.open
      obtain ⟨n, hn⟩ : ∃ n, Y.length = n := ⟨_, rfl⟩
      rw [hn] at hov
      subst hov
      clear ho hg hw hn
      go_wp2_with fail
      go_loopw [5, 7] (fun u j wr => ∃ (k : Nat) (Y : List Snd), k ≤ N ∧ j = .int .i64 (k : Int) ∧ Wd wr u Y ∧ GpI l i k 0 Y ∧ Below w.heap.size w wr) (fun _ j _ => N - (intOf j).toNat)
      case atStart => exact ⟨0, Y, by omega, rfl, HO.out, HG.out, HW.out⟩
      case round =>
      clear HO HG HW
      obtain ⟨j, Y, hj, rfl, ho, hg, hw⟩ := hrel
      have HO := Lib.hid ho; have HG := Lib.hid hg; have HW := Lib.hid hw
      obtain ⟨oa, oc, hov, -, -, -⟩ := ho.open
      obtain ⟨n, hn⟩ : ∃ n, Y.length = n := ⟨_, rfl⟩
      rw [hn] at hov
      subst hov
      have HNY := Lib.hid hn
      clear ho hg hw hn
      by_cases hltj : j < N
      · have hjl : j < l.length := by rw [HN.out]; exact hltj
        obtain ⟨b, off, hao, lb, d0, d1⟩ := HC.out i hil
        subst hao
        obtain ⟨b', off', hao', _, d2, d3⟩ := HC.out j hjl
        cases hao'
        have hg0 : ∀ i (h : i < l.length), l.getD i zs = l[i] := fun i h => by simp [List.getD, List.getElem?_eq_getElem h]
        obtain ⟨x, hx⟩ : ∃ x, l[i] = x := ⟨_, rfl⟩
        obtain ⟨y, hy⟩ : ∃ y, l[j] = y := ⟨_, rfl⟩
        have hxg := (hg0 i hil).trans hx
        have hyg := (hg0 j hjl).trans hy
        have hxv := HV.out l[i] (List.getElem_mem hil)
        have hyv := HV.out l[j] (List.getElem_mem hjl)
        rw [hx] at d0 d1 hxv; rw [hy] at d2 d3 hyv
        have HXG := Lib.hid hxg; have HYG := Lib.hid hyg; have HXV := Lib.hid hxv; have HYV := Lib.hid hyv
        have D0 := Lib.hid d0; have D1 := Lib.hid d1; have D2 := Lib.hid d2; have D3 := Lib.hid d3; have LB := Lib.hid lb
        have hal := ralone_any x y hxv hyv
        rw [lon_dif hxv hyv] at hal
        have hfe : (lonF (dif x y)).1 = feN x y := rfl
        rw [hfe] at hal
        have hfl : one x y = true → feN x y < 24 := fun h => (lon_val (dif_lt hxv hyv) (of_decide_eq_true h)).1
        have hon : one (l.getD i zs) (l.getD j zs) = one x y := by rw [hxg, hyg]
        have HFL := Lib.hid hfl; have HAL := Lib.hid hal; have HON := Lib.hid hon
        clear hx hy hxg hyg hxv hyv hg0 hal hfe hfl hon d0 d1 d2 d3 lb
        have c0 := (HW.out.cell (p := ⟨b, _, none⟩) LB.out).trans D0.out
        have c1' := (HW.out.cell (p := ⟨b, _, none⟩) LB.out).trans D1.out
        have c2 := (HW.out.cell (p := ⟨b, _, none⟩) LB.out).trans D2.out
        have c3 := (HW.out.cell (p := ⟨b, _, none⟩) LB.out).trans D3.out
        have hi3 : (i : Int) < (N : Int) := by omega
        have hi0 : (0 : Int) ≤ (i : Int) := by omega
        have hj3 : (j : Int) < (N : Int) := by omega
        have hj0 : (0 : Int) ≤ (j : Int) := by omega
        obtain ⟨f, hf⟩ : ∃ f, feN x y = f := ⟨_, rfl⟩
        have HF := Lib.hid hf
        rw [hf] at HAL HFL
        clear hf
        obtain ⟨B, hB⟩ : ∃ B, one x y = B := ⟨_, rfl⟩
        rw [hB] at HAL HFL HON
        clear hB
        have HXx := Lib.hid (rfl : x = x)
        obtain ⟨xp, xm⟩ := x
        obtain ⟨yp, ym⟩ := y
        simp only at c0 c1' c2 c3 D0 D1 D2 D3
        clear HXx
        go_wp2_with fail
        have x0 := cell_regrown c0
        have x1 := cell_regrown c1'
        have x2 := cell_regrown c2
        have x3 := cell_regrown c3
        refine wp_region_quiet_below (by kernel_rfl) (by kernel_rfl) ?_
        try simp only [List.append]
        repeat (go_big_quiet_step (first | (go_at_call 61; with_reducible exact Calls.regrown_of (HAL.out _))))
        refine wpQuiet_nil ?_
        intro w11 hw11
        have hB1 : Below wr.heap.size wr w11 := by obtain ⟨q, rfl⟩ := hw11; exact below_regrown _ _ _
        have HW11 := Lib.hid (HW.out.trans (hB1.mono HW.out.size)); have HO11 := Lib.hid (HO.out.below hB1)
        clear hw11 x0 x1 x2 x3 c0 c1' c2 c3 hB1 HW HO HAL
        cases B with
        | false =>
          have HG11 := Lib.hid (HG.out.congr fun g => Pd.skip HON.out)
          go_wp2_with fail
          go_roundw
          case rel => exact ⟨j + 1, Y, by omega, by go_num, HO11.out, HG11.out, HW11.out⟩
          case measure => simp [intOf]; omega
        | true =>
        have hf24 := HFL.out rfl
        have HF24 := Lib.hid hf24
        clear hf24 HFL
        go_wp2_with fail
        go_loopw [5, 10] (fun u k wr => ∃ (q : Nat) (Y : List Snd), q ≤ N ∧ k = .int .i64 (q : Int) ∧ Wd wr u Y ∧ GpI l i j q Y ∧ Below w.heap.size w wr) (fun _ k _ => N - (intOf k).toNat)
        case atStart => exact ⟨0, Y, by omega, rfl, HO11.out, HG.out, HW11.out⟩
        case round =>
        clear HO11 HG HW11 HNY
        obtain ⟨k, Y, hk, rfl, ho, hg, hw⟩ := hrel
        have HO := Lib.hid ho; have HG := Lib.hid hg; have HW := Lib.hid hw
        obtain ⟨oa, oc, hov, -, -, -⟩ := ho.open
        obtain ⟨n, hn⟩ : ∃ n, Y.length = n := ⟨_, rfl⟩
        rw [hn] at hov
        subst hov
        clear ho hg hw hn
        by_cases hltk : k < N
        · have hkl : k < l.length := by rw [HN.out]; exact hltk
          obtain ⟨b', off', hao', _, d4, d5⟩ := HC.out k hkl
          cases hao'
          have hzg : l.getD k zs = l[k] := by simp [List.getD, List.getElem?_eq_getElem hkl]
          have hzv := HV.out l[k] (List.getElem_mem hkl)
          generalize l[k] = z at *
          obtain ⟨zp, zm⟩ := z
          simp only at d4 d5
          have g1 := rget_ok zp zm f hzv HF24.out
          have g2 := rget_ok xp xm f HXV.out HF24.out
          have g3 := rget_ok yp ym f HYV.out HF24.out
          have hvz : vld zp zm = true := hzv
          have hwi : ∀ W, Gives 66 #[.agg #[.int .u32 (zp.toNat : Int), .int .u32 (zm.toNat : Int)], .int .i64 (f : Int), .int .i64 (getV yp ym f)] W (.tuple #[.agg #[.int .u32 ((gapS (zp, zm) (swp (xp, xm) (yp, ym))).1.toNat : Int), .int .u32 ((gapS (zp, zm) (swp (xp, xm) (yp, ym))).2.toNat : Int)], .int .i64 0]) := fun W => by
            have h := rwith_any zp zm (f : Int) (getV yp ym f) W
            have hin : 0 ≤ (f : Int) ∧ (f : Int) < 24 := ⟨by omega, by have := HF24.out; omega⟩
            have hv3 : getV yp ym f = 1 ∨ getV yp ym f = 0 ∨ getV yp ym f = -1 := getV_three _ _ _
            have hsw : gapS (zp, zm) (swp (xp, xm) (yp, ym)) = (withP zp f (getV yp ym f), withM zm f (getV yp ym f)) := by
              unfold gapS swp
              simp only [HF.out]
              rfl
            rw [hvz, if_pos rfl, if_pos hin, show (f : Int).toNat = f from by omega] at h
            rw [hsw]
            unfold withV at h
            rcases hv3 with e | e | e <;> (rw [e] at h ⊢; simpa using h)
          have htr : ∀ g, trip l i j k g ↔ getV zp zm f = getV xp xm f ∧ g = gapS (zp, zm) (swp (xp, xm) (yp, ym)) ∧ g ∉ l := fun g => by
            unfold trip
            rw [HXG.out, HYG.out, hzg, HF.out]
            have hone : one (xp, xm) (yp, ym) = true := by rw [← HXG.out, ← HYG.out]; exact HON.out
            exact ⟨fun h => h.2.2.2.2, fun h => ⟨hil, hjl, hkl, hone, h⟩⟩
          have HTR := Lib.hid htr
          generalize gapS (zp, zm) (swp (xp, xm) (yp, ym)) = gp at *
          have HG1 := Lib.hid g1; have HG2 := Lib.hid g2; have HG3 := Lib.hid g3; have HWI := Lib.hid hwi
          generalize getV zp zm f = vz at *
          generalize getV xp xm f = vx at *
          generalize getV yp ym f = vy at *
          clear g1 g2 g3 hwi htr hzg hzv hvz
          have KK : Hid (∀ W : World, Below w.heap.size w W → (W.cell? ⟨b, off + i * 2, none⟩ = some (.int .u32 (xp.toNat : Int)) ∧ W.cell? ⟨b, off + i * 2 + 1, none⟩ = some (.int .u32 (xm.toNat : Int))) ∧ (W.cell? ⟨b, off + j * 2, none⟩ = some (.int .u32 (yp.toNat : Int)) ∧ W.cell? ⟨b, off + j * 2 + 1, none⟩ = some (.int .u32 (ym.toNat : Int))) ∧ W.cell? ⟨b, off + k * 2, none⟩ = some (.int .u32 (zp.toNat : Int)) ∧ W.cell? ⟨b, off + k * 2 + 1, none⟩ = some (.int .u32 (zm.toNat : Int))) := Lib.hid (fun W hW => ⟨⟨(hW.cell (p := ⟨b, _, none⟩) LB.out).trans D0.out, (hW.cell (p := ⟨b, _, none⟩) LB.out).trans D1.out⟩, ⟨(hW.cell (p := ⟨b, _, none⟩) LB.out).trans D2.out, (hW.cell (p := ⟨b, _, none⟩) LB.out).trans D3.out⟩, (hW.cell (p := ⟨b, _, none⟩) LB.out).trans d4, (hW.cell (p := ⟨b, _, none⟩) LB.out).trans d5⟩)
          clear d4 d5
          have hk3 : (k : Int) < (N : Int) := by omega
          have hk0 : (0 : Int) ≤ (k : Int) := by omega
          obtain ⟨⟨k0, k1⟩, ⟨k2, k3⟩, k4, k5⟩ := KK.out wr HW.out
          have x0 := cell_regrown k0
          have x1 := cell_regrown k1
          have x4 := cell_regrown k4
          have x5 := cell_regrown k5
          go_wp2_with fail
          refine wp_region_quiet_below (by kernel_rfl) (by kernel_rfl) ?_
          try simp only [List.append]
          repeat (go_big_quiet_step (first | (go_at_call 65; with_reducible exact Calls.regrown_of (HG1.out _)) | (go_at_call 65; with_reducible exact Calls.regrown_of (HG2.out _))))
          refine wpQuiet_nil ?_
          intro w12 hw12
          have hB2 : Below wr.heap.size wr w12 := by obtain ⟨q, rfl⟩ := hw12; exact below_regrown _ _ _
          have HW12 := Lib.hid (HW.out.trans (hB2.mono HW.out.size)); have HO12 := Lib.hid (HO.out.below hB2)
          clear hw12 x0 x1 x4 x5 k0 k1 k2 k3 k4 k5 hB2 HW HO
          by_cases hvv : vz = vx
          · subst hvv
            have g9 : (vz != vz) = false := by simp
            rw [g9]
            clear g9
            go_wp2_with fail
            refine wp_region_late 14 16 [(15, .cells #[.int .u32 0, .int .u32 0] 27 (0, 0))] [0, 1, 2, 3, 4, 5, 6, 7, 8, 9, 10, 11, 12, 13, 14, 15] ?A8 _ (by simp [edged]; rfl) rfl rfl (by kernel_rfl) (by kernel_rfl) (by kernel_rfl) ?hrun8 (by simp [quiets, mkOf]; rfl) ?walk8 ?fin8
            case hrun8 =>
              intro x hx
              simp only [List.mem_cons, List.not_mem_nil, or_false] at hx
              rcases hx with rfl
              exact ⟨_, rfl, rfl, fun a w => by simp [go_sem, ptr]⟩
            case walk8 =>
              intro W2 hW2
              obtain ⟨⟨k0, k1⟩, ⟨k2, k3⟩, k4, k5⟩ := KK.out W2 (HW12.out.trans (hW2.mono HW12.out.size))
              have x2 := cell_regrown k2
              have x3 := cell_regrown k3
              have x4 := cell_regrown k4
              have x5 := cell_regrown k5
              repeat (go_big_quiet_step (first
                | (go_at_call 65; with_reducible exact Calls.regrown_of (HG3.out _))
                | (go_at_call 66; with_reducible exact Calls.regrown_of (HWI.out _))))
              refine wpQuiet_nil ?_
              rfl
            intro bs w13 hb hF hN
            obtain ⟨hq, hqb⟩ := hF (15, .cells #[.int .u32 0, .int .u32 0] 27 (0, 0)) (by simp)
            simp only [List.map_cons, List.map_nil, List.foldr_cons, List.foldr_nil] at *
            generalize bs 15 = q at *
            obtain ⟨gpp, gpm⟩ := gp
            have HB13 := Lib.hid (hb.setCell2 hq (.int .u32 (gpp.toNat : Int)) (.int .u32 (gpm.toNat : Int)))
            have R3 := Lib.hid (two_set (x' := .int .u32 (gpp.toNat : Int)) (y' := .int .u32 (gpm.toNat : Int)) hqb)
            have c0 := cell_block hqb (o := 0) rfl
            have c1 := cell_block hqb (o := 1) rfl
            have f0 := frozen_block hqb (o := 0)
            have f1 := frozen_block hqb (o := 1)
            clear bs hF hN hb hqb KK HG1 HG2 HG3 HWI hq
            simp only [dstOf, ptr, Act.put, List.getElem?_toArray, List.getElem?_cons_succ, List.getElem?_cons_zero, Option.bind_some, List.setIfInBounds_toArray, List.set_cons_zero, List.set_cons_succ, List.drop_succ_cons, List.drop_zero]
            go_wp2_with fail
            generalize ((w13.setCell ⟨q, 0, none⟩ (.int .u32 (gpp.toNat : Int))).setCell ⟨q, 1, none⟩ (.int .u32 (gpm.toNat : Int))) = w14 at *
            have HW14 := Lib.hid (HW12.out.trans (HB13.out.mono HW12.out.size)); have HO14 := Lib.hid (HO12.out.below HB13.out)
            have HWL := Lib.hid (HWD0.out.below HW14.out)
            clear c0 c1 f0 f1 HB13 HW12 HO12
            have c0 := cell_block R3.out (o := 0) rfl
            have c1 := cell_block R3.out (o := 1) rfl
            have hha := rhas_any l (gpp, gpm) _ w14 HWL.out
            have HHA := Lib.hid hha
            clear hha
            refine ⟨rfl, ?_⟩
            go_wp2_with fail
            go_at_call 52
            refine Gives.then HHA.out ?_
            intro w15 hb15
            have HW15 := Lib.hid (HW14.out.trans (hb15.mono HW14.out.size)); have HO15 := Lib.hid (HO14.out.below hb15)
            have R15 := Lib.hid ((hb15.block _ (Array.getElem?_eq_some_iff.1 R3.out).1).trans R3.out)
            clear hb15 c0 c1 R3 HHA HWL HW14 HO14
            by_cases hml : (gpp, gpm) ∈ l
            · have HGN := Lib.hid (HG.out.no fun g h => by
                have h2 := (HTR.out g).1 h
                rw [h2.2.1] at h2
                exact h2.2.2 hml)
              rw [decide_eq_true hml]
              clear hml
              go_wp2_with fail
              go_roundw
              case rel => exact ⟨k + 1, Y, by omega, by go_num, HO15.out, HGN.out, HW15.out⟩
              case measure => simp [intOf]; omega
            · have htt : trip l i j k (gpp, gpm) := (HTR.out (gpp, gpm)).2 (by refine ⟨?_, ?_, hml⟩ <;> first | exact True.intro | rfl)
              rw [decide_eq_false hml]
              have hY := HG.out.len (by rw [HN.out]; exact l2)
              have had := add_any Y (gpp, gpm) _ w15 HO15.out HG.out.1 (by omega)
              have HAD := Lib.hid had; have HTT := Lib.hid htt
              clear hml had htt hY
              have c0 := cell_block R15.out (o := 0) rfl
              have c1 := cell_block R15.out (o := 1) rfl
              go_wp2_with fail
              go_at_call 67
              refine HAD.out.mono ?_
              rintro e w16 ⟨m16, Z, rfl, hwz, hiz, hnz, hb16⟩
              have HW16 := Lib.hid (HW15.out.trans (hb16.mono HW15.out.size)); have HZ := Lib.hid hwz; have HGZ := Lib.hid (HG.out.yes HTT.out hiz hnz)
              clear hb16 hwz hiz hnz c0 c1
              go_wp2_with fail
              go_roundw
              case rel => exact ⟨k + 1, Z, by omega, by go_num, HZ.out, HGZ.out, HW16.out⟩
              case measure => simp [intOf]; omega
          · have g9 : (vz != vx) = true := by rw [bne_iff_ne]; exact hvv
            rw [g9]
            clear g9
            have HGN := Lib.hid (HG.out.no fun g h => hvv ((HTR.out g).1 h).1)
            clear hvv KK
            go_wp2_with fail
            go_roundw
            case rel => exact ⟨k + 1, Y, by omega, by go_num, HO12.out, HGN.out, HW12.out⟩
            case measure => simp [intOf]; omega
        · obtain rfl : k = N := by omega
          have HGE := Lib.hid (HG.out.congr fun g => (by have h := @Pd.row l i j g; rw [HN.out] at h; exact h : Pd l i j k g ↔ Pd l i (j + 1) 0 g))
          clear hltk
          go_wp2_with fail
          go_roundw
          case rel => exact ⟨j + 1, Y, by omega, by go_num, HO.out, HGE.out, HW.out⟩
          case measure => simp [intOf]; omega
      · obtain rfl : j = N := by omega
        have HGE := Lib.hid (HG.out.congr fun g => (by have h := @Pd.out l i g; rw [HN.out] at h; exact h : Pd l i j 0 g ↔ Pd l (i + 1) 0 0 g))
        clear hltj
        go_wp2_with fail
        go_roundw
        case rel => exact ⟨i + 1, Y, by omega, by go_num, HO.out, HGE.out, HW.out⟩
        case measure => simp [intOf]; omega
    · obtain rfl : i = N := by omega
      have HO := Lib.hid ho; have HG := Lib.hid hg; have HW := Lib.hid hw
      have hfin : GpY l Y := ⟨fun _ => ⟨hg.1, fun g => by rw [hg.2 g]; have h := @Pd.all l g; rw [HN.out] at h; exact h⟩, fun h => absurd HEE.out h⟩
      have HFIN := Lib.hid hfin
      clear ho hg hw hlt hfin
      go_wp2_with fail
      go_ret2
      exact ⟨_, Y, rfl, HO.out, HFIN.out, HW.out⟩
  · have g1 : (E == 0) = false := by simpa using h0
    have HFIN := Lib.hid (show GpY l [] from ⟨fun h => absurd (HEE.out.symm.trans h) h0, fun _ => rfl⟩)
    clear HVL HLN
    go_enter Tryd.func30, Tryd.ntmps30
    go_wp2_with fail
    go_at_call 51
    refine Gives.then HCK.out ?_
    intro w1 hb1
    have HB1 := Lib.hid hb1
    clear hb1
    go_wp2_with fail
    go_ret2
    exact ⟨_, [], rfl, Wd.nil _, HFIN.out, HB1.out⟩
end Go.Proofs.YtpnmapfabjdfjaaDoor

/-
  NaturalPairs, walked.
-/
namespace Go.Proofs.YtpnmapfabjdfjaaDoor
open Go.RowKit Go.Sort
theorem gpY_same {l Y Z : List Snd} (h1 : GpY l Y) (h2 : GpY l Z) : Y = Z := by
  by_cases h : ckE l 256 = 0
  · exact inc_same (h1.1 h).1 (h2.1 h).1 fun g => by rw [(h1.1 h).2, (h2.1 h).2]
  · rw [h1.2 h, h2.2 h]
theorem few_len {n : Nat} (h : fewB n = true) : n ≤ 300 := by
  unfold fewB at h
  simp at h
  omega
set_option maxRecDepth 100000 in
set_option maxHeartbeats 8000000 in
theorem natpairs_any (l : List Snd) (v : Value) (w : World) (h : Wd w v l) (hT : Tab w) (lT : 0 < w.heap.size) : Gives 5 #[v] w (.bool true) := by
  unfold Gives
  have HT := Lib.hid hT; have LT := Lib.hid lT; have HV0 := Lib.hid h; have HB0 := Lib.hid (Below.refl w.heap.size w)
  have hfew := few_any l v w h
  clear hT lT
  obtain ⟨ao, cap, rfl, -, -, -⟩ := h.open
  clear h
  obtain ⟨N, hN⟩ : ∃ N, l.length = N := ⟨_, rfl⟩
  rw [hN] at hfew HV0 ⊢
  have HF := Lib.hid hfew; have HN := Lib.hid hN
  clear hfew hN
  rcases hfw : fewB N with _ | _
  · rw [hfw] at HF
    clear hfw
    go_enter Tryd.func5, Tryd.ntmps5
    go_wp2_with fail
    go_at_call 13
    refine Gives.then HF.out ?_
    intro w1 hb1
    have HW1 := Lib.hid hb1
    clear hb1
    go_wp2_with fail
    go_at_call 14
    refine Gives.then (works_any _ (HT.out.below HW1.out LT.out) (Nat.lt_of_lt_of_le LT.out HW1.out.size)) ?_
    intro w2 hb2
    have HW2 := Lib.hid (HW1.out.trans (hb2.mono HW1.out.size))
    clear hb2
    go_wp2_with fail
    go_returns
    exact ⟨rfl, HW2.out⟩
  rw [hfw] at HF
  have hn3 := few_len hfw
  clear hfw
  go_enter Tryd.func5, Tryd.ntmps5
  go_wp2_with fail
  go_at_call 13
  refine Gives.then HF.out ?_
  intro w1 hbw1
  have HBw1 := Lib.hid (HB0.out.trans (hbw1.mono HB0.out.size))
  have HV0 := Lib.hid (HV0.out.below hbw1)
  clear hbw1
  clear HF
  have hem := (Below.refl w1.heap.size w1).alloc (Nat.le_refl _) (.cells #[] 27)
  have HEM := Lib.hid hem; have HOE := Lib.hid (Own.empty w1); have HVE := Lib.hid (HV0.out.below hem)
  clear hem
  go_wp2_with (at_builtin; refine wpList_app rfl (.tmp 21) (.tmp 22) 22 Tryd.underlying22 rfl w1.heap.size _ _ [] l rfl rfl HOE.out HVE.out (by rw [HN.out]; simp; omega) (by rw [World.size_alloc]; omega) ?_; intro v2 w2 ho2 hk2 hz2; have HIN := Lib.hid ho2.wd; have hbw2 : Below w1.heap.size w1 w2 := hk2 _ _ (Nat.le_refl _) HEM.out; clear ho2 hk2 hz2)
  rw [List.nil_append] at HIN
  obtain ⟨a2, c2, hv2, -⟩ := HIN.out.open
  rw [HN.out] at hv2
  subst hv2
  clear HEM HOE HVE
  have HBw2 := Lib.hid (HBw1.out.trans (hbw2.mono HBw1.out.size))
  have HV0 := Lib.hid (HV0.out.below hbw2)
  clear hbw2
  go_at_call 25
  refine (pairs_any l _ w2 HIN.out).mono ?_
  rintro e w3 ⟨m1, rfl, hop, hbw3⟩
  have HPS1 := Lib.hid hop.ps
  obtain ⟨a4, k4, hm⟩ := hop.slice
  clear hop
  obtain ⟨M, hM⟩ : ∃ M, (prsM l).length = M := ⟨_, rfl⟩
  have HM := Lib.hid hM
  clear hM
  rw [HM.out] at hm
  subst hm
  have HBw3 := Lib.hid (HBw2.out.trans (hbw3.mono HBw2.out.size))
  have HV0 := Lib.hid (HV0.out.below hbw3)
  have HIN := Lib.hid (HIN.out.below hbw3)
  clear hbw3
  go_wp2_with fail
  go_at_call 26
  refine (rpairs_any l _ w3 HV0.out).mono ?_
  rintro e w4 ⟨m2, rfl, hop, hbw4⟩
  have HPS2 := Lib.hid hop.ps
  obtain ⟨a6, k6, hm⟩ := hop.slice
  clear hop
  rw [HM.out] at hm
  subst hm
  have HBw4 := Lib.hid (HBw3.out.trans (hbw4.mono HBw3.out.size))
  have HV0 := Lib.hid (HV0.out.below hbw4)
  have HIN := Lib.hid (HIN.out.below hbw4)
  have HPS1 := Lib.hid (HPS1.out.below hbw4)
  clear hbw4
  obtain ⟨E, hE⟩ : ∃ E, ckE l 256 = E := ⟨_, rfl⟩
  rw [hE]
  have HE := Lib.hid hE
  clear hE
  go_wp2_with fail
  obtain ⟨ax, kx, hax, -, hxm, hxc⟩ := HPS1.out.open
  rw [HM.out] at hax
  obtain ⟨rfl, rfl⟩ : a4 = ax ∧ k4 = kx := by injection hax with x y z; exact ⟨x, z⟩
  obtain ⟨ay, ky, hay, hyk, hym, hyc⟩ := HPS2.out.open
  rw [HM.out] at hay hyk
  obtain ⟨rfl, rfl⟩ : a6 = ay ∧ k6 = ky := by injection hay with x y z; exact ⟨x, z⟩
  have lM : M ≤ 9223372036854775807 := by unfold maxLen at hym; omega
  have HXC := Lib.hid hxc; have HYC := Lib.hid hyc
  clear hax hay hxc hyc hxm hym hyk
  go_loopw [8] (fun i wr => ∃ k : Nat, k ≤ M ∧ i = .int .i64 (k : Int) ∧ Below w4.heap.size w4 wr) (fun i _ => M - (intOf i).toNat)
  case atStart => exact ⟨0, by omega, rfl, Below.refl _ _⟩
  case round =>
  obtain ⟨k, hk, rfl, hw⟩ := hrel
  by_cases hlt : k < M
  · have hkl : k < (prsM l).length := by rw [HM.out]; exact hlt
    obtain ⟨bx, hbx, lx, d0, d1⟩ := HXC.out k hkl
    obtain ⟨b2, hby, ly, d2, d3⟩ := HYC.out k hkl
    subst hbx; subst hby
    have d0 := (hw.cell (p := ⟨bx, _, none⟩) lx).trans d0
    have d1 := (hw.cell (p := ⟨bx, _, none⟩) lx).trans d1
    have d2 := (hw.cell (p := ⟨b2, _, none⟩) ly).trans d2
    have d3 := (hw.cell (p := ⟨b2, _, none⟩) ly).trans d3
    generalize (prsM l)[k] = x at *
    obtain ⟨xi, xj⟩ := x
    simp only at d0 d1 d2 d3
    have hne : ∀ W, (binOp .neq 44 (.agg #[.int .i64 (xi : Int), .int .i64 (xj : Int)]) (.agg #[.int .i64 (xi : Int), .int .i64 (xj : Int)])).run Tryd.prog W = .ok (.bool false) W := fun W => by
      have h := pair_neql (xi : Int) (xj : Int) (xi : Int) (xj : Int) W
      simpa using h
    have HW := Lib.hid hw
    have hk3 : (k : Int) < (M : Int) := by omega
    have hk0 : (0 : Int) ≤ (k : Int) := by omega
    clear hw HXC HYC
    go_wp2_with fail
    go_region
    all_goals go_wp2_with fail
    all_goals (
      go_roundw
      case rel => exact ⟨k + 1, by omega, by go_num, HW.out.drew⟩
      case measure => simp [intOf]; omega)
  obtain rfl : k = M := by omega
  have hbR := hw
  clear hw hlt HXC HYC
  have HBwr := Lib.hid (HBw4.out.trans (hbR.mono HBw4.out.size))
  have HV0 := Lib.hid (HV0.out.below hbR)
  have HIN := Lib.hid (HIN.out.below hbR)
  clear hbR
  go_wp2_with fail
  have hc := needed_any l _ wr HIN.out
  rw [HE.out] at hc
  have HC := Lib.hid hc
  clear hc
  go_at_call 27
  (with_reducible refine Gives.then (HC.out) ?_)
  intro w21 hbw21
  have HBw21 := Lib.hid (HBwr.out.trans (hbw21.mono HBwr.out.size))
  have HV0 := Lib.hid (HV0.out.below hbw21)
  have HIN := Lib.hid (HIN.out.below hbw21)
  clear hbw21
  go_wp2_with fail
  clear HC
  have hc := rneeded_any l _ w21 HV0.out
  rw [HE.out] at hc
  have HC := Lib.hid hc
  clear hc
  go_at_call 28
  (with_reducible refine Gives.then (HC.out) ?_)
  intro w22 hbw22
  have HBw22 := Lib.hid (HBw21.out.trans (hbw22.mono HBw21.out.size))
  have HV0 := Lib.hid (HV0.out.below hbw22)
  have HIN := Lib.hid (HIN.out.below hbw22)
  clear hbw22
  go_wp2_with fail
  clear HC
  go_at_call 29
  refine (gaps_any l _ w22 HIN.out (HT.out.below HBw22.out LT.out) (Nat.lt_of_lt_of_le LT.out HBw22.out.size)).mono ?_
  rintro e w23 ⟨m9, Y, rfl, hwd, hy1, hy2, hbw23⟩
  have HY1 := Lib.hid hwd; have HG1 := Lib.hid (⟨hy1, hy2⟩ : GpY l Y)
  clear hwd hy1 hy2
  rw [HE.out]
  have HBw23 := Lib.hid (HBw22.out.trans (hbw23.mono HBw22.out.size))
  have HV0 := Lib.hid (HV0.out.below hbw23)
  have HIN := Lib.hid (HIN.out.below hbw23)
  clear hbw23
  go_wp2_with fail
  go_at_call 30
  refine (rgaps_any l _ w23 HV0.out).mono ?_
  rintro e w24 ⟨m10, Y2, rfl, hwd, hy, hbw24⟩
  obtain rfl := gpY_same HG1.out hy
  have HY2 := Lib.hid hwd
  clear hwd hy
  rw [HE.out]
  have HBw24 := Lib.hid (HBw23.out.trans (hbw24.mono HBw23.out.size))
  have HV0 := Lib.hid (HV0.out.below hbw24)
  have HIN := Lib.hid (HIN.out.below hbw24)
  have HY1 := Lib.hid (HY1.out.below hbw24)
  clear hbw24
  go_wp2_with fail
  have hsm := same_any Y Y _ _ w24 HY1.out HY2.out
  rw [decide_eq_true rfl] at hsm
  have HSM := Lib.hid hsm
  clear hsm
  go_at_call 22
  refine Gives.then HSM.out ?_
  intro w25 hbw25
  clear HSM
  have HBw25 := Lib.hid (HBw24.out.trans (hbw25.mono HBw24.out.size))
  have HV0 := Lib.hid (HV0.out.below hbw25)
  have HIN := Lib.hid (HIN.out.below hbw25)
  have HY1 := Lib.hid (HY1.out.below hbw25)
  have HY2 := Lib.hid (HY2.out.below hbw25)
  clear hbw25
  go_wp2_with fail
  have hsm := same_any l l _ _ w25 HIN.out HV0.out
  rw [decide_eq_true rfl] at hsm
  have HSM := Lib.hid hsm
  clear hsm
  go_at_call 22
  refine Gives.then HSM.out ?_
  intro w26 hbw26
  clear HSM
  have HBw26 := Lib.hid (HBw25.out.trans (hbw26.mono HBw25.out.size))
  have HV0 := Lib.hid (HV0.out.below hbw26)
  have HIN := Lib.hid (HIN.out.below hbw26)
  have HY1 := Lib.hid (HY1.out.below hbw26)
  have HY2 := Lib.hid (HY2.out.below hbw26)
  clear hbw26
  go_wp2_with fail
  go_at_call 14
  refine Gives.then (works_any _ (HT.out.below HBw26.out LT.out) (Nat.lt_of_lt_of_le LT.out HBw26.out.size)) ?_
  intro w6 hb6
  have HW6 := Lib.hid (HBw26.out.trans (hb6.mono HBw26.out.size))
  clear hb6
  go_wp2_with fail
  go_returns
  exact ⟨rfl, HW6.out⟩
end Go.Proofs.YtpnmapfabjdfjaaDoor

/-
  NaturalClasses, walked.
-/
namespace Go.Proofs.YtpnmapfabjdfjaaDoor
open Go.RowKit Go.Sort
theorem snd_same (p q : BitVec 32) (W : World) : (binOp .neq 27 (.agg #[.int .u32 (p.toNat : Int), .int .u32 (q.toNat : Int)]) (.agg #[.int .u32 (p.toNat : Int), .int .u32 (q.toNat : Int)])).run Tryd.prog W = .ok (.bool false) W := by
  have h := snd_neq (p.toNat : Int) (q.toNat : Int) (p.toNat : Int) (q.toNat : Int) W
  simpa using h
set_option maxRecDepth 100000 in
set_option maxHeartbeats 8000000 in
theorem classes_any (l s : List Snd) (v u : Value) (w : World) (h : Wd w v l) (hu : Wd w u s) (hT : Tab w) (lT : 0 < w.heap.size) : Gives 3 #[v, u] w (.bool true) := by
  unfold Gives
  have HT := Lib.hid hT; have LT := Lib.hid lT; have HV0 := Lib.hid h; have HU0 := Lib.hid hu; have HB0 := Lib.hid (Below.refl w.heap.size w)
  have hfew := few_any l v w h
  clear hT lT
  obtain ⟨ao, cap, rfl, -, -, -⟩ := h.open
  obtain ⟨uo, ucap, rfl, -, -, -⟩ := hu.open
  clear h hu
  obtain ⟨N, hN⟩ : ∃ N, l.length = N := ⟨_, rfl⟩
  obtain ⟨M, hM⟩ : ∃ M, s.length = M := ⟨_, rfl⟩
  rw [hN] at hfew HV0
  rw [hM] at HU0
  rw [hN, hM]
  have HF := Lib.hid hfew; have HN := Lib.hid hN; have HM := Lib.hid hM
  clear hfew hN hM
  rcases hfw : fewB N with _ | _
  · rw [hfw] at HF
    clear hfw
    go_enter Tryd.func3, Tryd.ntmps3
    go_wp2_with fail
    go_at_call 13
    refine Gives.then HF.out ?_
    intro w1 hb1
    have HW1 := Lib.hid hb1
    clear hb1
    go_wp2_with fail
    go_at_call 14
    refine Gives.then (works_any _ (HT.out.below HW1.out LT.out) (Nat.lt_of_lt_of_le LT.out HW1.out.size)) ?_
    intro w2 hb2
    have HW2 := Lib.hid (HW1.out.trans (hb2.mono HW1.out.size))
    clear hb2
    go_wp2_with fail
    go_returns
    exact ⟨rfl, HW2.out⟩
  rw [hfw] at HF
  have hn3 := few_len hfw
  clear hfw
  by_cases h40 : 40 < M
  · have g1 : decide ((40 : Int) < (M : Int)) = true := decide_eq_true (by omega)
    have g1' : decide (40 < M) = true := decide_eq_true h40
    go_enter Tryd.func3, Tryd.ntmps3
    go_wp2_with fail
    go_at_call 13
    refine Gives.then HF.out ?_
    intro w1 hb1
    have HW1 := Lib.hid hb1
    clear hb1
    go_wp2_with fail
    go_at_call 14
    refine Gives.then (works_any _ (HT.out.below HW1.out LT.out) (Nat.lt_of_lt_of_le LT.out HW1.out.size)) ?_
    intro w2 hb2
    have HW2 := Lib.hid (HW1.out.trans (hb2.mono HW1.out.size))
    clear hb2
    go_wp2_with fail
    go_returns
    exact ⟨rfl, HW2.out⟩
  have g1 : decide ((40 : Int) < (M : Int)) = false := decide_eq_false (by omega)
  have g1' : decide (40 < M) = false := decide_eq_false h40
  go_enter Tryd.func3, Tryd.ntmps3
  go_wp2_with fail
  go_at_call 13
  refine Gives.then HF.out ?_
  intro w1 hbw1
  have HBw1 := Lib.hid (HB0.out.trans (hbw1.mono HB0.out.size))
  have HV0 := Lib.hid (HV0.out.below hbw1)
  have HU0 := Lib.hid (HU0.out.below hbw1)
  clear hbw1
  clear HF
  have hem := (Below.refl w1.heap.size w1).alloc (Nat.le_refl _) (.cells #[] 27)
  have HEM := Lib.hid hem; have HOE := Lib.hid (Own.empty w1); have HVE := Lib.hid (HV0.out.below hem)
  clear hem
  go_wp2_with (first | (at_builtin; refine wpList_app rfl (.tmp 32) (.tmp 33) 22 Tryd.underlying22 rfl w1.heap.size _ _ [] l rfl rfl HOE.out HVE.out (by rw [HN.out]; simp; omega) (by rw [World.size_alloc]; omega) ?_; intro v2 w2 ho2 hk2 hz2; have hbw2 : Below w1.heap.size w1 w2 := hk2 _ _ (Nat.le_refl _) HEM.out; have hem2 := (Below.refl w2.heap.size w2).alloc (Nat.le_refl _) (.cells #[] 27); have HEM2 := Lib.hid hem2; have HOE2 := Lib.hid (Own.empty w2); have HVE2 := Lib.hid ((HU0.out.below hbw2).below hem2); have HIN2 := Lib.hid ho2.wd; have HBW2 := Lib.hid hbw2; clear ho2 hk2 hz2 hbw2 hem2) | (at_builtin; refine wpList_app rfl (.tmp 35) (.tmp 36) 22 Tryd.underlying22 rfl w2.heap.size _ _ [] s rfl rfl HOE2.out HVE2.out (by rw [HM.out]; simp; omega) (by rw [World.size_alloc]; omega) ?_; intro v3 w3 ho3 hk3 hz3; have hbw3 : Below w2.heap.size w2 w3 := hk3 _ _ (Nat.le_refl _) HEM2.out; have HIN := Lib.hid (HIN2.out.below hbw3); have HPT := Lib.hid ho3.wd; have hbw3' : Below w1.heap.size w1 w3 := HBW2.out.trans (hbw3.mono HBW2.out.size); clear ho3 hk3 hz3 hbw3))
  rw [List.nil_append] at HIN HPT
  obtain ⟨a2, c2, hv2, -⟩ := HIN.out.open
  rw [HN.out] at hv2
  subst hv2
  obtain ⟨a3, c3, hv3, -⟩ := HPT.out.open
  rw [HM.out] at hv3
  subst hv3
  clear HEM HOE HVE HEM2 HOE2 HVE2 HIN2 HBW2
  have HBw3 := Lib.hid (HBw1.out.trans (hbw3'.mono HBw1.out.size))
  have HV0 := Lib.hid (HV0.out.below hbw3')
  have HU0 := Lib.hid (HU0.out.below hbw3')
  clear hbw3'
  obtain ⟨E, hE⟩ : ∃ E, cloE l s = E := ⟨_, rfl⟩
  obtain ⟨C, hC⟩ : ∃ C, cloC l s = C := ⟨_, rfl⟩
  obtain ⟨X, hX⟩ : ∃ X, cloM l s = X := ⟨_, rfl⟩
  obtain ⟨B, hB⟩ : ∃ B, isB l s = B := ⟨_, rfl⟩
  obtain ⟨R, hR⟩ : ∃ R, shoS l s = R := ⟨_, rfl⟩
  have HE := Lib.hid hE; have HC := Lib.hid hC; have HX := Lib.hid hX; have HB := Lib.hid hB; have HR := Lib.hid hR
  obtain ⟨cp, cq⟩ := C
  obtain ⟨rp, rq⟩ := R
  have hn1 := snd_same cp cq
  have hn2 := snd_same rp rq
  clear hE hC hX hB hR
  have hc : Calls Tryd.prog 15 #[.slice a2 N c2, .slice a3 M c3] w3 fun e w' => ∃ m, e = .returned (.tuple #[.agg #[.int .u32 (cp.toNat : Int), .int .u32 (cq.toNat : Int)], m, .int .i64 E]) ∧ OwnI w' w3.heap.size m X ∧ Below w3.heap.size w3 w' := by
    have h := closure_any l s _ _ w3 HIN.out HPT.out
    rw [HC.out, HX.out, HE.out] at h
    exact h
  have HQ := Lib.hid hc
  clear hc
  go_at_call 15
  refine (HQ.out).mono ?_
  rintro e w4 ⟨mHM1, rfl, hoi, hbw4⟩
  have HM1 := Lib.hid hoi.is
  clear hoi HQ
  have HBw4 := Lib.hid (HBw3.out.trans (hbw4.mono HBw3.out.size))
  have HV0 := Lib.hid (HV0.out.below hbw4)
  have HU0 := Lib.hid (HU0.out.below hbw4)
  have HIN := Lib.hid (HIN.out.below hbw4)
  have HPT := Lib.hid (HPT.out.below hbw4)
  clear hbw4
  go_wp2_with fail
  have k := World.alloc_heap_new w4 (.cells #[.int .u32 (cp.toNat : Int), .int .u32 (cq.toNat : Int)] 27)
  have hbw5 : Below w4.heap.size w4 (w4.alloc (.cells #[.int .u32 (cp.toNat : Int), .int .u32 (cq.toNat : Int)] 27)) := (Below.refl _ _).alloc (Nat.le_refl _) _
  generalize w4.alloc (.cells #[.int .u32 (cp.toNat : Int), .int .u32 (cq.toNat : Int)] 27) = w5 at *
  have HBw5 := Lib.hid (HBw4.out.trans (hbw5.mono HBw4.out.size))
  have HV0 := Lib.hid (HV0.out.below hbw5)
  have HU0 := Lib.hid (HU0.out.below hbw5)
  have HIN := Lib.hid (HIN.out.below hbw5)
  have HPT := Lib.hid (HPT.out.below hbw5)
  have HM1 := Lib.hid (HM1.out.below hbw5)
  clear hbw5
  have K1 := Lib.hid k
  clear k
  generalize w4.heap.size = B1 at *
  have hc : Calls Tryd.prog 16 #[.slice ao N cap, .slice uo M ucap] w5 fun e w' => ∃ m, e = .returned (.tuple #[.agg #[.int .u32 (cp.toNat : Int), .int .u32 (cq.toNat : Int)], m, .int .i64 E]) ∧ OwnI w' w5.heap.size m X ∧ Below w5.heap.size w5 w' := by
    have h := rclosure_any l s _ _ w5 HV0.out HU0.out
    rw [HC.out, HX.out, HE.out] at h
    exact h
  have HQ := Lib.hid hc
  clear hc
  go_at_call 16
  refine (HQ.out).mono ?_
  rintro e w6 ⟨mHM2, rfl, hoi, hbw6⟩
  have HM2 := Lib.hid hoi.is
  clear hoi HQ
  have HBw6 := Lib.hid (HBw5.out.trans (hbw6.mono HBw5.out.size))
  have HV0 := Lib.hid (HV0.out.below hbw6)
  have HU0 := Lib.hid (HU0.out.below hbw6)
  have HIN := Lib.hid (HIN.out.below hbw6)
  have HPT := Lib.hid (HPT.out.below hbw6)
  have HM1 := Lib.hid (HM1.out.below hbw6)
  have K1 := Lib.hid ((hbw6.block _ (Array.getElem?_eq_some_iff.1 K1.out).1).trans K1.out)
  clear hbw6
  go_wp2_with fail
  have k := World.alloc_heap_new w6 (.cells #[.int .u32 (cp.toNat : Int), .int .u32 (cq.toNat : Int)] 27)
  have hbw7 : Below w6.heap.size w6 (w6.alloc (.cells #[.int .u32 (cp.toNat : Int), .int .u32 (cq.toNat : Int)] 27)) := (Below.refl _ _).alloc (Nat.le_refl _) _
  generalize w6.alloc (.cells #[.int .u32 (cp.toNat : Int), .int .u32 (cq.toNat : Int)] 27) = w7 at *
  have HBw7 := Lib.hid (HBw6.out.trans (hbw7.mono HBw6.out.size))
  have HV0 := Lib.hid (HV0.out.below hbw7)
  have HU0 := Lib.hid (HU0.out.below hbw7)
  have HIN := Lib.hid (HIN.out.below hbw7)
  have HPT := Lib.hid (HPT.out.below hbw7)
  have HM1 := Lib.hid (HM1.out.below hbw7)
  have K1 := Lib.hid ((hbw7.block _ (Array.getElem?_eq_some_iff.1 K1.out).1).trans K1.out)
  have HM2 := Lib.hid (HM2.out.below hbw7)
  clear hbw7
  have K2 := Lib.hid k
  clear k
  generalize w6.heap.size = B2 at *
  have hc : Gives 17 #[.slice a2 N c2, .slice a3 M c3] w7 (.tuple #[.bool B, .int .i64 E]) := by
    have h := is_any l s _ _ w7 HIN.out HPT.out
    rw [HB.out, HE.out] at h
    exact h
  have HQ := Lib.hid hc
  clear hc
  go_at_call 17
  (with_reducible refine Gives.then (HQ.out) ?_)
  intro w8 hbw8
  have HBw8 := Lib.hid (HBw7.out.trans (hbw8.mono HBw7.out.size))
  have HV0 := Lib.hid (HV0.out.below hbw8)
  have HU0 := Lib.hid (HU0.out.below hbw8)
  have HIN := Lib.hid (HIN.out.below hbw8)
  have HPT := Lib.hid (HPT.out.below hbw8)
  have HM1 := Lib.hid (HM1.out.below hbw8)
  have K1 := Lib.hid ((hbw8.block _ (Array.getElem?_eq_some_iff.1 K1.out).1).trans K1.out)
  have HM2 := Lib.hid (HM2.out.below hbw8)
  have K2 := Lib.hid ((hbw8.block _ (Array.getElem?_eq_some_iff.1 K2.out).1).trans K2.out)
  clear hbw8
  clear HQ
  go_wp2_with fail
  have hc : Gives 18 #[.slice ao N cap, .slice uo M ucap] w8 (.tuple #[.bool B, .int .i64 E]) := by
    have h := ris_any l s _ _ w8 HV0.out HU0.out
    rw [HB.out, HE.out] at h
    exact h
  have HQ := Lib.hid hc
  clear hc
  go_at_call 18
  (with_reducible refine Gives.then (HQ.out) ?_)
  intro w9 hbw9
  have HBw9 := Lib.hid (HBw8.out.trans (hbw9.mono HBw8.out.size))
  have HV0 := Lib.hid (HV0.out.below hbw9)
  have HU0 := Lib.hid (HU0.out.below hbw9)
  have HIN := Lib.hid (HIN.out.below hbw9)
  have HPT := Lib.hid (HPT.out.below hbw9)
  have HM1 := Lib.hid (HM1.out.below hbw9)
  have K1 := Lib.hid ((hbw9.block _ (Array.getElem?_eq_some_iff.1 K1.out).1).trans K1.out)
  have HM2 := Lib.hid (HM2.out.below hbw9)
  have K2 := Lib.hid ((hbw9.block _ (Array.getElem?_eq_some_iff.1 K2.out).1).trans K2.out)
  clear hbw9
  clear HQ
  go_wp2_with fail
  have hc : Gives 19 #[.slice a2 N c2, .slice a3 M c3] w9 (.tuple #[.agg #[.int .u32 (rp.toNat : Int), .int .u32 (rq.toNat : Int)], .bool B, .int .i64 E]) := by
    have h := shortestE_any l s _ _ w9 HIN.out HPT.out
    rw [HR.out, HB.out, HE.out] at h
    exact h
  have HQ := Lib.hid hc
  clear hc
  go_at_call 19
  (with_reducible refine Gives.then (HQ.out) ?_)
  intro w10 hbw10
  have HBw10 := Lib.hid (HBw9.out.trans (hbw10.mono HBw9.out.size))
  have HV0 := Lib.hid (HV0.out.below hbw10)
  have HU0 := Lib.hid (HU0.out.below hbw10)
  have HIN := Lib.hid (HIN.out.below hbw10)
  have HPT := Lib.hid (HPT.out.below hbw10)
  have HM1 := Lib.hid (HM1.out.below hbw10)
  have K1 := Lib.hid ((hbw10.block _ (Array.getElem?_eq_some_iff.1 K1.out).1).trans K1.out)
  have HM2 := Lib.hid (HM2.out.below hbw10)
  have K2 := Lib.hid ((hbw10.block _ (Array.getElem?_eq_some_iff.1 K2.out).1).trans K2.out)
  clear hbw10
  clear HQ
  go_wp2_with fail
  have k := World.alloc_heap_new w10 (.cells #[.int .u32 (rp.toNat : Int), .int .u32 (rq.toNat : Int)] 27)
  have hbw11 : Below w10.heap.size w10 (w10.alloc (.cells #[.int .u32 (rp.toNat : Int), .int .u32 (rq.toNat : Int)] 27)) := (Below.refl _ _).alloc (Nat.le_refl _) _
  generalize w10.alloc (.cells #[.int .u32 (rp.toNat : Int), .int .u32 (rq.toNat : Int)] 27) = w11 at *
  have HBw11 := Lib.hid (HBw10.out.trans (hbw11.mono HBw10.out.size))
  have HV0 := Lib.hid (HV0.out.below hbw11)
  have HU0 := Lib.hid (HU0.out.below hbw11)
  have HIN := Lib.hid (HIN.out.below hbw11)
  have HPT := Lib.hid (HPT.out.below hbw11)
  have HM1 := Lib.hid (HM1.out.below hbw11)
  have K1 := Lib.hid ((hbw11.block _ (Array.getElem?_eq_some_iff.1 K1.out).1).trans K1.out)
  have HM2 := Lib.hid (HM2.out.below hbw11)
  have K2 := Lib.hid ((hbw11.block _ (Array.getElem?_eq_some_iff.1 K2.out).1).trans K2.out)
  clear hbw11
  have K3 := Lib.hid k
  clear k
  generalize w10.heap.size = B3 at *
  have hc : Gives 20 #[.slice ao N cap, .slice uo M ucap] w11 (.tuple #[.agg #[.int .u32 (rp.toNat : Int), .int .u32 (rq.toNat : Int)], .bool B, .int .i64 E]) := by
    have h := rshortest_any l s _ _ w11 HV0.out HU0.out
    rw [HR.out, HB.out, HE.out] at h
    exact h
  have HQ := Lib.hid hc
  clear hc
  go_at_call 20
  (with_reducible refine Gives.then (HQ.out) ?_)
  intro w12 hbw12
  have HBw12 := Lib.hid (HBw11.out.trans (hbw12.mono HBw11.out.size))
  have HV0 := Lib.hid (HV0.out.below hbw12)
  have HU0 := Lib.hid (HU0.out.below hbw12)
  have HIN := Lib.hid (HIN.out.below hbw12)
  have HPT := Lib.hid (HPT.out.below hbw12)
  have HM1 := Lib.hid (HM1.out.below hbw12)
  have K1 := Lib.hid ((hbw12.block _ (Array.getElem?_eq_some_iff.1 K1.out).1).trans K1.out)
  have HM2 := Lib.hid (HM2.out.below hbw12)
  have K2 := Lib.hid ((hbw12.block _ (Array.getElem?_eq_some_iff.1 K2.out).1).trans K2.out)
  have K3 := Lib.hid ((hbw12.block _ (Array.getElem?_eq_some_iff.1 K3.out).1).trans K3.out)
  clear hbw12
  clear HQ
  have k := World.alloc_heap_new w12 (.cells #[.int .u32 (rp.toNat : Int), .int .u32 (rq.toNat : Int)] 27)
  have hbx : Below w12.heap.size w12 (w12.alloc (.cells #[.int .u32 (rp.toNat : Int), .int .u32 (rq.toNat : Int)] 27)) := (Below.refl _ _).alloc (Nat.le_refl _) _
  obtain ⟨wx, hwx⟩ : ∃ x, x = w12.alloc (.cells #[.int .u32 (rp.toNat : Int), .int .u32 (rq.toNat : Int)] 27) := ⟨_, rfl⟩
  have xK1 := (hbx.block _ (Array.getElem?_eq_some_iff.1 K1.out).1).trans K1.out
  have eK10 := cell_block xK1 (o := 0) rfl
  have eK11 := cell_block xK1 (o := 1) rfl
  have xK2 := (hbx.block _ (Array.getElem?_eq_some_iff.1 K2.out).1).trans K2.out
  have eK20 := cell_block xK2 (o := 0) rfl
  have eK21 := cell_block xK2 (o := 1) rfl
  have xK3 := (hbx.block _ (Array.getElem?_eq_some_iff.1 K3.out).1).trans K3.out
  have eK30 := cell_block xK3 (o := 0) rfl
  have eK31 := cell_block xK3 (o := 1) rfl
  have eK40 := cell_block k (o := 0) rfl
  have eK41 := cell_block k (o := 1) rfl
  clear xK1 xK2 xK3 hwx wx
  have HBX := Lib.hid hbx; have K4 := Lib.hid k
  clear k hbx
  go_wp2_with fail
  clear eK10 eK11 eK20 eK21 eK30 eK31 eK40 eK41
  generalize w12.alloc (.cells #[.int .u32 (rp.toNat : Int), .int .u32 (rq.toNat : Int)] 27) = wx at *
  have HBwx := Lib.hid (HBw12.out.trans (HBX.out.mono HBw12.out.size))
  have HV0 := Lib.hid (HV0.out.below HBX.out)
  have HU0 := Lib.hid (HU0.out.below HBX.out)
  have HIN := Lib.hid (HIN.out.below HBX.out)
  have HPT := Lib.hid (HPT.out.below HBX.out)
  have HM1 := Lib.hid (HM1.out.below HBX.out)
  have K1 := Lib.hid ((HBX.out.block _ (Array.getElem?_eq_some_iff.1 K1.out).1).trans K1.out)
  have HM2 := Lib.hid (HM2.out.below HBX.out)
  have K2 := Lib.hid ((HBX.out.block _ (Array.getElem?_eq_some_iff.1 K2.out).1).trans K2.out)
  have K3 := Lib.hid ((HBX.out.block _ (Array.getElem?_eq_some_iff.1 K3.out).1).trans K3.out)
  generalize w12.heap.size = B4 at *
  have hq := equal_any X X _ _ wx HM1.out HM2.out
  rw [decide_eq_true rfl] at hq
  have HQ := Lib.hid hq
  clear hq
  go_at_call 21
  refine Gives.then HQ.out ?_
  intro w13 hbw13
  clear HQ
  have HBw13 := Lib.hid (HBwx.out.trans (hbw13.mono HBwx.out.size))
  have HV0 := Lib.hid (HV0.out.below hbw13)
  have HU0 := Lib.hid (HU0.out.below hbw13)
  have HIN := Lib.hid (HIN.out.below hbw13)
  have HPT := Lib.hid (HPT.out.below hbw13)
  have HM1 := Lib.hid (HM1.out.below hbw13)
  have K1 := Lib.hid ((hbw13.block _ (Array.getElem?_eq_some_iff.1 K1.out).1).trans K1.out)
  have HM2 := Lib.hid (HM2.out.below hbw13)
  have K2 := Lib.hid ((hbw13.block _ (Array.getElem?_eq_some_iff.1 K2.out).1).trans K2.out)
  have K3 := Lib.hid ((hbw13.block _ (Array.getElem?_eq_some_iff.1 K3.out).1).trans K3.out)
  have K4 := Lib.hid ((hbw13.block _ (Array.getElem?_eq_some_iff.1 K4.out).1).trans K4.out)
  clear hbw13
  have eK10 := cell_block K1.out (o := 0) rfl
  have eK11 := cell_block K1.out (o := 1) rfl
  have eK20 := cell_block K2.out (o := 0) rfl
  have eK21 := cell_block K2.out (o := 1) rfl
  have eK30 := cell_block K3.out (o := 0) rfl
  have eK31 := cell_block K3.out (o := 1) rfl
  have eK40 := cell_block K4.out (o := 0) rfl
  have eK41 := cell_block K4.out (o := 1) rfl
  go_wp2_with fail
  clear eK10 eK11 eK20 eK21 eK30 eK31 eK40 eK41
  have hsm := same_any l l _ _ w13 HIN.out HV0.out
  rw [decide_eq_true rfl] at hsm
  have HSM := Lib.hid hsm
  clear hsm
  go_at_call 22
  refine Gives.then HSM.out ?_
  intro w14 hbw14
  clear HSM
  have HBw14 := Lib.hid (HBw13.out.trans (hbw14.mono HBw13.out.size))
  have HV0 := Lib.hid (HV0.out.below hbw14)
  have HU0 := Lib.hid (HU0.out.below hbw14)
  have HIN := Lib.hid (HIN.out.below hbw14)
  have HPT := Lib.hid (HPT.out.below hbw14)
  clear hbw14
  go_wp2_with fail
  have hsm := same_any s s _ _ w14 HPT.out HU0.out
  rw [decide_eq_true rfl] at hsm
  have HSM := Lib.hid hsm
  clear hsm
  go_at_call 22
  refine Gives.then HSM.out ?_
  intro w15 hbw15
  clear HSM
  have HBw15 := Lib.hid (HBw14.out.trans (hbw15.mono HBw14.out.size))
  have HV0 := Lib.hid (HV0.out.below hbw15)
  have HU0 := Lib.hid (HU0.out.below hbw15)
  have HIN := Lib.hid (HIN.out.below hbw15)
  have HPT := Lib.hid (HPT.out.below hbw15)
  clear hbw15
  go_wp2_with fail
  go_at_call 14
  refine Gives.then (works_any _ (HT.out.below HBw15.out LT.out) (Nat.lt_of_lt_of_le LT.out HBw15.out.size)) ?_
  intro w60 hb60
  have HW60 := Lib.hid (HBw15.out.trans (hb60.mono HBw15.out.size))
  clear hb60
  go_wp2_with fail
  go_returns
  exact ⟨rfl, HW60.out⟩
end Go.Proofs.YtpnmapfabjdfjaaDoor
