/-
  Lemmas that the theorem of this claim rests on: 1 texts, one behind the other.
-/
import Derived.Deep.CutRange
import Derived.Test.YtmobilppakjihaaDoorM36
import Derived.Test.YtmobilppakjihaaDoorM37
set_option linter.unusedSimpArgs false
set_option linter.unusedVariables false
/-
  PatsBack.
-/
namespace Go.Proofs.YtmobilppakjihaaDoor
open Go.RowKit Go.Sort
set_option maxRecDepth 100000 in
set_option maxHeartbeats 16000000 in
theorem back_any (d : Nd) (k : Fo) (ss : List Snd) (sv : Value) (w : World) (hp : Pt w d k) (hW : Wd w sv ss) (hT : Tab64 w) (ht0 : 0 < w.heap.size) :
    Gives 7 #[ndV d, sv] w (.bool true) := by
  unfold Gives
  have hgd := fun (W : World) (hb : Below w.heap.size w W) => lgood_any d k ss sv W (hp.below hb) (hW.below hb)
  have hwk : Hid (∀ W : World, Below w.heap.size w W → Gives 22 #[] W (.bool true)) := fun W hb => works_any W (hT.below hb ht0) (by have := hb.size; omega)
  by_cases hE : mtE d k ss = 0
  · have h32 := chk_len (node_ok hE).2
    have hmi : ∀ W, Below w.heap.size w W → Calls Tryd.prog 35 #[ndV d] W fun e w' => ∃ d1 k1, e = .returned (.tuple #[ndV d1, .int .i64 0]) ∧ Hid (ptq (mirD d) (mirC d k) d1 k1 = true ∧ Pt w' d1 k1) ∧ (∃ ao cap, d1.sl = .slice ao k1.len cap) ∧ Below W.heap.size W w' := fun W hb => by
      refine (mirror_any d k W (hp.below hb) (node_ok hE).1).mono ?_
      rintro e w' ⟨d1, k1, h1, h2, h3, h4, h5⟩
      exact ⟨d1, k1, h1, ⟨h2, h3⟩, h4, h5⟩
    have hmi2 : Hid (∀ d1 k1, ptq (mirD d) (mirC d k) d1 k1 = true → ∀ W, Pt W d1 k1 → Calls Tryd.prog 35 #[ndV d1] W fun e w' => ∃ d2 k2, e = .returned (.tuple #[ndV d2, .int .i64 0]) ∧ Hid (ptq (mirD d1) (mirC d1 k1) d2 k2 = true ∧ Pt w' d2 k2) ∧ (∃ ao cap, d2.sl = .slice ao k2.len cap) ∧ Below W.heap.size W w') := fun d1 k1 h W hp1 => by
      refine (mirror_any d1 k1 W hp1 (ptq_valid h (mir_valid (node_ok hE).1))).mono ?_
      rintro e w' ⟨d2, k2, h1, h2, h3, h4, h5⟩
      exact ⟨d2, k2, h1, ⟨h2, h3⟩, h4, h5⟩
    have hrv : ∀ W, Below w.heap.size w W → Calls Tryd.prog 39 #[sv] W fun e w' => ∃ v, e = .returned (.tuple #[v, .int .i64 0]) ∧ Wd w' v ss.reverse ∧ Below W.heap.size W w' := fun W hb => by
      have h := reverse_any ss sv W (hW.below hb)
      unfold GetsE at h
      rw [(node_ok hE).2] at h
      rw [show revS ss = ss.reverse from if_pos (node_ok hE).2] at h
      exact h
    have hmf : Hid (∀ d1 k1 d2 k2, ptq (mirD d) (mirC d k) d1 k1 = true → ptq (mirD d1) (mirC d1 k1) d2 k2 = true → mtE d1 k1 ss.reverse = 0 ∧ pkE d1 k1 = 0 ∧ eqB d k d2 k2 = true ∧ szP k = szP k1 ∧ emB d k = emB d1 k1 ∧ ∀ a b, a ≤ ss.length → b ≤ ss.length → (tabP ss d k a).getLsbD b = (tabP ss.reverse d1 k1 (ss.length - b)).getLsbD (ss.length - a)) := fun d1 k1 d2 k2 h1 h2 => mir_facts hE h1 h2
    have hq : Hid (∀ d1 k1 d2 k2 V, Below w.heap.size w V → Pt V d1 k1 → Pt V d2 k2 → ∀ W, Below V.heap.size V W →
        Gives 20 #[ndV d, ndV d2] W (.bool (eqB d k d2 k2)) ∧ Gives 16 #[ndV d] W (.int .i64 (szP k : Int)) ∧ Gives 16 #[ndV d1] W (.int .i64 (szP k1 : Int)) ∧ Gives 18 #[ndV d] W (.bool (emB d k)) ∧ Gives 18 #[ndV d1] W (.bool (emB d1 k1))) := fun d1 k1 d2 k2 V hV h1 h2 W hb => by
      have hbw := hV.trans (hb.mono hV.size)
      have q1 := Pt.below h1 hb
      have q2 := Pt.below h2 hb
      have tb := hT.below hbw ht0
      have lt : 0 < W.heap.size := by have := hbw.size; omega
      exact ⟨pequal_any d k d2 k2 W (hp.below hbw) q2, size_any d k W (hp.below hbw), size_any d1 k1 W q1, empty_anyP d k W (hp.below hbw) tb lt, empty_anyP d1 k1 W q1 tb lt⟩
    have hen := fun (W : World) (hb : Below w.heap.size w W) => lends_any d k ss sv W (hp.below hb) (hW.below hb) (hT.below hb ht0) (by have := hb.size; omega) hE
    have hen2 : Hid (∀ d1 k1 bv W, mtE d1 k1 ss.reverse = 0 → Below w.heap.size w W → Pt W d1 k1 → Wd W bv ss.reverse → Calls Tryd.prog 40 #[ndV d1, bv] W fun e w' => ∃ v, e = .returned (.tuple #[v, .bool true]) ∧ Mat w' v ss.reverse.length (tabP ss.reverse d1 k1) ∧ Below W.heap.size W w') := fun d1 k1 bv W h hb hp1 hw1 => lends_any d1 k1 ss.reverse bv W hp1 hw1 (hT.below hb ht0) (by have := hb.size; omega) h
    rw [hE] at hgd
    obtain ⟨wo, wc, rfl, lw, mw, -⟩ := hW.open
    obtain ⟨ao, cap, hsl, -, -, -⟩ := hp.open
    obtain ⟨L, hL⟩ : ∃ L, ss.length = L := ⟨_, rfl⟩
    have HL := Lib.hid hL
    clear hp hW hT ht0 hE
    rw [hL] at hgd hrv hen h32 ⊢
    obtain ⟨D, hD⟩ : ∃ D, d = D := ⟨_, rfl⟩
    have hnd : ndV D = .agg #[.int .i64 D.kind, .int .u32 (D.is.1.toNat : Int), .int .u32 (D.is.2.toNat : Int), .bool D.neg, .int .i64 D.mi, .int .i64 D.ma, D.sl] := rfl
    subst hD
    obtain ⟨kind, ⟨p, m⟩, neg, mi, ma, sl⟩ := d
    simp only at hsl
    subst hsl
    obtain ⟨kl, hkl⟩ : ∃ kl, k.len = kl := ⟨_, rfl⟩
    simp only [ndV] at hnd
    rw [hkl] at hgd hmi hmi2 hmf hq hen ⊢
    unfold ndV at hgd hmi hen ⊢
    simp only at hgd hmi hen ⊢
    have HGD := Lib.hid hgd; have HMI := Lib.hid hmi; have HRV := Lib.hid hrv; have HEN := Lib.hid hen
    clear hgd hmi hrv hen hL hkl lw mw hnd
    have R0 := Lib.hid (World.alloc_heap_new w (.cells #[.int .i64 kind, .int .u32 (p.toNat : Int), .int .u32 (m.toNat : Int), .bool neg, .int .i64 mi, .int .i64 ma, .slice ao kl cap] 27))
    have HB0 := Lib.hid (show Below w.heap.size w (w.alloc (.cells #[.int .i64 kind, .int .u32 (p.toNat : Int), .int .u32 (m.toNat : Int), .bool neg, .int .i64 mi, .int .i64 ma, .slice ao kl cap] 27)) by go_grown)
    go_enter Tryd.func7, Tryd.ntmps7
    go_wp2_with fail
    generalize (w.alloc (.cells #[.int .i64 kind, .int .u32 (p.toNat : Int), .int .u32 (m.toNat : Int), .bool neg, .int .i64 mi, .int .i64 ma, .slice ao kl cap] 27)) = v0 at *
    go_at_call 38
    refine Gives.then (HGD.out _ HB0.out) ?_
    intro w1 hb
    have HB1 := Lib.hid (HB0.out.trans (hb.mono HB0.out.size))
    have RX := Lib.hid ((hb.block _ (Array.getElem?_eq_some_iff.1 R0.out).1).trans R0.out)
    clear hb R0 HB0 HGD
    have g0 := cell_block RX.out (o := 0) rfl; have g1 := cell_block RX.out (o := 1) rfl; have g2 := cell_block RX.out (o := 2) rfl; have g3 := cell_block RX.out (o := 3) rfl; have g4 := cell_block RX.out (o := 4) rfl; have g5 := cell_block RX.out (o := 5) rfl; have g6 := cell_block RX.out (o := 6) rfl
    go_wp2_with fail
    go_at_call 35
    refine (HMI.out _ HB1.out).mono ?_
    rintro e w2 ⟨d1, k1, rfl, hq1, ⟨ao1, cap1, hs1⟩, hb⟩
    have HB2 := Lib.hid (HB1.out.trans (hb.mono HB1.out.size))
    have rx := (hb.block _ (Array.getElem?_eq_some_iff.1 RX.out).1).trans RX.out
    clear RX
    have RX := Lib.hid rx
    obtain ⟨D1, hD1⟩ : ∃ D1, d1 = D1 := ⟨_, rfl⟩
    have Q1 := Lib.hid hq1.out
    have H2 := Lib.hid (hmi2.out d1 k1 hq1.out.1)
    have HF := Lib.hid (fun d2 k2 => hmf.out d1 k1 d2 k2 hq1.out.1)
    have HQ := Lib.hid (hq.out d1 k1)
    have HE2 := Lib.hid (hen2.out d1 k1)
    clear rx hb HB1 HMI g0 g1 g2 g3 g4 g5 g6 hmi2 hmf hq hen2 hq1 hD1
    obtain ⟨kind1, ⟨p1, m1⟩, neg1, mi1, ma1, sl1⟩ := d1
    simp only at hs1
    subst hs1
    obtain ⟨kl1, hkl1⟩ : ∃ kl, k1.len = kl := ⟨_, rfl⟩
    rw [hkl1] at Q1 H2 HF HQ HE2
    have H2_n := H2.out
    unfold ndV at H2_n
    simp only [hkl1] at H2_n ⊢
    clear H2
    have H2 := Lib.hid H2_n
    clear H2_n hkl1
    go_wp2_with fail
    refine calls_gen ?_
    intro V2 hV2
    have hv : Below w2.heap.size w2 V2 := by rw [hV2]; go_grown
    have RY := Lib.hid (show V2.heap[w2.heap.size]? = some (.cells #[.int .i64 kind1, .int .u32 (p1.toNat : Int), .int .u32 (m1.toNat : Int), .bool neg1, .int .i64 mi1, .int .i64 ma1, .slice ao1 kl1 cap1] 27) by rw [hV2]; exact World.alloc_heap_new _ _)
    clear hV2
    go_at_call 35
    refine (H2.out V2 (Pt.below Q1.out.2 hv)).mono ?_
    rintro e w3 ⟨d2, k2, rfl, hq2, ⟨ao2, cap2, hs2⟩, hb⟩
    have hb23 := hv.trans (hb.mono hv.size)
    have HB3 := Lib.hid (HB2.out.trans (hb23.mono HB2.out.size))
    have rx := (hb23.block _ (Array.getElem?_eq_some_iff.1 RX.out).1).trans RX.out
    have ry := (hb.block _ (Array.getElem?_eq_some_iff.1 RY.out).1).trans RY.out
    have P1 := Lib.hid (Pt.below Q1.out.2 hb23)
    have P2 := Lib.hid hq2.out.2
    obtain ⟨f1, -, f3, f4, f5, f6⟩ := HF.out d2 k2 hq2.out.1
    have HQ3 := Lib.hid (HQ.out d2 k2)
    clear RX RY H2 HF HQ hb hv hb23 Q1 hq2
    have RX := Lib.hid rx; have RY := Lib.hid ry
    clear rx ry
    obtain ⟨kind2, ⟨p2, m2⟩, neg2, mi2, ma2, sl2⟩ := d2
    simp only at hs2
    subst hs2
    obtain ⟨kl2, hkl2⟩ : ∃ kl, k2.len = kl := ⟨_, rfl⟩
    rw [hkl2] at P2 HQ3 f3
    simp only [hkl2]
    clear hkl2
    go_wp2_with fail
    refine calls_gen ?_
    intro V3 hV3
    have hv : Below w3.heap.size w3 V3 := by rw [hV3]; go_grown
    have RZ := Lib.hid (show V3.heap[w3.heap.size]? = some (.cells #[.int .i64 kind2, .int .u32 (p2.toNat : Int), .int .u32 (m2.toNat : Int), .bool neg2, .int .i64 mi2, .int .i64 ma2, .slice ao2 kl2 cap2] 27) by rw [hV3]; exact World.alloc_heap_new _ _)
    clear hV3
    have HB3' := Lib.hid (HB3.out.trans (hv.mono HB3.out.size))
    have P1' := Lib.hid (Pt.below P1.out hv); have P2' := Lib.hid (Pt.below P2.out hv)
    have hq := HQ3.out V3 HB3'.out P1'.out P2'.out
    rw [f3, ← f4, ← f5] at hq
    have rx := (hv.block _ (Array.getElem?_eq_some_iff.1 RX.out).1).trans RX.out
    have ry := (hv.block _ (Array.getElem?_eq_some_iff.1 RY.out).1).trans RY.out
    clear RX RY HB3 P1 P2 P2' HQ3 f3 f4 f5 hv
    obtain ⟨S, hS⟩ : ∃ S, szP k = S := ⟨_, rfl⟩
    obtain ⟨B, hB⟩ : ∃ B, emB ⟨kind, (p, m), neg, mi, ma, .slice ao kl cap⟩ k = B := ⟨_, rfl⟩
    obtain ⟨T1, hT1⟩ : ∃ T, tabP ss ⟨kind, (p, m), neg, mi, ma, .slice ao kl cap⟩ k = T := ⟨_, rfl⟩
    obtain ⟨T2, hT2⟩ : ∃ T, tabP ss.reverse ⟨kind1, (p1, m1), neg1, mi1, ma1, .slice ao1 kl1 cap1⟩ k1 = T := ⟨_, rfl⟩
    rw [hS, hB] at hq
    rw [hT1, hT2, HL.out] at f6
    rw [hT1] at HEN
    rw [hT2] at HE2
    unfold ndV at hq
    simp only at hq
    have F6 := Lib.hid f6
    have HE3 := Lib.hid (fun bv W => HE2.out bv W f1)
    have HQ4 := Lib.hid hq
    clear hS hB hT1 hT2 f1 f6 HE2 hq
    go_at_call 39
    refine (HRV.out V3 HB3'.out).mono ?_
    rintro e w4 ⟨bv, rfl, hwd, hb⟩
    have hwd2 := hwd
    obtain ⟨bo, bc, hbv, -, -, -⟩ := hwd2.open
    rw [List.length_reverse, HL.out] at hbv
    subst hbv
    have HWD := Lib.hid hwd
    have HB4 := Lib.hid (HB3'.out.trans (hb.mono HB3'.out.size))
    have HQ5 := Lib.hid (fun W (h : Below w4.heap.size w4 W) => HQ4.out W (hb.trans (h.mono hb.size)))
    have P14 := Lib.hid (Pt.below P1'.out hb)
    have R4x := Lib.hid ((hb.block _ (Array.getElem?_eq_some_iff.1 rx).1).trans rx)
    have R4y := Lib.hid ((hb.block _ (Array.getElem?_eq_some_iff.1 ry).1).trans ry)
    have R4z := Lib.hid ((hb.block _ (Array.getElem?_eq_some_iff.1 RZ.out).1).trans RZ.out)
    clear hwd hb rx ry RZ HQ4 P1' HB3' HRV HB2
    have g0 := cell_block R4x.out (o := 0) rfl; have g1 := cell_block R4x.out (o := 1) rfl; have g2 := cell_block R4x.out (o := 2) rfl; have g3 := cell_block R4x.out (o := 3) rfl; have g4 := cell_block R4x.out (o := 4) rfl; have g5 := cell_block R4x.out (o := 5) rfl; have g6 := cell_block R4x.out (o := 6) rfl
    have h0 := cell_block R4y.out (o := 0) rfl; have h1 := cell_block R4y.out (o := 1) rfl; have h2 := cell_block R4y.out (o := 2) rfl; have h3 := cell_block R4y.out (o := 3) rfl; have h4 := cell_block R4y.out (o := 4) rfl; have h5 := cell_block R4y.out (o := 5) rfl; have h6 := cell_block R4y.out (o := 6) rfl
    have j0 := cell_block R4z.out (o := 0) rfl; have j1 := cell_block R4z.out (o := 1) rfl; have j2 := cell_block R4z.out (o := 2) rfl; have j3 := cell_block R4z.out (o := 3) rfl; have j4 := cell_block R4z.out (o := 4) rfl; have j5 := cell_block R4z.out (o := 5) rfl; have j6 := cell_block R4z.out (o := 6) rfl
    have yg0 := cell_regrown g0; have yg1 := cell_regrown g1; have yg2 := cell_regrown g2; have yg3 := cell_regrown g3; have yg4 := cell_regrown g4; have yg5 := cell_regrown g5; have yg6 := cell_regrown g6; have yh0 := cell_regrown h0; have yh1 := cell_regrown h1; have yh2 := cell_regrown h2; have yh3 := cell_regrown h3; have yh4 := cell_regrown h4; have yh5 := cell_regrown h5; have yh6 := cell_regrown h6; have yj0 := cell_regrown j0; have yj1 := cell_regrown j1; have yj2 := cell_regrown j2; have yj3 := cell_regrown j3; have yj4 := cell_regrown j4; have yj5 := cell_regrown j5; have yj6 := cell_regrown j6
    have c1 : ((L : Int) != (L : Int)) = false := by simp
    have c2 : ((S : Int) != (S : Int)) = false := by simp
    have c3 : (B != B) = false := by simp
    go_wp2_with fail
    refine wp_region_quiet_below (by kernel_rfl) (by kernel_rfl) ?_
    try simp only [List.append]
    repeat (go_big_quiet_step (first
      | (go_at_call 20; with_reducible exact Calls.regrown_of (HQ5.out _ (below_regrown _ _ _)).1)
      | (go_at_call 16; first | (with_reducible exact Calls.regrown_of (HQ5.out _ (below_regrown _ _ _)).2.1) | (with_reducible exact Calls.regrown_of (HQ5.out _ (below_regrown _ _ _)).2.2.1))
      | (go_at_call 18; first | (with_reducible exact Calls.regrown_of (HQ5.out _ (below_regrown _ _ _)).2.2.2.1) | (with_reducible exact Calls.regrown_of (HQ5.out _ (below_regrown _ _ _)).2.2.2.2))))
    refine wpQuiet_nil ?_
    intro w5 hw5
    have hb : Below w4.heap.size w4 w5 := by obtain ⟨qq, rfl⟩ := hw5; exact below_regrown _ _ _
    have HB5 := Lib.hid (HB4.out.trans (hb.mono HB4.out.size))
    have R5x := Lib.hid ((hb.block _ (Array.getElem?_eq_some_iff.1 R4x.out).1).trans R4x.out)
    have R5y := Lib.hid ((hb.block _ (Array.getElem?_eq_some_iff.1 R4y.out).1).trans R4y.out)
    have P15 := Lib.hid (Pt.below P14.out hb)
    have W5 := Lib.hid (HWD.out.below hb)
    clear hb hw5 yg0 yg1 yg2 yg3 yg4 yg5 yg6 yh0 yh1 yh2 yh3 yh4 yh5 yh6 yj0 yj1 yj2 yj3 yj4 yj5 yj6 g0 g1 g2 g3 g4 g5 g6 h0 h1 h2 h3 h4 h5 h6 j0 j1 j2 j3 j4 j5 j6 HB4 R4x R4y R4z P14 HWD HQ5 c2 c3
    have g0 := cell_block R5x.out (o := 0) rfl; have g1 := cell_block R5x.out (o := 1) rfl; have g2 := cell_block R5x.out (o := 2) rfl; have g3 := cell_block R5x.out (o := 3) rfl; have g4 := cell_block R5x.out (o := 4) rfl; have g5 := cell_block R5x.out (o := 5) rfl; have g6 := cell_block R5x.out (o := 6) rfl
    go_wp2_with fail
    go_at_call 40
    refine (HEN.out _ HB5.out).mono ?_
    rintro e w6 ⟨lv1, rfl, hmat, hb⟩
    obtain ⟨lb1, lc1, rfl, hrow⟩ := hmat.open
    have HR1 := Lib.hid hrow
    have HB6 := Lib.hid (HB5.out.trans (hb.mono HB5.out.size))
    have R6y := Lib.hid ((hb.block _ (Array.getElem?_eq_some_iff.1 R5y.out).1).trans R5y.out)
    have P16 := Lib.hid (Pt.below P15.out hb)
    have W6 := Lib.hid (W5.out.below hb)
    clear hmat hrow hb HB5 R5x R5y P15 W5 HEN g0 g1 g2 g3 g4 g5 g6
    have h0 := cell_block R6y.out (o := 0) rfl; have h1 := cell_block R6y.out (o := 1) rfl; have h2 := cell_block R6y.out (o := 2) rfl; have h3 := cell_block R6y.out (o := 3) rfl; have h4 := cell_block R6y.out (o := 4) rfl; have h5 := cell_block R6y.out (o := 5) rfl; have h6 := cell_block R6y.out (o := 6) rfl
    go_wp2_with fail
    go_at_call 40
    refine (HE3.out _ _ HB6.out P16.out W6.out).mono ?_
    rintro e w7 ⟨lv2, rfl, hmat, hb⟩
    rw [List.length_reverse, HL.out] at hmat
    obtain ⟨lb2, lc2, rfl, hrow⟩ := hmat.open
    have HB7 := Lib.hid (HB6.out.trans (hb.mono HB6.out.size))
    have M1 := Lib.hid (fun wr (hw : Below w7.heap.size w7 wr) => HR1.out wr (hb.trans (hw.mono hb.size)))
    have M2 := Lib.hid (fun wr (hw : Below w7.heap.size w7 wr) => hrow wr hw)
    clear hmat hrow hb HB6 R6y P16 W6 HE3 HR1 h0 h1 h2 h3 h4 h5 h6
    go_upto_region 13 with fail
    go_cut [16] from 18 (fun s wx => s = .int .i64 0 ∧ w7 = wx)
    case first =>
      go_wp2_with fail
      go_meet
      exact ⟨rfl, rfl⟩
    case rest =>
    obtain ⟨rfl, hwc⟩ := hcut
    subst hwc
    clear c1
    go_wp2_with fail
    go_loopw [16] (fun i wr => ∃ i' : Nat, i' ≤ L + 1 ∧ i = .int .i64 (i' : Int) ∧ Below w7.heap.size w7 wr) (fun i _ => L + 1 - (intOf i).toNat)
    case atStart => exact ⟨0, by omega, rfl, Below.refl _ _⟩
    case round =>
    obtain ⟨i, hi, rfl, hw⟩ := hrel
    have HW := Lib.hid hw
    clear hw
    by_cases hil : i < L + 1
    · have hiL : (i : Int) ≤ (L : Int) := by omega
      have hiN : i ≤ L := by omega
      have hii : (i : Int) < (L : Int) + 1 := by omega
      obtain ⟨W4, hW4⟩ : ∃ W4, W4 = wr := ⟨_, rfl⟩
      subst hW4
      go_wp2_with fail
      go_loopw [17] (fun i' wr => ∃ y : Nat, y ≤ L + 1 ∧ i' = .int .i64 (y : Int) ∧ Below w7.heap.size w7 wr) (fun i' _ => L + 1 - (intOf i').toNat)
      case atStart => exact ⟨0, by omega, rfl, HW.out⟩
      case round =>
      obtain ⟨y, hy, rfl, hw⟩ := hrel
      have HW5 := Lib.hid hw
      clear hw
      by_cases hyl : y < L + 1
      · have hyL : (y : Int) ≤ (L : Int) := by omega
        have hyN : y ≤ L := by omega
        have hyy : (y : Int) < (L : Int) + 1 := by omega
        obtain ⟨a', ha'⟩ : ∃ a' : Nat, L - i = a' := ⟨_, rfl⟩
        obtain ⟨b', hb'⟩ : ∃ b' : Nat, L - y = b' := ⟨_, rfl⟩
        have hal : a' ≤ L := by omega
        have hbl : b' ≤ L := by omega
        have e1 : (L : Int) - (i : Int) = (a' : Int) := by omega
        have e2 : (L : Int) - (y : Int) = (b' : Int) := by omega
        have e3 : (a' : Int) < (L : Int) + 1 := by omega
        have e4 : (b' : Int) < (L : Int) + 1 := by omega
        have e5 : IntKind.i64.wrap (a' : Int) = (a' : Int) := by rw [IntKind.wrap_i64]; omega
        have e6 : IntKind.i64.wrap (b' : Int) = (b' : Int) := by rw [IntKind.wrap_i64]; omega
        have e7 : wrap64 (a' : Int) = (a' : Int) := by unfold wrap64; omega
        have e8 : wrap64 (b' : Int) = (b' : Int) := by unfold wrap64; omega
        obtain ⟨x1, a1, a2⟩ := M1.out wr HW5.out i hiN
        have a3 := a2 y hyN
        obtain ⟨x2, b1, b2⟩ := M2.out wr HW5.out b' hbl
        have b3 := b2 a' hal
        have hf := F6.out i y hiN hyN
        rw [ha', hb'] at hf
        obtain ⟨t, ht⟩ : ∃ t, (T1 i).getLsbD y = t := ⟨_, rfl⟩
        rw [ht] at a3 hf
        rw [← hf] at b3
        clear a2 b2 hf ht ha' hb'
        rcases t with _ | _
        all_goals
          go_wp2_with fail
          have t1 := cell_regrown a1; have t2 := cell_regrown a3; have t3 := cell_regrown b1; have t4 := cell_regrown b3
          refine wp_region_quiet_below (by kernel_rfl) (by kernel_rfl) ?_
          try simp only [List.append]
          repeat (go_big_quiet_step (fail))
          refine wpQuiet_nil ?_
          intro wz hwz
          have HWZ := Lib.hid (HW5.out.trans (show Below w7.heap.size wr wz from by obtain ⟨qq, rfl⟩ := hwz; exact (below_regrown _ _ _).mono HW5.out.size))
          clear hwz t1 t2 t3 t4 a1 a3 b1 b3
          go_wp2_with fail
          go_roundw
          case rel => exact ⟨y + 1, by omega, by go_num, HWZ.out⟩
          case measure => simp [intOf]; omega
      · obtain rfl : y = L + 1 := by omega
        clear hyl
        go_wp2_with fail
        go_roundw
        case rel => exact ⟨i + 1, by omega, by go_num, HW5.out⟩
        case measure => simp [intOf]; omega
    · obtain rfl : i = L + 1 := by omega
      have HBW := Lib.hid (HB7.out.trans (HW.out.mono HB7.out.size))
      clear hil
      go_wp2_with (go_at_call 22; refine Gives.then (hwk.out _ HBW.out) ?_; intro w9' hb9)
      go_returns
      exact ⟨rfl, HBW.out.trans (hb9.mono HBW.out.size)⟩
  · have hdf : decide (mtE d k ss = 0) = false := decide_eq_false hE
    rw [hdf] at hgd
    obtain ⟨wo, wc, rfl, lw, mw, -⟩ := hW.open
    obtain ⟨ao, cap, hsl, -, -, -⟩ := hp.open
    obtain ⟨L, hL⟩ : ∃ L, ss.length = L := ⟨_, rfl⟩
    rw [hL] at hgd ⊢
    obtain ⟨kind, ⟨p, m⟩, neg, mi, ma, sl⟩ := d
    simp only at hsl
    subst hsl
    obtain ⟨kl, hkl⟩ : ∃ kl, k.len = kl := ⟨_, rfl⟩
    rw [hkl] at hgd ⊢
    unfold ndV at hgd ⊢
    simp only at hgd ⊢
    have HGD := Lib.hid hgd
    have hB0 : ∀ O : Obj, Below w.heap.size w (w.alloc O) := fun O => by go_grown
    have HB0 := Lib.hid hB0
    clear hgd hp hW hT ht0 hE hdf hL hkl lw mw hB0
    go_enter Tryd.func7, Tryd.ntmps7
    go_wp2_with (first | (go_at_call 38; refine Gives.then (HGD.out _ (HB0.out _)) ?_; intro w1 hb1; have HB1 := Lib.hid ((HB0.out (.cells #[.int .i64 kind, .int .u32 (p.toNat : Int), .int .u32 (m.toNat : Int), .bool neg, .int .i64 mi, .int .i64 ma, .slice ao kl cap] 27)).trans (hb1.mono (by rw [World.size_alloc]; omega))); clear hb1) | (go_at_call 22; refine Gives.then (hwk.out _ HB1.out) ?_; intro w9 hb9))
    go_returns
    exact ⟨rfl, HB1.out.trans (hb9.mono HB1.out.size)⟩
end Go.Proofs.YtmobilppakjihaaDoor
