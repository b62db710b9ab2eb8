/-
  Lemmas that the theorem of this claim rests on: 1 texts, one behind the other.
-/
import Derived.Test.YtpnmapfabjdfjaaDoorM14
set_option linter.unusedSimpArgs false
set_option linter.unusedVariables false

/-
  natural.Gaps.
-/
namespace Go.Proofs.YtpnmapfabjdfjaaDoor
open Go.RowKit Go.Sort
/-- The sounds that are missing in the pattern of the others. -/
def gapP (l : List Snd) (g : Snd) : Prop := ∃ x ∈ swS l (prs l), ∃ z ∈ l, isG l x z = true ∧ g = gapS z x
theorem sw_ok {l : List Snd} (hv : ∀ s ∈ l, vld s.1 s.2 = true) {x : Sw} (h : x ∈ swS l (prs l)) : ∃ k : Nat, k < 24 ∧ x.1 = (k : Int) ∧ (x.2.2 = 1 ∨ x.2.2 = 0 ∨ x.2.2 = -1) := by
  obtain ⟨p, hp, hx⟩ := (swS_mem l x (prs l)).1 h
  obtain ⟨hi, hj⟩ := prs_mem hp
  have h1 : l.getD p.1 zs = l[p.1] := by simp [List.getD, List.getElem?_eq_getElem hi]
  have h2 : l.getD p.2 zs = l[p.2] := by simp [List.getD, List.getElem?_eq_getElem hj]
  have hon := prs_one hp
  rw [h1, h2] at hx hon
  have hk := (lon_val (dif_lt (hv _ (List.getElem_mem hi)) (hv _ (List.getElem_mem hj))) (of_decide_eq_true hon)).1
  rcases hx with rfl | rfl
  · exact ⟨_, hk, rfl, getV_three _ _ _⟩
  · exact ⟨_, hk, rfl, getV_three _ _ _⟩
theorem KMap.len_eq {K K' : Type} {enc : K → Value} {enc' : K' → Value} {w : World} {b : Nat} {ks : List K} {ks' : List K'} (h : KMap enc w b ks) (h' : KMap enc' w b ks') : ks.length = ks'.length := by
  obtain ⟨es, n, h1, h2, _⟩ := h
  obtain ⟨es', n', h1', h2', _⟩ := h'
  rw [h1] at h1'
  injection (Option.some.inj h1') with e _
  subst e
  have a := congrArg List.length h2
  have b := congrArg List.length h2'
  simp at a b
  omega
theorem KRng.below {K : Type} {enc : K → Value} [DecidableEq K] {w w' : World} {b r : Nat} {ks done : List K} (h : KRng enc w b r ks done) (hb : Below w.heap.size w w') : KRng enc w' b r ks done ∧ w'.rangeLeft b r = w.rangeLeft b r :=
  ⟨h.kept (hb.block _ h.lt.1) (hb.block _ h.lt.2), left_kept (hb.block _ h.lt.1) (hb.block _ h.lt.2)⟩
theorem YMap.kept {w w' : World} {b : Nat} {l : List (Snd × Value)} (h : YMap w b l) (hb : w'.heap[b]? = w.heap[b]?) : YMap w' b l := by
  obtain ⟨es, n, h1, h2⟩ := h
  exact ⟨es, n, hb.trans h1, h2⟩
set_option maxRecDepth 100000 in
set_option maxHeartbeats 8000000 in
theorem gaps_any (l : List Snd) (v : Value) (w : World) (h : Wd w v l) (hT : Tab w) (lT : 0 < w.heap.size) :
    Calls Tryd.prog 29 #[v] w fun e w' => ∃ m Y, e = .returned (.tuple #[m, .int .i64 (ckE l 256)]) ∧ Wd w' m Y ∧ (ckE l 256 = 0 → IncS Y ∧ ∀ g, g ∈ Y ↔ gapP l g) ∧ (ckE l 256 ≠ 0 → Y = []) ∧ Below w.heap.size w w' := by
  have hmm := @run_makeMap Tryd.prog
  have hpa := pairs_any l v w h
  have hvl := fun (h1 : ckE l 256 = 0) => ckE_vld h1
  have hln := fun (h1 : ckE l 256 = 0) => ckE_len h1
  have hP : prsM l = if ckE l 256 = 0 then prs l else [] := rfl
  have hWD := fun (W : World) (hb : Below w.heap.size w W) => h.below hb
  have hset := fun (W : World) (hb : Below w.heap.size w W) => set_any l v W (h.below hb)
  have hsw := fun (W : World) (hb : Below w.heap.size w W) (u : Value) (hu : Ps W u (prs l)) (h1 : ckE l 256 = 0) => swaps_any l v u W (h.below hb) hu (ckE_vld h1) (ckE_len h1) (hT.below hb lT) (Nat.lt_of_lt_of_le lT hb.size)
  obtain ⟨ao, cap, rfl, c1, m1, hc⟩ := h.open
  obtain ⟨N, hN⟩ : ∃ N, l.length = N := ⟨_, rfl⟩
  have HC := Lib.hid hc; have HPA := Lib.hid hpa; have HVL := Lib.hid hvl; have HLN := Lib.hid hln; have HWD := Lib.hid hWD; have HSET := Lib.hid hset; have HSW := Lib.hid hsw; have HN := Lib.hid hN
  rw [hN] at c1 HPA HWD HSET HSW ⊢
  clear hc hpa hvl hln hWD hset hsw h hN m1 hT lT
  generalize hE : ckE l 256 = E at *
  by_cases h0 : E = 0
  · subst h0
    rw [if_pos rfl] at hP
    have HV := Lib.hid (HVL.out rfl)
    have l2 : N ≤ 256 := by rw [← HN.out]; exact HLN.out rfl
    have l1 : N ≤ 9223372036854775807 := by omega
    have HCKE := Lib.hid hE
    rw [hP] at HPA
    clear hP HVL HLN hE
    go_enter Tryd.func29, Tryd.ntmps29
    go_wp2_with fail
    go_at_call 25
    refine HPA.out.mono ?_
    rintro e w1 ⟨v1, rfl, ho1, hb1⟩
    have hps := ho1.ps
    obtain ⟨a1, k1, rfl⟩ := ho1.slice
    have HPS := Lib.hid hps; have HW1 := Lib.hid hb1
    clear hps ho1 hb1 HPA
    go_wp2_with fail
    go_at_call 48
    refine (HSET.out w1 HW1.out).mono ?_
    rintro e w2 ⟨bS, rfl, hy2, hb2⟩
    have HW2 := Lib.hid (HW1.out.trans (hb2.mono HW1.out.size)); have HB2 := Lib.hid hb2; have HY2 := Lib.hid hy2; have HLS := Lib.hid hy2.lt
    clear hb2 hy2
    go_wp2_with fail
    have hbm := (Below.refl w2.heap.size w2).alloc (Nat.le_refl _) (.map #[] 0)
    have hk3 : KMap snv (w2.alloc (.map #[] 0)) w2.heap.size (gpL l []) := KMap.new w2
    have hsw := HSW.out (w2.alloc (.map #[] 0)) (HW2.out.trans (hbm.mono HW2.out.size)) _ (HPS.out.below (HB2.out.trans (hbm.mono HB2.out.size))) trivial
    have HK3 := Lib.hid hk3; have HY3 := Lib.hid (HY2.out.below hbm); have HW3 := Lib.hid (HW2.out.trans (hbm.mono HW2.out.size)); have HSW2 := Lib.hid hsw
    have hz3 : w2.heap.size < (w2.alloc (.map #[] 0)).heap.size := by rw [World.size_alloc]; omega
    have HZ3 := Lib.hid hz3
    clear hbm hk3 hsw HY2 HSW HSET hz3
    go_at_call 62
    have hGL := HW2.out.size
    generalize hGM : w2.heap.size = GM at *
    have HGL := Lib.hid hGL
    clear hGL
    generalize (w2.alloc (.map #[] 0)) = w3 at *
    refine HSW2.out.mono ?_
    rintro e w4 ⟨bW, rfl, hk4, hb4⟩
    have hk4g := HK3.out.below hb4
    have hne : swS l (prs l) ≠ [] → bW ≠ GM := fun h1 e => by
      subst e
      have := hk4.len_eq hk4g
      exact h1 (List.eq_nil_of_length_eq_zero this)
    have hnd := swS_nodup l (prs l)
    have hsl : (swS l (prs l)).length ≤ 131072 := by
      have h1 := swS_len l (prs l)
      have h2 := prs_len l
      rw [HN.out] at h2
      have h3 : N * N ≤ 256 * 256 := Nat.mul_le_mul l2 l2
      omega
    have HSL := Lib.hid hsl
    clear hsl
    have hswo := fun x (hx : x ∈ swS l (prs l)) => sw_ok HV.out hx
    have hgp : ∀ done : List Sw, (∀ x, x ∈ done ↔ x ∈ swS l (prs l)) → ∀ g, g ∈ gpL l done ↔ gapP l g := fun done hd g => by
      rw [gpL_mem]
      constructor
      · rintro ⟨x, hx, hh⟩; exact ⟨x, (hd x).1 hx, hh⟩
      · rintro ⟨x, hx, hh⟩; exact ⟨x, (hd x).2 hx, hh⟩
    have hY4 := HY3.out.below hb4
    have HNE := Lib.hid hne; have HND := Lib.hid hnd; have HSWO := Lib.hid hswo; have HGP := Lib.hid hgp; have HW4 := Lib.hid (HW3.out.trans (hb4.mono HW3.out.size)); have HK4 := Lib.hid hk4; have HKG := Lib.hid hk4g; have HY4 := Lib.hid hY4; have HW4' := HW4
    clear hne hnd hswo hgp hY4 hk4 hk4g hb4 HY3 HK3 HW3 HSW2
    generalize swS l (prs l) = sw at *
    go_wp2_with (at_range; refine wpList_range_k (enc := swv) rfl (.tmp 26) 84 rfl Tryd.underlying84 bW sw rfl HK4.out ?_; intro w5 hrg5 hg5 hs5)
    go_frame
    have hb5 : Below w4.heap.size w4 w5 := (Below.refl _ _).grown hg5 (Nat.le_refl _) (fun q e => by cases e)
    have HR5 := Lib.hid hrg5; have HW5 := Lib.hid (HW4.out.trans (hb5.mono HW4.out.size)); have HKG5 := Lib.hid (HKG.out.below hb5); have HY5 := Lib.hid (HY4.out.below hb5)
    clear hrg5 hg5 hs5 hb5 HK4 HKG HY4 HW4
    have hRL := HW4'.out.size
    generalize w4.heap.size = R at *
    have HRL := Lib.hid hRL
    clear hRL
    go_loopw [28] (fun _ wr => ∃ done : List Sw, KRng swv wr bW R sw done ∧ KMap snv wr GM (gpL l done) ∧ YMap wr bS (tru (setS l)) ∧ Below w.heap.size w wr) (fun _ wr => wr.rangeLeft bW R)
    case atStart => exact ⟨[], HR5.out, HKG5.out, HY5.out, HW5.out⟩
    case round =>
      obtain ⟨done, hrg, hkm, hym, hw⟩ := hrel
      have HRG := Lib.hid hrg; have HKM := Lib.hid hkm; have HYM := Lib.hid hym; have HW := Lib.hid hw
      clear hrg hkm hym hw
      go_wp2_with (at_next; refine wpList_next_k (enc := swv) rfl (.tmp 27) rfl bW R sw done rfl HRG.out HND.out ?_ ?_)
      · intro hall
        have hda := HRG.out.all (fun x hx => hall x.1 x.2.1 x.2.2 hx)
        have hgd := HGP.out done hda.2
        have hdl : done.length ≤ 131072 := Nat.le_trans (List.Nodup.length_le_of_subset hda.1 (fun x hx => (hda.2 x).1 hx)) HSL.out
        have hgl : (gpL l done).length ≤ 1000000000 := by
          have h1 := gpL_len l done
          rw [HN.out] at h1
          have h2 : done.length * N ≤ 131072 * 256 := Nat.mul_le_mul hdl l2
          omega
        have hgn := gpL_nodup l done
        have hbk := (Below.refl wr.heap.size wr).alloc (Nat.le_refl _) (.cells #[.map (some GM)] 71)
        have hsf := sortedFunc_any (gpL l done) hgn GM wr.heap.size hgl (wr.alloc (.cells #[.map (some GM)] 71)) (cell_block (World.alloc_heap_new wr _) rfl) (HKM.out.below hbk)
        have hkeys := keys_any GM wr
        have HSF := Lib.hid hsf; have HKEYS := Lib.hid hkeys; have HGD := Lib.hid hgd; have HWK := Lib.hid (HW.out.trans (hbk.mono HW.out.size))
        clear hda hgd hdl hgl hgn hbk hsf hkeys hall HRG HKM HYM HW
        go_wp2_with fail
        go_at_call 64
        refine HKEYS.out.mono ?_
        rintro e w5' ⟨rfl, rfl⟩
        go_wp2_with fail
        go_at_call 63
        refine HSF.out.mono ?_
        rintro e w8 ⟨m, Y, rfl, hinc, hmem, hwY, hbY⟩
        obtain ⟨ao9, cap9, hv9, -⟩ := hwY.open
        subst hv9
        have HY9 := Lib.hid hwY; have HINC := Lib.hid hinc; have HMEM := Lib.hid hmem; have HB9 := Lib.hid hbY
        clear hwY hinc hmem hbY
        go_wp2_with fail
        go_ret2
        exact ⟨_, Y, rfl, HY9.out, fun _ => ⟨HINC.out, fun g => (HMEM.out g).trans (HGD.out g)⟩, fun h => absurd rfl h, HWK.out.trans (HB9.out.mono HWK.out.size)⟩
      · intro x1 x2 x3 w6 hx hxd hrg6 hlt6 hg6 hs6 hen
        obtain ⟨k, hk24, hx1, hx3⟩ := HSWO.out _ hx
        simp only at hx1 hx3
        subst hx1
        have hbg : bW ≠ GM := HNE.out (List.ne_nil_of_mem hx)
        have hrne : R ≠ GM := fun e => by
          obtain ⟨es, n, since, seen, c0, q1, q2, q3, q4, q5⟩ := HRG.out
          obtain ⟨es', n', p1, p2⟩ := HKM.out
          rw [e, p1] at q4
          cases q4
        have hrS : bS ≠ R := fun e => by
          obtain ⟨es, n, since, seen, c0, q1, q2, q3, q4, q5⟩ := HRG.out
          obtain ⟨es', n', p1, p2⟩ := HYM.out
          rw [e, q4] at p1
          cases p1
        have hkm6 : KMap snv w6 GM (gpL l done) := by
          obtain ⟨es, n, p1, p2⟩ := HKM.out
          exact ⟨es, n, (hg6.block _ HKM.out.lt (fun e => by cases e; exact hrne rfl)).trans p1, p2⟩
        have hym6 : YMap w6 bS (tru (setS l)) := HYM.out.kept (hg6.block _ HYM.out.lt (fun e => by cases e; exact hrS rfl))
        have hw6 : Below w.heap.size w w6 := HW.out.grown hg6 HW.out.size (fun q e => by cases e; exact HRL.out)
        unfold swv at hen
        simp only at hen
        have HBG := Lib.hid hbg; have HRN := Lib.hid hrne; have HX3 := Lib.hid hx3; have HLT6 := Lib.hid hlt6
        have hbX := (Below.refl w6.heap.size w6).alloc (Nat.le_refl _) (.cells #[.int .i64 (k : Int), .int .i64 x2, .int .i64 x3] 87)
        have hr7 := hrg6.below hbX
        have k7 := World.alloc_heap_new w6 (.cells #[.int .i64 (k : Int), .int .i64 x2, .int .i64 x3] 87)
        have HR7 := Lib.hid hr7; have HKM7 := Lib.hid (hkm6.below (by have := hbX; exact hbX)); have HYM7 := Lib.hid (hym6.below hbX); have HW7 := Lib.hid (hw6.trans (hbX.mono hw6.size)); have K7 := Lib.hid k7
        clear hbg hrne hrS hkm6 hym6 hw6 hx3 hlt6 hbX hr7 k7 hrg6 hg6 hxd hs6 HKM HYM HW
        unfold swv
        simp only
        obtain ⟨LF, hLF⟩ : ∃ LF, LF = wr.rangeLeft bW R := ⟨_, rfl⟩
        have hlt7 : (w6.alloc (.cells #[.int .i64 (k : Int), .int .i64 x2, .int .i64 x3] 87)).rangeLeft bW R < LF := by rw [HR7.out.2, hLF]; exact HLT6.out
        have HLT7 := Lib.hid hlt7; have HLF := Lib.hid hLF
        clear hlt7 hLF HRG HLT6
        go_wp2_with fail
        generalize w6.heap.size = XB at *
        generalize (w6.alloc (.cells #[.int .i64 (k : Int), .int .i64 x2, .int .i64 x3] 87)) = w7 at *
        go_loopw [34] (fun i wi => ∃ j : Nat, j ≤ N ∧ i = .int .i64 (j : Int) ∧ (KRng swv wi bW R sw (done ++ [((k : Int), x2, x3)]) ∧ wi.rangeLeft bW R < LF) ∧ KMap snv wi GM (gpX l ((k : Int), x2, x3) (l.take j) (gpL l done)) ∧ YMap wi bS (tru (setS l)) ∧ wi.heap[XB]? = some (.cells #[.int .i64 (k : Int), .int .i64 x2, .int .i64 x3] 87) ∧ Below w.heap.size w wi) (fun i _ => N - (intOf i).toNat)
        case atStart => exact ⟨0, by omega, rfl, ⟨HR7.out.1, HLT7.out⟩, HKM7.out, HYM7.out, K7.out, HW7.out⟩
        case round =>
          obtain ⟨j, hj, rfl, ⟨hrg, hlt⟩, hkm, hym, hxb, hw⟩ := hrel
          by_cases hltj : j < N
          · have hjl : j < l.length := by rw [HN.out]; exact hltj
            obtain ⟨b, off, hao, lb, d0, d1⟩ := HC.out j hjl
            subst hao
            have d0 := (hw.cell (p := ⟨b, _, none⟩) lb).trans d0
            have d1 := (hw.cell (p := ⟨b, _, none⟩) lb).trans d1
            have hsn := gpX_snoc l ((k : Int), x2, x3) (l.take j) l[j] (gpL l done)
            rw [← List.take_succ_eq_append_getElem hjl] at hsn
            have hzv := HV.out l[j] (List.getElem_mem hjl)
            have hgt := gv_get l[j] k hzv hk24
            have hwt := with_any l[j] k x3 hzv hk24 HX3.out
            have hig : isG l ((k : Int), x2, x3) l[j] = (decide (getV l[j].1 l[j].2 k = x2) && !decide (gapS l[j] ((k : Int), x2, x3) ∈ l)) := rfl
            have hgs : gapS l[j] ((k : Int), x2, x3) = (withP l[j].1 k x3, withM l[j].2 k x3) := rfl
            generalize l[j] = z at *
            obtain ⟨zp, zm⟩ := z
            simp only at d0 d1 hgt hwt hig hgs
            rw [hgs] at hig hsn
            rw [hig] at hsn
            generalize withP zp k x3 = gp at *
            generalize withM zm k x3 = gm at *
            generalize getV zp zm k = gv at *
            have hbZ := (Below.refl wr.heap.size wr).alloc (Nat.le_refl _) (.cells #[.int .u32 (zp.toNat : Int), .int .u32 (zm.toNat : Int)] 27)
            have k8 := World.alloc_heap_new wr (.cells #[.int .u32 (zp.toNat : Int), .int .u32 (zm.toNat : Int)] 27)
            have hx8 := (hbZ.block _ (Array.getElem?_eq_some_iff.1 hxb).1).trans hxb
            have hr8 := hrg.below hbZ
            have lZ : wr.heap.size < (wr.alloc (.cells #[.int .u32 (zp.toNat : Int), .int .u32 (zm.toNat : Int)] 27)).heap.size := by rw [World.size_alloc]; omega
            have KK : Hid (∀ W : World, Below (wr.alloc (.cells #[.int .u32 (zp.toNat : Int), .int .u32 (zm.toNat : Int)] 27)).heap.size (wr.alloc (.cells #[.int .u32 (zp.toNat : Int), .int .u32 (zm.toNat : Int)] 27)) W → (W.cell? ⟨wr.heap.size, 0, none⟩ = some (.int .u32 (zp.toNat : Int)) ∧ W.cell? ⟨wr.heap.size, 1, none⟩ = some (.int .u32 (zm.toNat : Int))) ∧ W.cell? ⟨XB, 0, none⟩ = some (.int .i64 (k : Int)) ∧ W.cell? ⟨XB, 1, none⟩ = some (.int .i64 x2) ∧ W.cell? ⟨XB, 2, none⟩ = some (.int .i64 x3)) := Lib.hid (fun W hW => by
              have q1 := (hW.block _ lZ).trans k8
              have q2 := (hW.block _ (Array.getElem?_eq_some_iff.1 hx8).1).trans hx8
              exact ⟨⟨cell_block q1 rfl, cell_block q1 rfl⟩, cell_block q2 rfl, cell_block q2 rfl, cell_block q2 rfl⟩)
            have HR8 := Lib.hid (And.intro hr8.1 (hr8.2.symm ▸ hlt : (wr.alloc (.cells #[.int .u32 (zp.toNat : Int), .int .u32 (zm.toNat : Int)] 27)).rangeLeft bW R < LF)); have HKM8 := Lib.hid (hkm.below hbZ); have HYM8 := Lib.hid (hym.below hbZ); have HX8 := Lib.hid hx8; have HW8 := Lib.hid (hw.trans (hbZ.mono hw.size)); have HGT := Lib.hid hgt; have HWT := Lib.hid hwt; have HSN := Lib.hid hsn
            have hj3 : (j : Int) < (N : Int) := by omega
            clear hrg hlt hkm hym hxb hw hgt hwt hsn hig hgs hzv hbZ k8 hx8 hr8 lZ
            go_wp2_with fail
            generalize wr.heap.size = ZB at *
            generalize (wr.alloc (.cells #[.int .u32 (zp.toNat : Int), .int .u32 (zm.toNat : Int)] 27)) = w8 at *
            have hB0 : Below w8.heap.size w8 w8.drew := Below.drew (Below.refl _ _)
            go_region_held3 (fun W => (W.cell? ⟨ZB, 0, none⟩ = some (.int .u32 (zp.toNat : Int)) ∧ W.cell? ⟨ZB, 1, none⟩ = some (.int .u32 (zm.toNat : Int))) ∧ W.cell? ⟨XB, 0, none⟩ = some (.int .i64 (k : Int)) ∧ W.cell? ⟨XB, 1, none⟩ = some (.int .i64 x2) ∧ W.cell? ⟨XB, 2, none⟩ = some (.int .i64 x3))
              (first | with_reducible exact KK.out _ hB1 | with_reducible exact KK.out _ hB0)
              (first
                | (go_at_call 37; (with_reducible refine Gives.then (HGT.out _) ?_); intro w9 hb9; have hB1 : Below w8.heap.size w8 w9 := hB0.trans (hb9.mono hB0.size)))
            have hr9 := HR8.out.1.below hB1
            have HR9 := Lib.hid (And.intro hr9.1 (by rw [hr9.2]; exact HR8.out.2 : w9.rangeLeft bW R < LF)); have HKM9 := Lib.hid (HKM8.out.below hB1); have HYM9 := Lib.hid (HYM8.out.below hB1); have HX9 := Lib.hid ((hB1.block _ (Array.getElem?_eq_some_iff.1 HX8.out).1).trans HX8.out); have HW9 := Lib.hid (HW8.out.trans (hB1.mono HW8.out.size))
            obtain ⟨⟨c0, c1'⟩, c2, c3, c4⟩ := KK.out _ hB1
            clear hb9 hB0 hB1 KK hr9 HR8 HKM8 HYM8 HX8 HW8 HGT
            by_cases hgx : gv = x2
            · subst hgx
              rw [decide_eq_true rfl, Bool.true_and] at HSN
              have hnn : (gv != gv) = false := by simp
              go_wp2_with fail
              go_at_call 38
              refine Gives.then (HWT.out _) ?_
              intro w10 hb10
              have hbG := (Below.refl w10.heap.size w10).alloc (Nat.le_refl _) (.cells #[.int .u32 (gp.toNat : Int), .int .u32 (gm.toNat : Int)] 27)
              have hb11 : Below w9.heap.size w9 (w10.alloc (.cells #[.int .u32 (gp.toNat : Int), .int .u32 (gm.toNat : Int)] 27)) := hb10.trans (hbG.mono hb10.size)
              have hr11 := HR9.out.1.below hb11
              have HR11 := Lib.hid (And.intro hr11.1 (by rw [hr11.2]; exact HR9.out.2 : (w10.alloc (.cells #[.int .u32 (gp.toNat : Int), .int .u32 (gm.toNat : Int)] 27)).rangeLeft bW R < LF)); have HKM11 := Lib.hid (HKM9.out.below hb11); have HYM11 := Lib.hid (HYM9.out.below hb11); have HX11 := Lib.hid ((hb11.block _ (Array.getElem?_eq_some_iff.1 HX9.out).1).trans HX9.out); have HW11 := Lib.hid (HW9.out.trans (hb11.mono HW9.out.size))
              have hlk := run_has_y Tryd.underlying71 (fun _ => by kernel_rfl) HYM11.out (gp, gm)
              unfold snv at hlk
              simp only at hlk
              have hmm2 : decide ((gp, gm) ∈ setS l) = decide ((gp, gm) ∈ l) := decide_eq_decide.2 (mem_setS l (gp, gm))
              rw [hmm2] at hlk
              clear hmm2 hb10 hbG hb11 hr11 HR9 HKM9 HYM9 HX9 HW9 HWT c0 c1' c2 c3 c4
              rcases hin : decide ((gp, gm) ∈ l) with _ | _
              · rw [hin] at hlk HSN
                obtain ⟨_, SK⟩ := sndY_key
                go_wp2_with (at_mapUpdate; refine wpList_update_k SK rfl (.tmp 58) (.tmp 59) (.const (.bool true)) 71 rfl Tryd.underlying71 GM _ (gp, gm) rfl rfl rfl HKM11.out ?_; intro w12 hk12 hg12; have HK12 := Lib.hid hk12; have HG12 := Lib.hid hg12; clear hk12 hg12)
                go_roundw
                case rel =>
                  have hr11 := HR11.out.1
                  have eW := HG12.out.block _ hr11.lt.1 (fun e => by cases e; exact HBG.out rfl)
                  have eR := HG12.out.block _ hr11.lt.2 (fun e => by cases e; exact HRN.out rfl)
                  have eS := HG12.out.block _ HYM11.out.lt (fun e => by cases e; exact Nat.lt_irrefl _ HLS.out)
                  have hxg : XB ≠ GM := fun e => by
                    obtain ⟨es', n', p1, p2⟩ := HKM11.out
                    have q4 := HX11.out
                    rw [e, p1] at q4
                    cases q4
                  have eX := HG12.out.block _ (Array.getElem?_eq_some_iff.1 HX11.out).1 (fun e => by cases e; exact hxg rfl)
                  exact ⟨j + 1, by omega, by go_num, ⟨hr11.kept eW eR, by rw [left_kept eW eR]; exact HR11.out.2⟩, by rw [HSN.out]; exact HK12.out, HYM11.out.kept eS, eX.trans HX11.out, HW11.out.grown HG12.out HW11.out.size (fun q e => by cases e; exact HGL.out)⟩
                case measure => simp [intOf]; omega
              · rw [hin] at hlk HSN
                go_wp2_with fail
                go_roundw
                case rel => exact ⟨j + 1, by omega, by go_num, HR11.out, by rw [HSN.out]; exact HKM11.out, HYM11.out, HX11.out, HW11.out⟩
                case measure => simp [intOf]; omega
            · rw [decide_eq_false hgx, Bool.false_and] at HSN
              have hnn : (gv != x2) = true := by simp [hgx]
              go_wp2_with fail
              go_roundw
              case rel => exact ⟨j + 1, by omega, by go_num, HR9.out, by rw [HSN.out]; exact HKM9.out, HYM9.out, HX9.out, HW9.out⟩
              case measure => simp [intOf]; omega
          · obtain rfl : j = N := by omega
            rw [← HN.out, List.take_length, ← gpL_snoc] at hkm
            have HRE := Lib.hid hrg; have HLE := Lib.hid hlt; have HKE := Lib.hid hkm; have HYE := Lib.hid hym; have HWE := Lib.hid hw
            clear hrg hlt hkm hym hxb hw hltj
            go_wp2_with fail
            go_roundw
            case rel => exact ⟨_, HRE.out, HKE.out, HYE.out, HWE.out⟩
            case measure => rw [← HLF.out]; exact HLE.out
  · rw [if_neg h0] at hP
    rw [hP] at HPA
    have g1 : (E == 0) = false := by simpa using h0
    have HE0 := Lib.hid h0
    clear HVL HLN hP h0
    go_enter Tryd.func29, Tryd.ntmps29
    go_wp2_with fail
    go_at_call 25
    refine HPA.out.mono ?_
    rintro e w1 ⟨v1, rfl, ho1, hb1⟩
    obtain ⟨a1, k1, rfl⟩ := ho1.slice
    clear ho1
    go_wp2_with fail
    go_ret2
    exact ⟨_, [], rfl, Wd.nil _, fun h => absurd h HE0.out, fun _ => rfl, hb1⟩
end Go.Proofs.YtpnmapfabjdfjaaDoor
