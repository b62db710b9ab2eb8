/-
  Lemmas that the theorem of this claim rests on: 1 texts, one behind the other.
-/
import Derived.Deep.CutRange
import Derived.Test.YtmobilppakjihaaDoorM30
import Derived.Test.YtmobilppakjihaaDoorM31
import Derived.Test.YtmobilppakjihaaDoorM32
set_option linter.unusedSimpArgs false
set_option linter.unusedVariables false
/-
  PatsTimes.
-/
namespace Go.Proofs.YtmobilppakjihaaDoor
open Go.RowKit Go.Sort
def puts (a : Act) : List (Nat × Value) → Act
  | [] => a
  | (i, v) :: l => puts (a.put (some i) v) l
theorem region_midA {P : Program} {c : Code} {Q : Exit → Act → World → Prop} {a : Act} {W : World} (R : Act → Act → World → Prop) (h1 : c.wp P (fun e a' W' => e = .normal ∧ R a a' W') a W) (h2 : ∀ a' W', R a a' W' → Q .normal a' W') : c.wp P Q a W :=
  Code.wp_mono (fun e a w ⟨he, hr⟩ => by subst he; exact h2 a w hr) h1
set_option maxRecDepth 100000 in
set_option maxHeartbeats 32000000 in
theorem times_any (d : Nd) (k : Fo) (ss : List Snd) (sv : Value) (a : Nat) (ha : a ≤ 255) (w : World) (hp : Pt w d k) (hW : Wd w sv ss) (hT : Tab64 w) (ht0 : 0 < w.heap.size) :
    Gives 10 #[ndV d, sv, .int .u8 (a : Int)] w (.bool true) := by
  unfold Gives
  have hgd := fun (W : World) (hb : Below w.heap.size w W) => lgood_any d k ss sv W (hp.below hb) (hW.below hb)
  have hsz := fun (W : World) (hb : Below w.heap.size w W) => size_any d k W (hp.below hb)
  have hwk : Hid (∀ W : World, Below w.heap.size w W → Gives 22 #[] W (.bool true)) := fun W hb => works_any W (hT.below hb ht0) (by have := hb.size; omega)
  obtain ⟨q, hq⟩ : ∃ q, a % 4 = q := ⟨_, rfl⟩
  have hq3 : q ≤ 3 := by omega
  have hrem : ((a : Int) % 4) = (q : Int) := by rw [← hq, Int.natCast_emod]; rfl
  have hfacts := fun (hE : mtE d k ss = 0) (h12 : k.size + 1 ≤ 12) => times_facts d k ss sv w hp hW hT ht0 hE h12 q hq3
  obtain ⟨wo, wc, rfl, lw, mw, -⟩ := hW.open
  obtain ⟨ao, cap, hsl, -, -, -⟩ := hp.open
  have hs := szP_le k
  obtain ⟨s, hS⟩ : ∃ s, szP k = s := ⟨_, rfl⟩
  rw [hS] at hsz hs
  obtain ⟨L, hL⟩ : ∃ L, ss.length = L := ⟨_, rfl⟩
  have hone : ∀ (u : Value), u ∈ c7 d → u.oneCell' = true := by
    intro u hu
    unfold c7 at hu
    rw [hsl] at hu
    simp only [List.mem_cons, List.not_mem_nil, or_false] at hu
    rcases hu with rfl | rfl | rfl | rfl | rfl | rfl | rfl <;> rfl
  by_cases hE : mtE d k ss = 0
  · have h32 := chk_len (node_ok hE).2
    rw [hE] at hgd
    by_cases h12 : s ≤ 12
    · have hlt := szP_lt (k := k) (n := s) (by omega) (by omega)
      obtain ⟨TA, TC, TE, RP, sub1, sub2, rpb, hrep, enA, enB, enC, enD, enE, enF⟩ := hfacts hE (by omega)
      rw [hL] at hgd enA enB enC enD enE enF h32 ⊢
      unfold EndsT at enA enB enC enD enE enF
      unfold repV at hrep enA enC enE
      unfold seqV at enB enD enF
      unfold two5 at enD enF
      clear hfacts
      obtain ⟨kind, ⟨p, m⟩, neg, mi, ma, sl⟩ := d
      simp only at hsl
      subst hsl
      obtain ⟨kl, hkl⟩ : ∃ kl, k.len = kl := ⟨_, rfl⟩
      rw [hkl] at hgd hsz hrep enB hone ⊢
      unfold ndV at hgd hsz hrep ⊢
      simp only at hgd hsz hrep ⊢
      have HGD := Lib.hid hgd; have HSZ := Lib.hid hsz; have HREP := Lib.hid hrep; have EA := Lib.hid enA; have EB := Lib.hid enB; have EC := Lib.hid enC; have ED := Lib.hid enD; have EE := Lib.hid enE; have EF := Lib.hid enF; have RPB := Lib.hid rpb; have SUB1 := Lib.hid sub1; have SUB2 := Lib.hid sub2; have HONE := Lib.hid hone
      clear hgd hsz hrep enA enB enC enD enE enF rpb sub1 sub2 hone hp hW hT ht0 hE hL hkl lw mw hlt hS hq
      have h12i : ¬ (12 : Int) < (s : Int) := by omega
      have h12n : ¬ 12 < s := by omega
      have R0 := Lib.hid (World.alloc_heap_new w (.cells #[.int .i64 kind, .int .u32 (p.toNat : Int), .int .u32 (m.toNat : Int), .bool neg, .int .i64 mi, .int .i64 ma, .slice ao kl cap] 27))
      have hB0 : Below w.heap.size w (w.alloc (.cells #[.int .i64 kind, .int .u32 (p.toNat : Int), .int .u32 (m.toNat : Int), .bool neg, .int .i64 mi, .int .i64 ma, .slice ao kl cap] 27)) := by go_grown
      have HB0 := Lib.hid hB0
      clear hB0
      go_enter Tryd.func10, Tryd.ntmps10
      go_wp2_with fail
      generalize (w.alloc (.cells #[.int .i64 kind, .int .u32 (p.toNat : Int), .int .u32 (m.toNat : Int), .bool neg, .int .i64 mi, .int .i64 ma, .slice ao kl cap] 27)) = v0 at *
      go_at_call 38
      refine Gives.then (HGD.out _ HB0.out) ?_
      intro w1 hb1
      have HB1 := Lib.hid (HB0.out.trans (hb1.mono HB0.out.size))
      have R1 := Lib.hid ((hb1.block _ (Array.getElem?_eq_some_iff.1 R0.out).1).trans R0.out)
      have g0 := cell_block R1.out (o := 0) rfl; have g1 := cell_block R1.out (o := 1) rfl; have g2 := cell_block R1.out (o := 2) rfl; have g3 := cell_block R1.out (o := 3) rfl; have g4 := cell_block R1.out (o := 4) rfl; have g5 := cell_block R1.out (o := 5) rfl; have g6 := cell_block R1.out (o := 6) rfl
      clear hb1 R0 HB0 HGD
      go_wp2_with fail
      go_at_call 16
      refine Gives.then (HSZ.out _ HB1.out) ?_
      intro w2 hb2
      have HB2 := Lib.hid (HB1.out.trans (hb2.mono HB1.out.size))
      have R2 := Lib.hid ((hb2.block _ (Array.getElem?_eq_some_iff.1 R1.out).1).trans R1.out)
      clear g0 g1 g2 g3 g4 g5 g6 hb2 R1 HB1 HSZ
      have g0 := cell_block R2.out (o := 0) rfl; have g1 := cell_block R2.out (o := 1) rfl; have g2 := cell_block R2.out (o := 2) rfl; have g3 := cell_block R2.out (o := 3) rfl; have g4 := cell_block R2.out (o := 4) rfl; have g5 := cell_block R2.out (o := 5) rfl; have g6 := cell_block R2.out (o := 6) rfl
      have hl2 := (Array.getElem?_eq_some_iff.1 R2.out).1
      clear g0 g1 g2 g3 g4 g5 g6
      go_wp2_with fail
      rw [hrem]
      clear hrem
      go_loopw [8, 9] (fun l i wr => ∃ (j : Nat), j ≤ q ∧ i = .int .i64 (j : Int) ∧ OwnP wr (w.heap.size + 1) l ⟨kind, (p, m), neg, mi, ma, .slice ao kl cap⟩ j ∧ wr.heap[w.heap.size]? = some (.cells #[.int .i64 kind, .int .u32 (p.toNat : Int), .int .u32 (m.toNat : Int), .bool neg, .int .i64 mi, .int .i64 ma, .slice ao kl cap] 27) ∧ Below w.heap.size w wr) (fun _ i _ => q - (intOf i).toNat)
      case atStart => exact ⟨0, by omega, rfl, OwnP.nil _ _ _, R2.out, HB2.out⟩
      case round =>
      clear R2 HB2 hl2
      obtain ⟨j, hj, rfl, ho, hr, hw⟩ := hrel
      obtain ⟨so, sc, hsv⟩ := ownsRow_slice ho
      subst hsv
      have R := Lib.hid hr; have HW := Lib.hid hw; have HO := Lib.hid ho
      clear hr hw ho
      have g0 := cell_block R.out (o := 0) rfl; have g1 := cell_block R.out (o := 1) rfl; have g2 := cell_block R.out (o := 2) rfl; have g3 := cell_block R.out (o := 3) rfl; have g4 := cell_block R.out (o := 4) rfl; have g5 := cell_block R.out (o := 5) rfl; have g6 := cell_block R.out (o := 6) rfl
      by_cases hjq : j < q
      · have hji : (j : Int) < (q : Int) := by omega
        have HOA := fun (O : Obj) => Lib.hid ((HO.out.below ((Below.refl _ wr).alloc (Nat.le_refl _) O)))
        have lR := (Array.getElem?_eq_some_iff.1 R.out).1
        go_wp2_with (at_builtin; refine wpList_appP rfl (.tmp 42) (.tmp 44) rfl (w.heap.size + 1) wr.heap.size _ ⟨kind, (p, m), neg, mi, ma, .slice ao kl cap⟩ j HONE.out rfl rfl (World.alloc_heap_new wr _) (HOA _).out (by omega) (by rw [World.size_alloc]; omega) ?_; intro v' w4 ho4 hg4; obtain ⟨vo, vc, hv'⟩ := ownsRow_slice ho4; subst hv')
        have hblk : ∀ k', (Value.slice so j sc).ownBlock = some k' → w.heap.size + 1 ≤ k' := fun k' e => (ownsRow_block HO.out k' e).1
        have hbf : Below (w.heap.size + 1) wr w4 := ((Below.refl _ wr).alloc (by omega) _).grown hg4 (by rw [World.size_alloc]; omega) hblk
        have FIN := Lib.hid (And.intro ho4 (And.intro ((hbf.block _ (by omega)).trans R.out) (HW.out.trans (hbf.mono (by omega)))))
        clear ho4 hg4 hblk hbf
        go_roundw
        case rel => exact ⟨j + 1, by omega, by go_num, FIN.out.1, FIN.out.2.1, FIN.out.2.2⟩
        case measure => simp [intOf]; omega
      · obtain rfl : j = q := by omega
        have hji : ¬ (j : Int) < (j : Int) := by omega
        clear hjq hj
        go_wp2_with fail
        go_at_call 42
        refine (HREP.out (j : Int) (j : Int) _ HW.out).mono ?_
        rintro e w3 ⟨B, rfl, hrp, hb⟩
        have HB3 := Lib.hid (HW.out.trans (hb.mono HW.out.size))
        have RR := Lib.hid hrp
        have R_n := Lib.hid ((hb.block _ (Array.getElem?_eq_some_iff.1 R.out).1).trans R.out); clear R; have R := R_n; clear R_n; have HO_n := Lib.hid (HO.out.below hb); clear HO; have HO := HO_n; clear HO_n
        clear g0 g1 g2 g3 g4 g5 g6 hrp hb HW
        go_wp2_with fail
        go_at_call 40
        refine (EA.out _ _ HB3.out RR.out).mono ?_
        rintro e w4 ⟨lv1, rfl, hmat, hb⟩
        obtain ⟨lb1, lc1, rfl, hrow⟩ := hmat.open
        have HR1 := Lib.hid hrow
        clear hmat hrow
        have HB4 := Lib.hid (HB3.out.trans (hb.mono HB3.out.size))
        have HC4 := Lib.hid hb
        have R_n := Lib.hid ((hb.block _ (Array.getElem?_eq_some_iff.1 R.out).1).trans R.out); clear R; have R := R_n; clear R_n; have HO_n := Lib.hid (HO.out.below hb); clear HO; have HO := HO_n; clear HO_n
        clear hb HB3 EA RR
        go_wp2_with fail
        go_at_call 41
        refine Gives.then (lseq_any _ _ _ _) ?_
        intro w5 hb
        have HB5 := Lib.hid (HB4.out.trans (hb.mono HB4.out.size))
        have HC5 := Lib.hid hb
        have R_n := Lib.hid ((hb.block _ (Array.getElem?_eq_some_iff.1 R.out).1).trans R.out); clear R; have R := R_n; clear R_n; have HO_n := Lib.hid (HO.out.below hb); clear HO; have HO := HO_n; clear HO_n
        clear hb HB4
        go_wp2_with fail
        go_at_call 40
        refine (EB.out _ _ _ HB5.out HO.out).mono ?_
        rintro e w6 ⟨lv2, rfl, hmat, hb⟩
        obtain ⟨lb2, lc2, rfl, hrow⟩ := hmat.open
        have HR2 := Lib.hid hrow
        clear hmat hrow
        have HB6 := Lib.hid (HB5.out.trans (hb.mono HB5.out.size))
        have HC6 := Lib.hid hb
        have R_n := Lib.hid ((hb.block _ (Array.getElem?_eq_some_iff.1 R.out).1).trans R.out); clear R; have R := R_n; clear R_n
        clear hb HB5 EB HO
        have g0 := cell_block R.out (o := 0) rfl; have g1 := cell_block R.out (o := 1) rfl; have g2 := cell_block R.out (o := 2) rfl; have g3 := cell_block R.out (o := 3) rfl; have g4 := cell_block R.out (o := 4) rfl; have g5 := cell_block R.out (o := 5) rfl; have g6 := cell_block R.out (o := 6) rfl
        have hj1 : IntKind.i64.wrap ((j : Int) + 1) = (j : Int) + 1 := by rw [IntKind.wrap_i64]; omega
        go_wp2_with fail
        go_at_call 42
        refine (HREP.out (j : Int) ((j : Int) + 1) _ HB6.out).mono ?_
        rintro e w7 ⟨B, rfl, hrp, hb⟩
        have HB7 := Lib.hid (HB6.out.trans (hb.mono HB6.out.size))
        have HC7 := Lib.hid hb
        have RR := Lib.hid hrp
        have R_n := Lib.hid ((hb.block _ (Array.getElem?_eq_some_iff.1 R.out).1).trans R.out); clear R; have R := R_n; clear R_n
        clear g0 g1 g2 g3 g4 g5 g6 hrp hb HB6
        go_wp2_with fail
        go_at_call 40
        refine (EC.out _ _ HB7.out RR.out).mono ?_
        rintro e w8 ⟨lv3, rfl, hmat, hb⟩
        obtain ⟨lb3, lc3, rfl, hrow⟩ := hmat.open
        have HR3 := Lib.hid hrow
        clear hmat hrow
        have HB8 := Lib.hid (HB7.out.trans (hb.mono HB7.out.size))
        have HC8 := Lib.hid hb
        have R_n := Lib.hid ((hb.block _ (Array.getElem?_eq_some_iff.1 R.out).1).trans R.out); clear R; have R := R_n; clear R_n
        clear hb HB7 EC RR hj1
        go_wp2_with fail
        refine region_midA (fun A a2 W2 => ∃ (B1 B2 D lb lc : Nat), a2 = puts A [(73, .agg #[.int .i64 kind, .int .u32 (p.toNat : Int), .int .u32 (m.toNat : Int), .bool neg, .int .i64 mi, .int .i64 ma, .slice ao kl cap]), (74, .int .i64 (j : Int)), (75, .int .i64 (j : Int)), (76, .agg #[.int .i64 5, .int .u32 0, .int .u32 0, .bool false, .int .i64 (j : Int), .int .i64 (j : Int), .slice (some ⟨B1, 0, none⟩) 1 1]), (77, .agg #[.int .i64 kind, .int .u32 (p.toNat : Int), .int .u32 (m.toNat : Int), .bool neg, .int .i64 mi, .int .i64 ma, .slice ao kl cap]), (78, .agg #[.int .i64 5, .int .u32 0, .int .u32 0, .bool false, .int .i64 0, .int .i64 (1 : Int), .slice (some ⟨B2, 0, none⟩) 1 1]), (79, .slice (some ⟨D, 0, none⟩) 2 2), (80, .agg #[.int .i64 3, .int .u32 0, .int .u32 0, .bool false, .int .i64 0, .int .i64 0, .slice (some ⟨D, 0, none⟩) 2 2]), (81, .slice wo L wc), (82, .tuple #[.slice (some ⟨lb, 0, none⟩) (L + 1) lc, .bool true]), (72, .tuple #[.slice (some ⟨lb, 0, none⟩) (L + 1) lc, .bool true]), (83, .slice (some ⟨lb, 0, none⟩) (L + 1) lc), (84, .bool true), (16, .slice (some ⟨lb, 0, none⟩) (L + 1) lc), (17, .bool true)] ∧ (∀ W', Below W2.heap.size W2 W' → ∀ i, i ≤ L → ∃ c, W'.cell? ⟨lb, i, none⟩ = some (.slice (some ⟨c, 0, none⟩) (L + 1) (L + 1)) ∧ ∀ j, j ≤ L → W'.cell? ⟨c, j, none⟩ = some (.bool ((TC i).getLsbD j))) ∧ Below w8.heap.size w8 W2) ?reg4 ?on4
        case reg4 =>
          have HSB := Lib.hid (fun (W : World) (hb : Below w8.heap.size w8 W) => (have r := (hb.block _ (Array.getElem?_eq_some_iff.1 R.out).1).trans R.out; (⟨cell_block r rfl, cell_block r rfl, cell_block r rfl, cell_block r rfl, cell_block r rfl, cell_block r rfl, cell_block r rfl⟩ : W.cell? ⟨w.heap.size, 0, none⟩ = some (.int .i64 kind) ∧ W.cell? ⟨w.heap.size, 1, none⟩ = some (.int .u32 (p.toNat : Int)) ∧ W.cell? ⟨w.heap.size, 2, none⟩ = some (.int .u32 (m.toNat : Int)) ∧ W.cell? ⟨w.heap.size, 3, none⟩ = some (.bool neg) ∧ W.cell? ⟨w.heap.size, 4, none⟩ = some (.int .i64 mi) ∧ W.cell? ⟨w.heap.size, 5, none⟩ = some (.int .i64 ma) ∧ W.cell? ⟨w.heap.size, 6, none⟩ = some (.slice ao kl cap))))
          have hbv : Below w8.heap.size w8 w8.drew := (Below.refl _ _).drew
          have HS := Lib.hid (HSB.out _ hbv)
          go_region_held3 (fun W : World => W.cell? ⟨w.heap.size, 0, none⟩ = some (.int .i64 kind) ∧ W.cell? ⟨w.heap.size, 1, none⟩ = some (.int .u32 (p.toNat : Int)) ∧ W.cell? ⟨w.heap.size, 2, none⟩ = some (.int .u32 (m.toNat : Int)) ∧ W.cell? ⟨w.heap.size, 3, none⟩ = some (.bool neg) ∧ W.cell? ⟨w.heap.size, 4, none⟩ = some (.int .i64 mi) ∧ W.cell? ⟨w.heap.size, 5, none⟩ = some (.int .i64 ma) ∧ W.cell? ⟨w.heap.size, 6, none⟩ = some (.slice ao kl cap)) (first | exact HS.out | exact HSB.out _ (hbv.alloc hbv.size _))
            (first
              | (go_at_call 42; with_reducible refine (HREP.out (j : Int) (j : Int) _ (HB8.out.trans (hbv.mono HB8.out.size))).mono ?_; rintro e wl ⟨B1, rfl, hr1, hb⟩; (try (have hx := RPB.out _ _ _ _ _ hr2 hb; clear hr2; have hr2 := hx; clear hx)); have hx := hbv.trans (hb.mono hbv.size); clear hbv; have hbv := hx; clear hx hb HS; have HS := Lib.hid (HSB.out _ hbv))
              | (go_at_call 42; with_reducible refine (HREP.out (0 : Int) (1 : Int) _ (HB8.out.trans (hbv.mono HB8.out.size))).mono ?_; rintro e wl ⟨B2, rfl, hr2, hb⟩; (try (have hx := RPB.out _ _ _ _ _ hr1 hb; clear hr1; have hr1 := hx; clear hx)); have hx := hbv.trans (hb.mono hbv.size); clear hbv; have hbv := hx; clear hx hb HS; have HS := Lib.hid (HSB.out _ hbv))
              | (go_at_call 41; refine calls_gen ?_; intro V9 hV9; have hb : Below wl.heap.size wl V9 := (by rw [hV9]; go_grown); have b9 : V9.heap[wl.heap.size]? = some (.cells #[.int .i64 5, .int .u32 0, .int .u32 0, .bool false, .int .i64 (j : Int), .int .i64 (j : Int), .slice (some ⟨B1, 0, none⟩) 1 1, .int .i64 5, .int .u32 0, .int .u32 0, .bool false, .int .i64 0, .int .i64 (1 : Int), .slice (some ⟨B2, 0, none⟩) 1 1] 27) := (by rw [hV9]; exact World.alloc_heap_new _ _); clear hV9; have lV9 := (Array.getElem?_eq_some_iff.1 b9).1; with_reducible refine Gives.then (lseq_any _ _ _ V9) ?_; intro wm hbm; have B9 := Lib.hid ((hbm.block _ lV9).trans b9); have hbq := hb.trans (hbm.mono hb.size); have R1Q := Lib.hid (RPB.out _ _ _ _ _ hr1 hbq); have R2Q := Lib.hid (RPB.out _ _ _ _ _ hr2 hbq); have hx := hbv.trans (hbq.mono hbv.size); clear hbv; have hbv := hx; clear hx hb hbm hbq b9 lV9 hr1 hr2 HS; have HS := Lib.hid (HSB.out _ hbv))
              | (go_at_call 40; with_reducible refine (ED.out _ _ _ _ (HB8.out.trans (hbv.mono HB8.out.size)) B9.out R1Q.out R2Q.out).mono ?_; rintro e w9 ⟨lv4, rfl, hmat, hb⟩; obtain ⟨lb4, lc4, rfl, hrow⟩ := hmat.open; have HR4 := Lib.hid hrow; have hx := hbv.trans (hb.mono hbv.size); clear hbv; have hbv := hx; clear hx hb hmat hrow HS B9 R1Q R2Q; have HS := Lib.hid (HSB.out _ hbv)))
          all_goals
            refine ⟨rfl, B1, B2, wl.heap.size, lb4, lc4, ?_, HR4.out, hbv⟩
            simp only [puts, Act.put, List.setIfInBounds_toArray, List.set_cons_zero, List.set_cons_succ]
        case on4 =>
        rintro a2 w9 ⟨B1, B2, D, lb4, lc4, rfl, hrow, hbv⟩
        simp only [puts, Act.put, List.setIfInBounds_toArray, List.set_cons_zero, List.set_cons_succ]
        have HR4 := Lib.hid hrow
        clear hrow
        have HB9 := Lib.hid (HB8.out.trans (hbv.mono HB8.out.size))
        have HC9 := Lib.hid hbv
        have hb := hbv
        have R_n := Lib.hid ((hb.block _ (Array.getElem?_eq_some_iff.1 R.out).1).trans R.out); clear R; have R := R_n; clear R_n
        clear hb hbv HB8 ED
        have g0 := cell_block R.out (o := 0) rfl; have g1 := cell_block R.out (o := 1) rfl; have g2 := cell_block R.out (o := 2) rfl; have g3 := cell_block R.out (o := 3) rfl; have g4 := cell_block R.out (o := 4) rfl; have g5 := cell_block R.out (o := 5) rfl; have g6 := cell_block R.out (o := 6) rfl
        go_wp2_with fail
        go_at_call 42
        refine (HREP.out (j : Int) (-1 : Int) _ HB9.out).mono ?_
        rintro e w10 ⟨B, rfl, hrp, hb⟩
        have HB10 := Lib.hid (HB9.out.trans (hb.mono HB9.out.size))
        have HC10 := Lib.hid hb
        have RR := Lib.hid hrp
        have R_n := Lib.hid ((hb.block _ (Array.getElem?_eq_some_iff.1 R.out).1).trans R.out); clear R; have R := R_n; clear R_n
        clear g0 g1 g2 g3 g4 g5 g6 hrp hb HB9
        go_wp2_with fail
        go_at_call 40
        refine (EE.out _ _ HB10.out RR.out).mono ?_
        rintro e w11 ⟨lv5, rfl, hmat, hb⟩
        obtain ⟨lb5, lc5, rfl, hrow⟩ := hmat.open
        have HR5 := Lib.hid hrow
        clear hmat hrow
        have HB11 := Lib.hid (HB10.out.trans (hb.mono HB10.out.size))
        have HC11 := Lib.hid hb
        have R_n := Lib.hid ((hb.block _ (Array.getElem?_eq_some_iff.1 R.out).1).trans R.out); clear R; have R := R_n; clear R_n
        clear hb HB10 EE RR
        go_wp2_with fail
        refine region_midA (fun A a2 W2 => ∃ (B1 B2 D lb lc : Nat), a2 = puts A [(94, .agg #[.int .i64 kind, .int .u32 (p.toNat : Int), .int .u32 (m.toNat : Int), .bool neg, .int .i64 mi, .int .i64 ma, .slice ao kl cap]), (95, .int .i64 (j : Int)), (96, .agg #[.int .i64 5, .int .u32 0, .int .u32 0, .bool false, .int .i64 (j : Int), .int .i64 (-1 : Int), .slice (some ⟨B1, 0, none⟩) 1 1]), (97, .agg #[.int .i64 kind, .int .u32 (p.toNat : Int), .int .u32 (m.toNat : Int), .bool neg, .int .i64 mi, .int .i64 ma, .slice ao kl cap]), (98, .agg #[.int .i64 5, .int .u32 0, .int .u32 0, .bool false, .int .i64 0, .int .i64 (-1 : Int), .slice (some ⟨B2, 0, none⟩) 1 1]), (99, .slice (some ⟨D, 0, none⟩) 2 2), (100, .agg #[.int .i64 3, .int .u32 0, .int .u32 0, .bool false, .int .i64 0, .int .i64 0, .slice (some ⟨D, 0, none⟩) 2 2]), (101, .slice wo L wc), (102, .tuple #[.slice (some ⟨lb, 0, none⟩) (L + 1) lc, .bool true]), (93, .tuple #[.slice (some ⟨lb, 0, none⟩) (L + 1) lc, .bool true]), (103, .slice (some ⟨lb, 0, none⟩) (L + 1) lc), (104, .bool true), (20, .slice (some ⟨lb, 0, none⟩) (L + 1) lc), (21, .bool true)] ∧ (∀ W', Below W2.heap.size W2 W' → ∀ i, i ≤ L → ∃ c, W'.cell? ⟨lb, i, none⟩ = some (.slice (some ⟨c, 0, none⟩) (L + 1) (L + 1)) ∧ ∀ j, j ≤ L → W'.cell? ⟨c, j, none⟩ = some (.bool ((TE i).getLsbD j))) ∧ Below w11.heap.size w11 W2) ?reg6 ?on6
        case reg6 =>
          have HSB := Lib.hid (fun (W : World) (hb : Below w11.heap.size w11 W) => (have r := (hb.block _ (Array.getElem?_eq_some_iff.1 R.out).1).trans R.out; (⟨cell_block r rfl, cell_block r rfl, cell_block r rfl, cell_block r rfl, cell_block r rfl, cell_block r rfl, cell_block r rfl⟩ : W.cell? ⟨w.heap.size, 0, none⟩ = some (.int .i64 kind) ∧ W.cell? ⟨w.heap.size, 1, none⟩ = some (.int .u32 (p.toNat : Int)) ∧ W.cell? ⟨w.heap.size, 2, none⟩ = some (.int .u32 (m.toNat : Int)) ∧ W.cell? ⟨w.heap.size, 3, none⟩ = some (.bool neg) ∧ W.cell? ⟨w.heap.size, 4, none⟩ = some (.int .i64 mi) ∧ W.cell? ⟨w.heap.size, 5, none⟩ = some (.int .i64 ma) ∧ W.cell? ⟨w.heap.size, 6, none⟩ = some (.slice ao kl cap))))
          have hbv : Below w11.heap.size w11 w11.drew := (Below.refl _ _).drew
          have HS := Lib.hid (HSB.out _ hbv)
          go_region_held3 (fun W : World => W.cell? ⟨w.heap.size, 0, none⟩ = some (.int .i64 kind) ∧ W.cell? ⟨w.heap.size, 1, none⟩ = some (.int .u32 (p.toNat : Int)) ∧ W.cell? ⟨w.heap.size, 2, none⟩ = some (.int .u32 (m.toNat : Int)) ∧ W.cell? ⟨w.heap.size, 3, none⟩ = some (.bool neg) ∧ W.cell? ⟨w.heap.size, 4, none⟩ = some (.int .i64 mi) ∧ W.cell? ⟨w.heap.size, 5, none⟩ = some (.int .i64 ma) ∧ W.cell? ⟨w.heap.size, 6, none⟩ = some (.slice ao kl cap)) (first | exact HS.out | exact HSB.out _ (hbv.alloc hbv.size _))
            (first
              | (go_at_call 42; with_reducible refine (HREP.out (j : Int) (-1 : Int) _ (HB11.out.trans (hbv.mono HB11.out.size))).mono ?_; rintro e wl ⟨B1, rfl, hr1, hb⟩; (try (have hx := RPB.out _ _ _ _ _ hr2 hb; clear hr2; have hr2 := hx; clear hx)); have hx := hbv.trans (hb.mono hbv.size); clear hbv; have hbv := hx; clear hx hb HS; have HS := Lib.hid (HSB.out _ hbv))
              | (go_at_call 42; with_reducible refine (HREP.out (0 : Int) (-1 : Int) _ (HB11.out.trans (hbv.mono HB11.out.size))).mono ?_; rintro e wl ⟨B2, rfl, hr2, hb⟩; (try (have hx := RPB.out _ _ _ _ _ hr1 hb; clear hr1; have hr1 := hx; clear hx)); have hx := hbv.trans (hb.mono hbv.size); clear hbv; have hbv := hx; clear hx hb HS; have HS := Lib.hid (HSB.out _ hbv))
              | (go_at_call 41; refine calls_gen ?_; intro V9 hV9; have hb : Below wl.heap.size wl V9 := (by rw [hV9]; go_grown); have b9 : V9.heap[wl.heap.size]? = some (.cells #[.int .i64 5, .int .u32 0, .int .u32 0, .bool false, .int .i64 (j : Int), .int .i64 (-1 : Int), .slice (some ⟨B1, 0, none⟩) 1 1, .int .i64 5, .int .u32 0, .int .u32 0, .bool false, .int .i64 0, .int .i64 (-1 : Int), .slice (some ⟨B2, 0, none⟩) 1 1] 27) := (by rw [hV9]; exact World.alloc_heap_new _ _); clear hV9; have lV9 := (Array.getElem?_eq_some_iff.1 b9).1; with_reducible refine Gives.then (lseq_any _ _ _ V9) ?_; intro wm hbm; have B9 := Lib.hid ((hbm.block _ lV9).trans b9); have hbq := hb.trans (hbm.mono hb.size); have R1Q := Lib.hid (RPB.out _ _ _ _ _ hr1 hbq); have R2Q := Lib.hid (RPB.out _ _ _ _ _ hr2 hbq); have hx := hbv.trans (hbq.mono hbv.size); clear hbv; have hbv := hx; clear hx hb hbm hbq b9 lV9 hr1 hr2 HS; have HS := Lib.hid (HSB.out _ hbv))
              | (go_at_call 40; with_reducible refine (EF.out _ _ _ _ (HB11.out.trans (hbv.mono HB11.out.size)) B9.out R1Q.out R2Q.out).mono ?_; rintro e w12 ⟨lv6, rfl, hmat, hb⟩; obtain ⟨lb6, lc6, rfl, hrow⟩ := hmat.open; have HR6 := Lib.hid hrow; have hx := hbv.trans (hb.mono hbv.size); clear hbv; have hbv := hx; clear hx hb hmat hrow HS B9 R1Q R2Q; have HS := Lib.hid (HSB.out _ hbv)))
          all_goals
            refine ⟨rfl, B1, B2, wl.heap.size, lb6, lc6, ?_, HR6.out, hbv⟩
            simp only [puts, Act.put, List.setIfInBounds_toArray, List.set_cons_zero, List.set_cons_succ]
        case on6 =>
        rintro a2 w12 ⟨B1, B2, D, lb6, lc6, rfl, hrow, hbv⟩
        simp only [puts, Act.put, List.setIfInBounds_toArray, List.set_cons_zero, List.set_cons_succ]
        have HR6 := Lib.hid hrow
        clear hrow
        have HB12 := Lib.hid (HB11.out.trans (hbv.mono HB11.out.size))
        have HC12 := Lib.hid hbv
        clear hbv HB11 EF HREP RPB R
        have n11 := fun wr (hw : Below w12.heap.size w12 wr) => HC12.out.trans (hw.mono HC12.out.size)
        have n10 := fun wr (hw : Below w12.heap.size w12 wr) => HC11.out.trans ((n11 wr hw).mono HC11.out.size)
        have n9 := fun wr (hw : Below w12.heap.size w12 wr) => HC10.out.trans ((n10 wr hw).mono HC10.out.size)
        have n8 := fun wr (hw : Below w12.heap.size w12 wr) => HC9.out.trans ((n9 wr hw).mono HC9.out.size)
        have n7 := fun wr (hw : Below w12.heap.size w12 wr) => HC8.out.trans ((n8 wr hw).mono HC8.out.size)
        have n6 := fun wr (hw : Below w12.heap.size w12 wr) => HC7.out.trans ((n7 wr hw).mono HC7.out.size)
        have n5 := fun wr (hw : Below w12.heap.size w12 wr) => HC6.out.trans ((n6 wr hw).mono HC6.out.size)
        have n4 := fun wr (hw : Below w12.heap.size w12 wr) => HC5.out.trans ((n5 wr hw).mono HC5.out.size)
        have M1 := Lib.hid (fun wr (hw : Below w12.heap.size w12 wr) => HR1.out wr (n4 wr hw))
        have M2 := Lib.hid (fun wr (hw : Below w12.heap.size w12 wr) => HR2.out wr (n6 wr hw))
        have M3 := Lib.hid (fun wr (hw : Below w12.heap.size w12 wr) => HR3.out wr (n8 wr hw))
        have M4 := Lib.hid (fun wr (hw : Below w12.heap.size w12 wr) => HR4.out wr (n9 wr hw))
        have M5 := Lib.hid (fun wr (hw : Below w12.heap.size w12 wr) => HR5.out wr (n11 wr hw))
        have M6 := Lib.hid (fun wr (hw : Below w12.heap.size w12 wr) => HR6.out wr hw)
        clear n4 n5 n6 n7 n8 n9 n10 n11 HR1 HR2 HR3 HR4 HR5 HR6 HC4 HC5 HC6 HC7 HC8 HC9 HC10 HC11 HC12
        go_upto_region 17 with fail
        go_cut [22] from 24 (fun s wx => s = .int .i64 0 ∧ w12 = wx)
        case first =>
          go_wp2_with fail
          go_meet
          exact ⟨rfl, rfl⟩
        case rest =>
        obtain ⟨rfl, hwc⟩ := hcut
        subst hwc
        go_wp2_with fail
        go_loopw [22] (fun i wr => ∃ i' : Nat, i' ≤ L + 1 ∧ i = .int .i64 (i' : Int) ∧ Below w12.heap.size w12 wr) (fun i _ => L + 1 - (intOf i).toNat)
        case atStart => exact ⟨0, by omega, rfl, Below.refl _ _⟩
        case round =>
        obtain ⟨i, hi, rfl, hw⟩ := hrel
        have HW := Lib.hid hw
        clear hw
        by_cases hil : i < L + 1
        · have hiL : (i : Int) ≤ (L : Int) := by omega
          have hiN : i ≤ L := by omega
          have hii : (i : Int) < (L : Int) + 1 := by omega
          obtain ⟨W4, hW4⟩ : ∃ W4, W4 = wr := ⟨_, rfl⟩
          subst hW4
          go_wp2_with fail
          go_loopw [23] (fun i' wr => ∃ y : Nat, y ≤ L + 1 ∧ i' = .int .i64 (y : Int) ∧ Below w12.heap.size w12 wr) (fun i' _ => L + 1 - (intOf i').toNat)
          case atStart => exact ⟨0, by omega, rfl, HW.out⟩
          case round =>
          obtain ⟨y, hy, rfl, hw⟩ := hrel
          have HW5 := Lib.hid hw
          clear hw
          by_cases hyl : y < L + 1
          · have hyL : (y : Int) ≤ (L : Int) := by omega
            have hyN : y ≤ L := by omega
            have hyy : (y : Int) < (L : Int) + 1 := by omega
            obtain ⟨c1, a1, x1⟩ := M1.out wr HW5.out i hiN
            have b1 := x1 y hyN
            obtain ⟨c2, a2, x2⟩ := M2.out wr HW5.out i hiN
            have b2 := x2 y hyN
            obtain ⟨c3, a3, x3⟩ := M3.out wr HW5.out i hiN
            have b3 := x3 y hyN
            obtain ⟨c4, a4, x4⟩ := M4.out wr HW5.out i hiN
            have b4 := x4 y hyN
            obtain ⟨c5, a5, x5⟩ := M5.out wr HW5.out i hiN
            have b5 := x5 y hyN
            obtain ⟨c6, a6, x6⟩ := M6.out wr HW5.out i hiN
            have b6 := x6 y hyN
            have hsub1 := SUB1.out i y
            have hsub2 := SUB2.out i y
            unfold mem at hsub1 hsub2
            obtain ⟨z1, hz1⟩ : ∃ z, (TA i).getLsbD y = z := ⟨_, rfl⟩
            obtain ⟨z2, hz2⟩ : ∃ z, (TC i).getLsbD y = z := ⟨_, rfl⟩
            obtain ⟨z3, hz3⟩ : ∃ z, (TE i).getLsbD y = z := ⟨_, rfl⟩
            rw [hz1] at b1 b2 hsub1
            rw [hz2] at b3 b4 hsub1 hsub2
            rw [hz3] at b5 b6 hsub2
            clear x1 x2 x3 x4 x5 x6 hz1 hz2 hz3
            have HSIX := Lib.hid (show Six L i y wr z1 z2 z3 lb1 lb2 lb3 lb4 lb5 lb6 from ⟨c1, c2, c3, c4, c5, c6, a1, b1, a2, b2, a3, b3, a4, b4, a5, b5, a6, b6⟩)
            clear a1 a2 a3 a4 a5 a6 b1 b2 b3 b4 b5 b6
            go_wp2_with fail
            have hreg : ∀ x0 x1 x2 x3 x4 x5 x6 x7 x8 x9 x11 x13 x15 x17 x19 x21 x24 x25 x26 x27 x28 x29 x30 x31 x32 x33 x34 x35 x36 x37 x38 x39 x40 x41 x42 x43 x44 x45 x46 x47 x48 x49 x50 x51 x52 x53 x54 x55 x56 x57 x58 x59 x60 x61 x62 x63 x64 x65 x66 x67 x68 x69 x70 x71 x72 x73 x74 x75 x76 x77 x78 x79 x80 x81 x82 x83 x84 x85 x86 x87 x88 x89 x90 x91 x92 x93 x94 x95 x96 x97 x98 x99 x100 x101 x102 x103 x104 x105 x106 x107 x108 x109 x110 x111 x112 x113 x114 x115 x116 x117 x118 x119 x120 x121 x122 x123 x124 x125 x126 x127 x128 x129 x130 x131 x132 x133 x134 x135 x136 x137 x138 x139 x140 x141 x142 x143 x144 x145 x146 x147 x148 x149 x150 x151 x152 x153 x154 x155 x156 x157 x158 x159 x160 x161 x162 x163 x164 x165 x166 x167 x168 x169 x170 x171 x172 x173 x174 x175 x176 x177 x178 x179 x180 x181 x182 x183 x184 x185 x186 x187 x188 x189 x190 x191 x192 x193 x194 x195 x196 x197 x198 x199 x200 x201 x202 x203 x204 x205 x206 x207 x208 x209 x210 x211 x212 x213 x214 x215 x216 x217 x218 x219 x220 x221 x222 x223 x224 x225 x226, reg23.wp Tryd.prog (fun e a' w' => e = .normal ∧ After23 L i y lb1 lc1 lb2 lc2 lb3 lc3 lb4 lc4 lb5 lc5 lb6 lc6 x0 x1 x2 x3 x4 x5 x6 x7 x8 x9 x11 x13 x15 x17 x19 x21 x24 x25 x26 x27 x28 x29 x30 x31 x32 x33 x34 x35 x36 x37 x38 x39 x40 x41 x42 x43 x44 x45 x46 x47 x48 x49 x50 x51 x52 x53 x54 x55 x56 x57 x58 x59 x60 x61 x62 x63 x64 x65 x66 x67 x68 x69 x70 x71 x72 x73 x74 x75 x76 x77 x78 x79 x80 x81 x82 x83 x84 x85 x86 x87 x88 x89 x90 x91 x92 x93 x94 x95 x96 x97 x98 x99 x100 x101 x102 x103 x104 x105 x106 x107 x108 x109 x110 x111 x112 x113 x114 x115 x116 x117 x118 x119 x120 x121 x122 x123 x124 x125 x126 x127 x128 x129 x130 x131 x132 x133 x134 x135 x136 x137 x138 x139 x140 x141 x142 x143 x144 x145 x146 x147 x148 x149 x150 x151 x152 x153 x154 x155 x156 x157 x158 x159 x160 x161 x162 x163 x164 x165 x166 x167 x168 x169 x170 x171 x172 x173 x174 x175 x176 x177 x178 x179 x180 x181 x182 x183 x184 x185 x186 x187 x188 x189 x190 x191 x192 x193 x194 x195 x196 x197 x198 x199 x200 x201 x202 x203 x204 x205 x206 x207 x208 x209 x210 x211 x212 x213 x214 x215 x216 x217 x218 x219 x220 x221 x222 x223 x224 x225 x226 a' ∧ Below wr.heap.size wr w') { tmps := #[x0, x1, x2, x3, x4, x5, x6, x7, x8, x9, .slice (some ⟨lb1, 0, none⟩) (L + 1) lc1, x11, .slice (some ⟨lb2, 0, none⟩) (L + 1) lc2, x13, .slice (some ⟨lb3, 0, none⟩) (L + 1) lc3, x15, .slice (some ⟨lb4, 0, none⟩) (L + 1) lc4, x17, .slice (some ⟨lb5, 0, none⟩) (L + 1) lc5, x19, .slice (some ⟨lb6, 0, none⟩) (L + 1) lc6, x21, .int .i64 (i : Int), .int .i64 (y : Int), x24, x25, x26, x27, x28, x29, x30, x31, x32, x33, x34, x35, x36, x37, x38, x39, x40, x41, x42, x43, x44, x45, x46, x47, x48, x49, x50, x51, x52, x53, x54, x55, x56, x57, x58, x59, x60, x61, x62, x63, x64, x65, x66, x67, x68, x69, x70, x71, x72, x73, x74, x75, x76, x77, x78, x79, x80, x81, x82, x83, x84, x85, x86, x87, x88, x89, x90, x91, x92, x93, x94, x95, x96, x97, x98, x99, x100, x101, x102, x103, x104, x105, x106, x107, x108, x109, x110, x111, x112, x113, x114, x115, x116, x117, x118, x119, x120, x121, x122, x123, x124, x125, x126, x127, x128, x129, x130, x131, x132, x133, x134, x135, x136, x137, x138, x139, x140, x141, x142, x143, x144, x145, x146, x147, x148, x149, x150, x151, x152, x153, x154, x155, x156, x157, x158, x159, x160, x161, x162, x163, x164, x165, x166, x167, x168, x169, x170, x171, x172, x173, x174, x175, x176, x177, x178, x179, x180, x181, x182, x183, x184, x185, x186, x187, x188, x189, x190, x191, x192, x193, x194, x195, x196, x197, x198, x199, x200, x201, x202, x203, x204, x205, x206, x207, x208, x209, x210, x211, x212, x213, x214, x215, x216, x217, x218, x219, x220, x221, x222, x223, x224, x225, x226], defers := [] } wr := by
              intro x0 x1 x2 x3 x4 x5 x6 x7 x8 x9 x11 x13 x15 x17 x19 x21 x24 x25 x26 x27 x28 x29 x30 x31 x32 x33 x34 x35 x36 x37 x38 x39 x40 x41 x42 x43 x44 x45 x46 x47 x48 x49 x50 x51 x52 x53 x54 x55 x56 x57 x58 x59 x60 x61 x62 x63 x64 x65 x66 x67 x68 x69 x70 x71 x72 x73 x74 x75 x76 x77 x78 x79 x80 x81 x82 x83 x84 x85 x86 x87 x88 x89 x90 x91 x92 x93 x94 x95 x96 x97 x98 x99 x100 x101 x102 x103 x104 x105 x106 x107 x108 x109 x110 x111 x112 x113 x114 x115 x116 x117 x118 x119 x120 x121 x122 x123 x124 x125 x126 x127 x128 x129 x130 x131 x132 x133 x134 x135 x136 x137 x138 x139 x140 x141 x142 x143 x144 x145 x146 x147 x148 x149 x150 x151 x152 x153 x154 x155 x156 x157 x158 x159 x160 x161 x162 x163 x164 x165 x166 x167 x168 x169 x170 x171 x172 x173 x174 x175 x176 x177 x178 x179 x180 x181 x182 x183 x184 x185 x186 x187 x188 x189 x190 x191 x192 x193 x194 x195 x196 x197 x198 x199 x200 x201 x202 x203 x204 x205 x206 x207 x208 x209 x210 x211 x212 x213 x214 x215 x216 x217 x218 x219 x220 x221 x222 x223 x224 x225 x226
              rcases z1 with _ | _ <;> rcases z2 with _ | _ <;> rcases z3 with _ | _
              · exact reg23_a L i y hiN hyN lb1 lc1 lb2 lc2 lb3 lc3 lb4 lc4 lb5 lc5 lb6 lc6 wr HSIX.out x0 x1 x2 x3 x4 x5 x6 x7 x8 x9 x11 x13 x15 x17 x19 x21 x24 x25 x26 x27 x28 x29 x30 x31 x32 x33 x34 x35 x36 x37 x38 x39 x40 x41 x42 x43 x44 x45 x46 x47 x48 x49 x50 x51 x52 x53 x54 x55 x56 x57 x58 x59 x60 x61 x62 x63 x64 x65 x66 x67 x68 x69 x70 x71 x72 x73 x74 x75 x76 x77 x78 x79 x80 x81 x82 x83 x84 x85 x86 x87 x88 x89 x90 x91 x92 x93 x94 x95 x96 x97 x98 x99 x100 x101 x102 x103 x104 x105 x106 x107 x108 x109 x110 x111 x112 x113 x114 x115 x116 x117 x118 x119 x120 x121 x122 x123 x124 x125 x126 x127 x128 x129 x130 x131 x132 x133 x134 x135 x136 x137 x138 x139 x140 x141 x142 x143 x144 x145 x146 x147 x148 x149 x150 x151 x152 x153 x154 x155 x156 x157 x158 x159 x160 x161 x162 x163 x164 x165 x166 x167 x168 x169 x170 x171 x172 x173 x174 x175 x176 x177 x178 x179 x180 x181 x182 x183 x184 x185 x186 x187 x188 x189 x190 x191 x192 x193 x194 x195 x196 x197 x198 x199 x200 x201 x202 x203 x204 x205 x206 x207 x208 x209 x210 x211 x212 x213 x214 x215 x216 x217 x218 x219 x220 x221 x222 x223 x224 x225 x226
              · exact reg23_b L i y hiN hyN lb1 lc1 lb2 lc2 lb3 lc3 lb4 lc4 lb5 lc5 lb6 lc6 wr HSIX.out x0 x1 x2 x3 x4 x5 x6 x7 x8 x9 x11 x13 x15 x17 x19 x21 x24 x25 x26 x27 x28 x29 x30 x31 x32 x33 x34 x35 x36 x37 x38 x39 x40 x41 x42 x43 x44 x45 x46 x47 x48 x49 x50 x51 x52 x53 x54 x55 x56 x57 x58 x59 x60 x61 x62 x63 x64 x65 x66 x67 x68 x69 x70 x71 x72 x73 x74 x75 x76 x77 x78 x79 x80 x81 x82 x83 x84 x85 x86 x87 x88 x89 x90 x91 x92 x93 x94 x95 x96 x97 x98 x99 x100 x101 x102 x103 x104 x105 x106 x107 x108 x109 x110 x111 x112 x113 x114 x115 x116 x117 x118 x119 x120 x121 x122 x123 x124 x125 x126 x127 x128 x129 x130 x131 x132 x133 x134 x135 x136 x137 x138 x139 x140 x141 x142 x143 x144 x145 x146 x147 x148 x149 x150 x151 x152 x153 x154 x155 x156 x157 x158 x159 x160 x161 x162 x163 x164 x165 x166 x167 x168 x169 x170 x171 x172 x173 x174 x175 x176 x177 x178 x179 x180 x181 x182 x183 x184 x185 x186 x187 x188 x189 x190 x191 x192 x193 x194 x195 x196 x197 x198 x199 x200 x201 x202 x203 x204 x205 x206 x207 x208 x209 x210 x211 x212 x213 x214 x215 x216 x217 x218 x219 x220 x221 x222 x223 x224 x225 x226
              · exfalso; revert hsub1 hsub2; decide
              · exact reg23_c L i y hiN hyN lb1 lc1 lb2 lc2 lb3 lc3 lb4 lc4 lb5 lc5 lb6 lc6 wr HSIX.out x0 x1 x2 x3 x4 x5 x6 x7 x8 x9 x11 x13 x15 x17 x19 x21 x24 x25 x26 x27 x28 x29 x30 x31 x32 x33 x34 x35 x36 x37 x38 x39 x40 x41 x42 x43 x44 x45 x46 x47 x48 x49 x50 x51 x52 x53 x54 x55 x56 x57 x58 x59 x60 x61 x62 x63 x64 x65 x66 x67 x68 x69 x70 x71 x72 x73 x74 x75 x76 x77 x78 x79 x80 x81 x82 x83 x84 x85 x86 x87 x88 x89 x90 x91 x92 x93 x94 x95 x96 x97 x98 x99 x100 x101 x102 x103 x104 x105 x106 x107 x108 x109 x110 x111 x112 x113 x114 x115 x116 x117 x118 x119 x120 x121 x122 x123 x124 x125 x126 x127 x128 x129 x130 x131 x132 x133 x134 x135 x136 x137 x138 x139 x140 x141 x142 x143 x144 x145 x146 x147 x148 x149 x150 x151 x152 x153 x154 x155 x156 x157 x158 x159 x160 x161 x162 x163 x164 x165 x166 x167 x168 x169 x170 x171 x172 x173 x174 x175 x176 x177 x178 x179 x180 x181 x182 x183 x184 x185 x186 x187 x188 x189 x190 x191 x192 x193 x194 x195 x196 x197 x198 x199 x200 x201 x202 x203 x204 x205 x206 x207 x208 x209 x210 x211 x212 x213 x214 x215 x216 x217 x218 x219 x220 x221 x222 x223 x224 x225 x226
              · exfalso; revert hsub1 hsub2; decide
              · exfalso; revert hsub1 hsub2; decide
              · exfalso; revert hsub1 hsub2; decide
              · exact reg23_d L i y hiN hyN lb1 lc1 lb2 lc2 lb3 lc3 lb4 lc4 lb5 lc5 lb6 lc6 wr HSIX.out x0 x1 x2 x3 x4 x5 x6 x7 x8 x9 x11 x13 x15 x17 x19 x21 x24 x25 x26 x27 x28 x29 x30 x31 x32 x33 x34 x35 x36 x37 x38 x39 x40 x41 x42 x43 x44 x45 x46 x47 x48 x49 x50 x51 x52 x53 x54 x55 x56 x57 x58 x59 x60 x61 x62 x63 x64 x65 x66 x67 x68 x69 x70 x71 x72 x73 x74 x75 x76 x77 x78 x79 x80 x81 x82 x83 x84 x85 x86 x87 x88 x89 x90 x91 x92 x93 x94 x95 x96 x97 x98 x99 x100 x101 x102 x103 x104 x105 x106 x107 x108 x109 x110 x111 x112 x113 x114 x115 x116 x117 x118 x119 x120 x121 x122 x123 x124 x125 x126 x127 x128 x129 x130 x131 x132 x133 x134 x135 x136 x137 x138 x139 x140 x141 x142 x143 x144 x145 x146 x147 x148 x149 x150 x151 x152 x153 x154 x155 x156 x157 x158 x159 x160 x161 x162 x163 x164 x165 x166 x167 x168 x169 x170 x171 x172 x173 x174 x175 x176 x177 x178 x179 x180 x181 x182 x183 x184 x185 x186 x187 x188 x189 x190 x191 x192 x193 x194 x195 x196 x197 x198 x199 x200 x201 x202 x203 x204 x205 x206 x207 x208 x209 x210 x211 x212 x213 x214 x215 x216 x217 x218 x219 x220 x221 x222 x223 x224 x225 x226
            clear HSIX hsub1 hsub2
            refine Code.wp_mono ?_ (hreg _ _ _ _ _ _ _ _ _ _ _ _ _ _ _ _ _ _ _ _ _ _ _ _ _ _ _ _ _ _ _ _ _ _ _ _ _ _ _ _ _ _ _ _ _ _ _ _ _ _ _ _ _ _ _ _ _ _ _ _ _ _ _ _ _ _ _ _ _ _ _ _ _ _ _ _ _ _ _ _ _ _ _ _ _ _ _ _ _ _ _ _ _ _ _ _ _ _ _ _ _ _ _ _ _ _ _ _ _ _ _ _ _ _ _ _ _ _ _ _ _ _ _ _ _ _ _ _ _ _ _ _ _ _ _ _ _ _ _ _ _ _ _ _ _ _ _ _ _ _ _ _ _ _ _ _ _ _ _ _ _ _ _ _ _ _ _ _ _ _ _ _ _ _ _ _ _ _ _ _ _ _ _ _ _ _ _ _ _ _ _ _ _ _ _ _ _ _ _ _ _ _ _ _ _ _ _ _ _ _ _ _ _ _ _ _ _ _ _)
            rintro e a2 w2 ⟨rfl, ⟨v139, v140, v141, v142, v143, v144, v145, v146, v147, v148, v149, v150, v151, v152, v153, v154, v155, v156, v157, v158, v159, v160, v161, v162, v163, v164, v165, v166, v167, v168, v169, v170, v171, v172, v173, v174, v175, v176, v177, v178, v179, v180, v181, v182, v183, v184, v185, v186, v187, v188, v189, v190, v191, v192, v193, v194, v195, v196, v197, v198, v199, v200, v201, v202, v203, v204, v205, v206, v207, v208, v209, v210, v211, v212, v213, v214, v215, v216, v217, v218, v219, v220, v221, v222, v223, v224, rfl⟩, hb⟩
            have HWZ := Lib.hid (HW5.out.trans (hb.mono HW5.out.size))
            clear hb hreg
            go_wp2_with fail
            go_roundw
            case rel => exact ⟨y + 1, by omega, by go_num, HWZ.out⟩
            case measure => simp [intOf]; omega
          · obtain rfl : y = L + 1 := by omega
            clear hyl
            go_wp2_with fail
            go_roundw
            case rel => exact ⟨i + 1, by omega, by go_num, HW5.out⟩
            case measure => simp [intOf]; omega
        · obtain rfl : i = L + 1 := by omega
          have HBW := Lib.hid (HB12.out.trans (HW.out.mono HB12.out.size))
          clear hil
          go_wp2_with (go_at_call 22; refine Gives.then (hwk.out _ HBW.out) ?_; intro w9' hb9)
          go_returns
          exact ⟨rfl, HBW.out.trans (hb9.mono HBW.out.size)⟩
    · clear hfacts hone
      rw [hL] at hgd ⊢
      obtain ⟨kind, ⟨p, m⟩, neg, mi, ma, sl⟩ := d
      simp only at hsl
      subst hsl
      obtain ⟨kl, hkl⟩ : ∃ kl, k.len = kl := ⟨_, rfl⟩
      rw [hkl] at hgd hsz ⊢
      unfold ndV at hgd hsz ⊢
      simp only at hgd hsz ⊢
      have HGD := Lib.hid hgd; have HSZ := Lib.hid hsz
      clear hgd hsz hp hW hT ht0 hE hL hkl lw mw hS hq
      have h12i : (12 : Int) < (s : Int) := by omega
      have h12n : 12 < s := by omega
      clear h12
      have R0 := Lib.hid (World.alloc_heap_new w (.cells #[.int .i64 kind, .int .u32 (p.toNat : Int), .int .u32 (m.toNat : Int), .bool neg, .int .i64 mi, .int .i64 ma, .slice ao kl cap] 27))
      have hB0 : Below w.heap.size w (w.alloc (.cells #[.int .i64 kind, .int .u32 (p.toNat : Int), .int .u32 (m.toNat : Int), .bool neg, .int .i64 mi, .int .i64 ma, .slice ao kl cap] 27)) := by go_grown
      have HB0 := Lib.hid hB0
      clear hB0
      go_enter Tryd.func10, Tryd.ntmps10
      go_wp2_with fail
      generalize (w.alloc (.cells #[.int .i64 kind, .int .u32 (p.toNat : Int), .int .u32 (m.toNat : Int), .bool neg, .int .i64 mi, .int .i64 ma, .slice ao kl cap] 27)) = v0 at *
      go_at_call 38
      refine Gives.then (HGD.out _ HB0.out) ?_
      intro w1 hb1
      have HB1 := Lib.hid (HB0.out.trans (hb1.mono HB0.out.size))
      have R1 := Lib.hid ((hb1.block _ (Array.getElem?_eq_some_iff.1 R0.out).1).trans R0.out)
      have g0 := cell_block R1.out (o := 0) rfl; have g1 := cell_block R1.out (o := 1) rfl; have g2 := cell_block R1.out (o := 2) rfl; have g3 := cell_block R1.out (o := 3) rfl; have g4 := cell_block R1.out (o := 4) rfl; have g5 := cell_block R1.out (o := 5) rfl; have g6 := cell_block R1.out (o := 6) rfl
      clear hb1 R0 HB0 HGD
      go_wp2_with fail
      go_at_call 16
      refine Gives.then (HSZ.out _ HB1.out) ?_
      intro w2 hb2
      have HB2 := Lib.hid (HB1.out.trans (hb2.mono HB1.out.size))
      have R2 := Lib.hid ((hb2.block _ (Array.getElem?_eq_some_iff.1 R1.out).1).trans R1.out)
      clear g0 g1 g2 g3 g4 g5 g6 hb2 R1 HB1 HSZ
      have g0 := cell_block R2.out (o := 0) rfl; have g1 := cell_block R2.out (o := 1) rfl; have g2 := cell_block R2.out (o := 2) rfl; have g3 := cell_block R2.out (o := 3) rfl; have g4 := cell_block R2.out (o := 4) rfl; have g5 := cell_block R2.out (o := 5) rfl; have g6 := cell_block R2.out (o := 6) rfl
      go_wp2_with (go_at_call 22; refine Gives.then (hwk.out _ HB2.out) ?_; intro w9 hb9)
      go_returns
      exact ⟨rfl, HB2.out.trans (hb9.mono HB2.out.size)⟩
  · have hdf : decide (mtE d k ss = 0) = false := decide_eq_false hE
    rw [hdf] at hgd
    clear hfacts hone
    rw [hL] at hgd ⊢
    obtain ⟨kind, ⟨p, m⟩, neg, mi, ma, sl⟩ := d
    simp only at hsl
    subst hsl
    obtain ⟨kl, hkl⟩ : ∃ kl, k.len = kl := ⟨_, rfl⟩
    rw [hkl] at hgd hsz ⊢
    unfold ndV at hgd hsz ⊢
    simp only at hgd hsz ⊢
    have HGD := Lib.hid hgd; have HSZ := Lib.hid hsz
    clear hgd hsz hp hW hT ht0 hE hL hkl lw mw hS hq hdf
    have R0 := Lib.hid (World.alloc_heap_new w (.cells #[.int .i64 kind, .int .u32 (p.toNat : Int), .int .u32 (m.toNat : Int), .bool neg, .int .i64 mi, .int .i64 ma, .slice ao kl cap] 27))
    have hB0 : Below w.heap.size w (w.alloc (.cells #[.int .i64 kind, .int .u32 (p.toNat : Int), .int .u32 (m.toNat : Int), .bool neg, .int .i64 mi, .int .i64 ma, .slice ao kl cap] 27)) := by go_grown
    have HB0 := Lib.hid hB0
    clear hB0
    go_enter Tryd.func10, Tryd.ntmps10
    go_wp2_with fail
    generalize (w.alloc (.cells #[.int .i64 kind, .int .u32 (p.toNat : Int), .int .u32 (m.toNat : Int), .bool neg, .int .i64 mi, .int .i64 ma, .slice ao kl cap] 27)) = v0 at *
    go_at_call 38
    refine Gives.then (HGD.out _ HB0.out) ?_
    intro w1 hb1
    have HB1 := Lib.hid (HB0.out.trans (hb1.mono HB0.out.size))
    have R1 := Lib.hid ((hb1.block _ (Array.getElem?_eq_some_iff.1 R0.out).1).trans R0.out)
    have g0 := cell_block R1.out (o := 0) rfl; have g1 := cell_block R1.out (o := 1) rfl; have g2 := cell_block R1.out (o := 2) rfl; have g3 := cell_block R1.out (o := 3) rfl; have g4 := cell_block R1.out (o := 4) rfl; have g5 := cell_block R1.out (o := 5) rfl; have g6 := cell_block R1.out (o := 6) rfl
    clear hb1 R0 HB0 HGD
    clear HSZ
    go_wp2_with (go_at_call 22; refine Gives.then (hwk.out _ HB1.out) ?_; intro w9 hb9)
    go_returns
    exact ⟨rfl, HB1.out.trans (hb9.mono HB1.out.size)⟩
end Go.Proofs.YtmobilppakjihaaDoor
