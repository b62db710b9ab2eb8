/-
  Lemmas that the theorem of this claim rests on: 1 texts, one behind the other.
-/
import Derived.Test.YtpnmapfabjdfjaaDoorM17
set_option linter.unusedSimpArgs false
set_option linter.unusedVariables false

/-
  natural.shortest.
-/
namespace Go.Proofs.YtpnmapfabjdfjaaDoor
open Go.RowKit Go.Shelf Go.Sort
attribute [local go_sem] Oper.semAt_some
set_option maxRecDepth 100000 in
set_option maxHeartbeats 16000000 in
theorem shortest_any (l : List Snd) (c : Snd) (v : Value) (w : World) (h : Wd w v l) (hv : ∀ s ∈ l, vld s.1 s.2 = true) (hcv : vld c.1 c.2 = true) (hl : l.length ≤ 256) :
    Gives 56 #[v, .agg #[.int .u32 (c.1.toNat : Int), .int .u32 (c.2.toNat : Int)]] w (.agg #[.int .u32 ((shS l c).1.toNat : Int), .int .u32 ((shS l c).2.toNat : Int)]) := by
  unfold Gives
  have hmk := make_crowds
  have k0 : ((w.alloc (.cells #[.int .u32 (c.1.toNat : Int), .int .u32 (c.2.toNat : Int)] 27)).alloc (.cells #[.int .u32 0, .int .u32 0] 27)).heap[w.heap.size]? = some (.cells #[.int .u32 (c.1.toNat : Int), .int .u32 (c.2.toNat : Int)] 27) := (((Below.refl _ (w.alloc (.cells #[.int .u32 (c.1.toNat : Int), .int .u32 (c.2.toNat : Int)] 27))).alloc (Nat.le_refl _) (.cells #[.int .u32 0, .int .u32 0] 27)).block w.heap.size (by rw [World.size_alloc]; omega)).trans (World.alloc_heap_new w (.cells #[.int .u32 (c.1.toNat : Int), .int .u32 (c.2.toNat : Int)] 27))
  have k1 : ((w.alloc (.cells #[.int .u32 (c.1.toNat : Int), .int .u32 (c.2.toNat : Int)] 27)).alloc (.cells #[.int .u32 0, .int .u32 0] 27)).heap[w.heap.size + 1]? = some (.cells #[.int .u32 0, .int .u32 0] 27) := by
    have h := World.alloc_heap_new (w.alloc (.cells #[.int .u32 (c.1.toNat : Int), .int .u32 (c.2.toNat : Int)] 27)) (.cells #[.int .u32 0, .int .u32 0] 27)
    rw [World.size_alloc] at h
    exact h
  have hb1 : Below w.heap.size w ((w.alloc (.cells #[.int .u32 (c.1.toNat : Int), .int .u32 (c.2.toNat : Int)] 27)).alloc (.cells #[.int .u32 0, .int .u32 0] 27)) := ((Below.refl w.heap.size w).alloc (Nat.le_refl _) (.cells #[.int .u32 (c.1.toNat : Int), .int .u32 (c.2.toNat : Int)] 27)).alloc (by rw [World.size_alloc]; omega) (.cells #[.int .u32 0, .int .u32 0] 27)
  have hz1 : ((w.alloc (.cells #[.int .u32 (c.1.toNat : Int), .int .u32 (c.2.toNat : Int)] 27)).alloc (.cells #[.int .u32 0, .int .u32 0] 27)).heap.size = w.heap.size + 2 := by simp only [World.size_alloc]
  have hcl := clone_any l v ((w.alloc (.cells #[.int .u32 (c.1.toNat : Int), .int .u32 (c.2.toNat : Int)] 27)).alloc (.cells #[.int .u32 0, .int .u32 0] 27)) (by omega) (h.below hb1)
  have hsgv : ∀ x ∈ sgL c 24, sub x c := sgL_sub c 24
  have hsgn := sgL_len c 24
  have hoth : ∀ x ∈ othL l c, vld x.1 x.2 = true := fun x hx => hv x (List.mem_filter.1 hx).1
  have hol : (othL l c).length ≤ 256 := Nat.le_trans (othL_len l c) hl
  obtain ⟨ao, cap, rfl, -⟩ := h.open
  have K0 := Lib.hid k0; have K1 := Lib.hid k1; have HB1 := Lib.hid hb1; have HZ1 := Lib.hid hz1; have HCL := Lib.hid hcl; have HV := Lib.hid hv; have HCV := Lib.hid hcv; have HSGV := Lib.hid hsgv; have HSGN := Lib.hid hsgn; have HOTH := Lib.hid hoth; have HOL := Lib.hid hol; have HMK := Lib.hid hmk
  clear k0 k1 hb1 hz1 hcl hv hcv hsgv hsgn hoth hol h hl hmk
  obtain ⟨vs, hvs⟩ : ∃ vs, sgL c 24 = vs := ⟨_, rfl⟩
  obtain ⟨o, ho⟩ : ∃ o, othL l c = o := ⟨_, rfl⟩
  have hsh : shS l c = ((List.range vs.length).findSome? fun n => srch o vs n (bhd o [])).getD c := by rw [← hvs, ← ho]; rfl
  rw [hvs] at HSGV HSGN
  rw [ho] at HOTH HOL
  have HVS := Lib.hid hvs; have HO := Lib.hid ho; have HSH := Lib.hid hsh
  clear hvs ho hsh
  obtain ⟨N, hN⟩ : ∃ N, vs.length = N := ⟨_, rfl⟩
  have HN := Lib.hid hN
  rw [hN] at HSGN
  clear hN
  generalize shS l c = RES at *
  refine (callsIn_wide (n := 5)).1 ?_
  refine callsIn_of_wp_marks Tryd.func56 rfl trivial ?_ rfl
  simp only [Tryd.ntmps56, List.size_toArray, List.length_cons, List.length_nil, Nat.reduceAdd, Nat.reduceSub, Array.replicate_succ, Array.replicate_zero, List.push_toArray, List.append_toArray, List.nil_append, List.cons_append]
  refine wpIn_wide.2 ?_
  go_wp2_with fail
  go_at_call 84
  refine Makes.then HCL.out ?_
  intro v2 w2 ho2 hb2
  rw [HZ1.out] at ho2
  have k0 := (hb2.block w.heap.size (by rw [HZ1.out]; omega)).trans K0.out
  have k1 := (hb2.block (w.heap.size + 1) (by rw [HZ1.out]; omega)).trans K1.out
  have hdel := delete_own l c v2 w.heap.size (w.heap.size + 2) w2 ho2 ⟨cell_block k0 rfl, cell_block k0 rfl⟩ (by omega) (by have := hb2.size; rw [HZ1.out] at this; exact this) HV.out HCV.out
  rw [HO.out] at hdel
  have hb2' := hb2
  rw [HZ1.out] at hb2'
  obtain ⟨ao2, cap2, rfl⟩ := ownsRow_slice ho2
  have HDEL := Lib.hid hdel; have K0 := Lib.hid k0; have K1 := Lib.hid k1; have HB2 := Lib.hid hb2'; have HBW2 := Lib.hid (HB1.out.trans (hb2.mono HB1.out.size))
  clear hdel k0 k1 hb2 hb2' ho2
  go_wp2_with fail
  go_at_call 83
  refine HDEL.out.mono ?_
  rintro e w3 ⟨v3, rfl, hw3, hb3⟩
  have hs2 := HB2.out.size
  have k0 := (hb3.block w.heap.size (by omega)).trans K0.out
  have k1 := (hb3.block (w.heap.size + 1) (by omega)).trans K1.out
  obtain ⟨ao3, cap3, hv3, c3, m3, -⟩ := hw3.open
  subst hv3
  have l3 : (w.heap.size + 1) < w3.heap.size := (Array.getElem?_eq_some_iff.1 k1).1
  have HW3 := Lib.hid hw3; have K0 := Lib.hid k0; have K1 := Lib.hid k1; have HBW3 := Lib.hid (HBW2.out.trans (hb3.mono (Nat.le_add_right _ 2))); have L3 := Lib.hid l3
  clear hw3 k0 k1 hb3 hs2 l3 m3 c3 HDEL HB2 HBW2
  have hb4 : Below w3.heap.size w3 (w3.alloc (.cells #[.slice ao3 o.length cap3] 22)) := (Below.refl w3.heap.size w3).alloc (Nat.le_refl _) _
  have e0 : (w3.alloc (.cells #[.slice ao3 o.length cap3] 22)).cell? ⟨w.heap.size, 0, none⟩ = some (.int .u32 (c.1.toNat : Int)) := cell_block ((hb4.block _ (Nat.lt_of_succ_lt L3.out)).trans K0.out) rfl
  have e1 : (w3.alloc (.cells #[.slice ao3 o.length cap3] 22)).cell? ⟨w.heap.size, 1, none⟩ = some (.int .u32 (c.2.toNat : Int)) := cell_block ((hb4.block _ (Nat.lt_of_succ_lt L3.out)).trans K0.out) rfl
  have k0 := (hb4.block _ (Nat.lt_of_succ_lt L3.out)).trans K0.out
  have k1 := (hb4.block _ L3.out).trans K1.out
  have k5 := World.alloc_heap_new w3 (.cells #[.slice ao3 o.length cap3] 22)
  have hw4 := HW3.out.below hb4
  have hz4 : (w3.alloc (.cells #[.slice ao3 o.length cap3] 22)).heap.size = w3.heap.size + 1 := World.size_alloc _ _
  have hsg := singles_any c HCV.out (w3.alloc (.cells #[.slice ao3 o.length cap3] 22))
  rw [HVS.out] at hsg
  have HSG := Lib.hid hsg; have K0 := Lib.hid k0; have K1 := Lib.hid k1; have K5 := Lib.hid k5; have HW4 := Lib.hid hw4; have HZ4 := Lib.hid hz4; have HBW4 := Lib.hid (HBW3.out.trans (hb4.mono HBW3.out.size))
  clear hsg k0 k1 k5 hw4 hz4 hb4 HW3 HBW3
  go_wp2_with fail
  go_at_call 86
  generalize (w3.alloc (.cells #[.slice ao3 o.length cap3] 22)) = w4 at *
  refine HSG.out.mono ?_
  rintro e w5 ⟨v5, rfl, ho5, hb5⟩
  have hn5 : (sgL c 24).length = N := by rw [HVS.out]; exact HN.out
  rw [HVS.out] at hn5
  obtain ⟨ao5, cap5, c5, m5, hv5⟩ : ∃ ao5 cap5, N ≤ cap5 ∧ cap5 ≤ maxLen ∧ v5 = .slice ao5 N cap5 := by
    obtain ⟨a, b, e, h1, h2, -⟩ := ho5.wd.open
    rw [HN.out] at e h1
    exact ⟨a, b, h1, h2, e⟩
  subst hv5
  have hN24 := HSGN.out
  have hm1 := HMK.out N (by omega)
  have hm2 := HMK.out (N + 1) (by omega)
  rw [show ((N + 1 : Nat) : Int) = (N : Int) + 1 from by omega] at hm2
  have hw1 : IntKind.i64.wrap ((N : Int) + 1) = (N : Int) + 1 := by rw [IntKind.wrap_i64]; omega
  have k0 := (hb5.block _ (by rw [HZ4.out]; exact Nat.lt_succ_of_lt (Nat.lt_of_succ_lt L3.out))).trans K0.out
  have k1 := (hb5.block _ (by rw [HZ4.out]; exact Nat.lt_succ_of_lt L3.out)).trans K1.out
  have k5 := (hb5.block _ (by rw [HZ4.out]; exact Nat.lt_succ_self _)).trans K5.out
  have l5 : w3.heap.size < w5.heap.size := (Array.getElem?_eq_some_iff.1 k5).1
  have HO5 := Lib.hid ho5; have K0 := Lib.hid k0; have K1 := Lib.hid k1; have K5 := Lib.hid k5; have HW5 := Lib.hid (HW4.out.below hb5); have HBW5 := Lib.hid (HBW4.out.trans (hb5.mono HBW4.out.size)); have L5 := Lib.hid l5; have C5 := Lib.hid c5; have M5 := Lib.hid m5
  clear ho5 k0 k1 k5 l5 hb5 HW4 HBW4 HZ4 hn5 c5 m5 HSG
  go_wp2_with fail
  have KW5 := K5; have KW0 := K0; have KW1 := K1; have HWO5 := HW5; have L5' := L5
  have hfb := five_blocks w5 (.cells #[.slice ao5 N cap5] 22) (.cells (madeCells #[.int .u64 0, .int .u64 0, .int .u64 0, .int .u64 0] (N * 4)) 96) (.cells #[.slice (some ⟨w5.heap.size + 1, 0, none⟩) N N] 112) (.cells (madeCells #[.int .u64 0, .int .u64 0, .int .u64 0, .int .u64 0] ((N + 1) * 4)) 96) (.cells #[.slice (some ⟨w5.heap.size + 1 + 1 + 1, 0, none⟩) (N + 1) (N + 1)] 112)
  refine wp_gen ?_
  intro W1 hW1
  rw [← hW1] at hfb
  clear hW1
  obtain ⟨kV, kT, kTB, kB, kBB, hb6⟩ := hfb
  have k0 := (hb6.block _ (Array.getElem?_eq_some_iff.1 K0.out).1).trans K0.out
  have k1 := (hb6.block _ (Array.getElem?_eq_some_iff.1 K1.out).1).trans K1.out
  have k5 := (hb6.block _ (Array.getElem?_eq_some_iff.1 K5.out).1).trans K5.out
  have hw6 := HW5.out.below hb6
  have HVW := Lib.hid (HO5.out.wd.below hb6)
  have HBW1 := Lib.hid (HBW5.out.trans (hb6.mono HBW5.out.size))
  have hml := msL_len (0#32, 0#32) o 0
  have hmt := msL_lt (0#32, 0#32) o 0
  have hmm := fun W (hW : Below W1.heap.size W1 W) => members_any o (0#32, 0#32) _ W (hw6.below hW) HOTH.out (by decide) (by have := HOL.out; omega)
  have hbe : bhd o [] = crT (msL (0#32, 0#32) o 0) := rfl
  have hmm : ∀ W, Below W1.heap.size W1 W → Calls Tryd.prog 50 #[.slice ao3 o.length cap3, .agg #[.int .u32 0, .int .u32 0]] W fun e w' => ∃ v', e = .returned v' ∧ OwnI w' W.heap.size v' (msL (0#32, 0#32) o 0) ∧ Below W.heap.size W w' := hmm
  generalize msL (0#32, 0#32) o 0 = ml at *
  have HMM := Lib.hid hmm; have HML := Lib.hid hml; have HMT := Lib.hid hmt; have HBE := Lib.hid hbe
  obtain ⟨b0, b1, b2, b3, hbq⟩ : ∃ b0 b1 b2 b3, crT ml = (b0, b1, b2, b3) := ⟨_, _, _, _, rfl⟩
  have HBQ := Lib.hid hbq
  clear hbq
  have HVB := Lib.hid hb6
  have HO5' := HO5
  generalize hVV : w5.heap.size = V at *
  have HVV := Lib.hid hVV
  clear hVV
  have KK : Hid (∀ W : World, Below W1.heap.size W1 W → (W.cell? ⟨V + 1 + 1 + 1 + 1, 0, none⟩ = some (.slice (some ⟨V + 1 + 1 + 1, 0, none⟩) (N + 1) (N + 1)) ∧ W.cell? ⟨V, 0, none⟩ = some (.slice ao5 N cap5) ∧ W.cell? ⟨w3.heap.size, 0, none⟩ = some (.slice ao3 o.length cap3)) ∧ (W.cell? ⟨V + 1 + 1 + 1, N * 4, none⟩ = some (.int .u64 0) ∧ W.cell? ⟨V + 1 + 1 + 1, N * 4 + 1, none⟩ = some (.int .u64 0) ∧ W.cell? ⟨V + 1 + 1 + 1, N * 4 + 2, none⟩ = some (.int .u64 0) ∧ W.cell? ⟨V + 1 + 1 + 1, N * 4 + 3, none⟩ = some (.int .u64 0)) ∧ W.frozen? ⟨V + 1 + 1 + 1, N * 4, none⟩ = false ∧ W.frozen? ⟨V + 1 + 1 + 1, N * 4 + 1, none⟩ = false ∧ W.frozen? ⟨V + 1 + 1 + 1, N * 4 + 2, none⟩ = false ∧ W.frozen? ⟨V + 1 + 1 + 1, N * 4 + 3, none⟩ = false) := Lib.hid (fun W hW => by
    have q1 := (hW.block _ (Array.getElem?_eq_some_iff.1 kBB).1).trans kBB
    have q2 := (hW.block _ (Array.getElem?_eq_some_iff.1 kV).1).trans kV
    have q3 := (hW.block _ (Array.getElem?_eq_some_iff.1 k5).1).trans k5
    have q4 := (hW.block _ (Array.getElem?_eq_some_iff.1 kB).1).trans kB
    exact ⟨⟨cell_block q1 rfl, cell_block q2 rfl, cell_block q3 rfl⟩, ⟨cell_block q4 (made_at _ _ (by omega)), cell_block q4 (made_at _ _ (by omega)), cell_block q4 (made_at _ _ (by omega)), cell_block q4 (made_at _ _ (by omega))⟩, frozen_block q4, frozen_block q4, frozen_block q4, frozen_block q4⟩)
  have HW6 := Lib.hid hw6; have KV := Lib.hid kV; have KT := Lib.hid kT; have KTB := Lib.hid kTB; have KB := Lib.hid kB; have KBB := Lib.hid kBB; have K0 := Lib.hid k0; have K1 := Lib.hid k1; have K5 := Lib.hid k5
  have HBW5' := HBW5
  clear hmm hml hmt hbe hw6 kV kT kTB kB kBB k0 k1 k5 hb6 HW5 HBW5 L5 hm1 hm2
  have hB0 : Below W1.heap.size W1 W1.drew := Below.drew (Below.refl _ _)
  have hNN : (N : Int) < (N : Int) + 1 := by omega
  have hNN2 : N < N + 1 := by omega
  have hne1 : V + 1 + 1 + 1 + 1 ≠ V + 1 + 1 + 1 := by omega
  have hne2 : V ≠ V + 1 + 1 + 1 := by omega
  have hne3 : w3.heap.size ≠ V + 1 + 1 + 1 := by have := L5'.out; omega
  have HNE := Lib.hid (And.intro hne1 (And.intro hne2 hne3))
  clear hne1 hne2 hne3
  go_region_held3 (fun W => W.cell? ⟨V + 1 + 1 + 1 + 1, 0, none⟩ = some (.slice (some ⟨V + 1 + 1 + 1, 0, none⟩) (N + 1) (N + 1)) ∧ W.cell? ⟨V, 0, none⟩ = some (.slice ao5 N cap5) ∧ W.cell? ⟨w3.heap.size, 0, none⟩ = some (.slice ao3 o.length cap3))
    (first | with_reducible exact (KK.out _ hB2).1 | with_reducible exact (KK.out _ hB1).1 | with_reducible exact (KK.out _ hB0).1 | with_reducible exact ⟨(set4_far HNE.out.1).trans (KK.out _ hB2).1.1, (set4_far HNE.out.2.1).trans (KK.out _ hB2).1.2.1, (set4_far HNE.out.2.2).trans (KK.out _ hB2).1.2.2⟩)
    (first
      | (go_at_call 50; refine Calls.mono (HMM.out _ hB0) ?_; rintro e w6 ⟨v6, rfl, ho6, hb6⟩; obtain ⟨e6, c6, rfl⟩ := ho6.slice; have hB1 : Below W1.heap.size W1 w6 := hB0.trans (hb6.mono hB0.size); have HO6 := Lib.hid ho6; clear hb6 ho6)
      | (go_at_call 68; refine Gives.then (crowd_four ml b0 b1 b2 b3 HBQ.out _ _ HO6.out.is (fun i hi => by have := HMT.out i hi; have := HOL.out; omega) (by have := HML.out; have := HOL.out; omega)) ?_; intro w7 hb7; have hB2 : Below W1.heap.size W1 w7 := hB1.trans (hb7.mono hB1.size); obtain ⟨-, ⟨a3, a4, a5, a6⟩, a7, a8, a9, a10⟩ := KK.out _ hB2; clear hb7))
  have HB7 := Lib.hid hB2
  clear hB0 hB1 hB2 KK HO6 HMM HML HMT
  refine then_gen2 ?_
  intro W8 hW8
  have qB := (HB7.out.block _ (Array.getElem?_eq_some_iff.1 KB.out).1).trans KB.out
  have hB8 : ∀ b, b ≠ V + 1 + 1 + 1 → b < W1.heap.size → W8.heap[b]? = W1.heap[b]? := fun b hb hl => by
    rw [hW8, set4_far' hb]
    exact HB7.out.block b hl
  have kB8 : W8.heap[V + 1 + 1 + 1]? = some (.cells ((((madeCells #[.int .u64 0, .int .u64 0, .int .u64 0, .int .u64 0] ((N + 1) * 4)).setIfInBounds (N * 4) (.int .u64 (b0.toNat : Int))).setIfInBounds (N * 4 + 1) (.int .u64 (b1.toNat : Int)) |>.setIfInBounds (N * 4 + 2) (.int .u64 (b2.toNat : Int))).setIfInBounds (N * 4 + 3) (.int .u64 (b3.toNat : Int))) 96) := by
    rw [hW8]
    exact block_set (block_set (block_set (block_set qB)))
  have hz8 : W1.heap.size ≤ W8.heap.size := by rw [hW8]; simp only [World.size_setCell]; exact HB7.out.size
  have hbel8 : Below V w5 W8 := by
    rw [hW8]
    exact ((((HVB.out.trans (HB7.out.mono (by rw [← HVV.out]; exact HVB.out.size))).setCell (p := ⟨V + 1 + 1 + 1, _, none⟩) (by simp only []; omega) _).setCell (p := ⟨V + 1 + 1 + 1, _, none⟩) (by simp only []; omega) _).setCell (p := ⟨V + 1 + 1 + 1, _, none⟩) (by simp only []; omega) _).setCell (p := ⟨V + 1 + 1 + 1, _, none⟩) (by simp only []; omega) _
  have kV8 := (hB8 _ (by omega) (Array.getElem?_eq_some_iff.1 KV.out).1).trans KV.out
  have kT8 := (hB8 _ (by omega) (Array.getElem?_eq_some_iff.1 KT.out).1).trans KT.out
  have kTB8 := (hB8 _ (by omega) (Array.getElem?_eq_some_iff.1 KTB.out).1).trans KTB.out
  have kBB8 := (hB8 _ (by omega) (Array.getElem?_eq_some_iff.1 KBB.out).1).trans KBB.out
  have hsz8 : V + 1 + 1 + 1 + 1 < W8.heap.size := (Array.getElem?_eq_some_iff.1 kBB8).1
  have eV := cell_block kV8 (o := 0) rfl
  have KV8 := Lib.hid kV8; have KT8 := Lib.hid kT8; have KTB8 := Lib.hid kTB8; have KBB8 := Lib.hid kBB8; have KB8 := Lib.hid kB8; have HBEL8 := Lib.hid hbel8; have HSZ8 := Lib.hid hsz8
  clear hW8 qB hB8 kB8 hz8 hbel8 kV8 kT8 kTB8 kBB8 hsz8 a3 a4 a5 a6 a7 a8 a9 a10 HB7 KV KT KTB KB KBB
  have hbk := backward_any ao5 N cap5
  have HBK := Lib.hid hbk
  clear hbk
  go_wp2_with fail
  go_at_call 87
  refine (HBK.out _).mono ?_
  rintro e W9 ⟨rfl, hW9⟩
  have hb9 : Below W8.heap.size W8 W9 := by rw [hW9]; exact (Below.refl _ _).alloc (Nat.le_refl _) _
  have k9 : W9.heap[W8.heap.size]? = some (.cells #[.slice ao5 N cap5] 22) := by rw [hW9]; exact World.alloc_heap_new _ _
  clear hW9
  go_wp2_with fail
  have htb8 : TI o vs N V w5 ao5 cap5 [] W8 := by
    refine ⟨HBEL8.out, KV8.out, KTB8.out, KBB8.out, ⟨_, KT8.out, size_madeCells _ _, fun j hj => ⟨made_at _ _ (by omega), made_at _ _ (by omega), made_at _ _ (by omega), made_at _ _ (by omega)⟩⟩, _, KB8.out, by simp [size_madeCells], fun j hj => ?_⟩
    have hbb : ((b0, b1, b2, b3) : Cr) = bhd o [] := by rw [HBE.out, HBQ.out]
    have h0 : tbB o vs [] j = if j = N then (b0, b1, b2, b3) else zC := by
      show (if j = vs.length then crT (msL (0#32, 0#32) o 0) else zC) = _
      rw [HN.out, hbb]; rfl
    rw [h0]
    refine C4.set (d := (b0, b1, b2, b3)) (by rw [size_madeCells]; omega) (fun hne => ?_) (fun he => by rw [if_pos he])
    rw [if_neg hne]
    exact ⟨made_at _ _ (by omega), made_at _ _ (by omega), made_at _ _ (by omega), made_at _ _ (by omega)⟩
  have hv8 : V ≤ W8.heap.size := by have := HSZ8.out; omega
  have htb9 : TI o vs N V w5 ao5 cap5 [] W9 := htb8.below hv8 hb9
  have hbv9 : Below V w5 W9 := htb9.1
  have hV5 : V ≤ w5.heap.size := by rw [HVV.out]; exact Nat.le_refl _
  have hz9 : W8.heap.size + 1 ≤ W9.heap.size := by have := (Array.getElem?_eq_some_iff.1 k9).1; omega
  have HTB9 := Lib.hid htb9; have HBV9 := Lib.hid hbv9; have HK9 := Lib.hid k9; have HZ9 := Lib.hid hz9; have HV5 := Lib.hid hV5
  have HWV5 := Lib.hid HO5.out.wd
  clear htb8 htb9 hbv9 k9 hz9 hV5 hv8 hb9 KV8 KT8 KTB8 KBB8 KB8 HBEL8
  refine (wpIn_wide (n := 4)).1 ?_
  refine wpIn_rangeFunc_ownH (α := Fin vs.length) rfl (by decide) (gf := 103) (lb := #[.pointer (some ⟨W8.heap.size, 0, none⟩)]) rfl trivial (enters_of Tryd.func103 (by kernel_rfl) rfl)
    (encs := fun i => #[.int .i64 (i.val : Int), snv vs[i.val]]) (S := fun ys => ys = downF vs.length) (Sp := fun _ => True) (N := vs.length) (w0 := W9) (Kp := fun A B => Below V A B ∧ B.heap[W8.heap.size]? = A.heap[W8.heap.size]?)
    (fun lid J Jx W hW hA _ hY h0 => backward_in _ (by decide) lid W8.heap.size _ (fun A => ⟨Below.refl _ _, rfl⟩) (fun A B C h k => ⟨h.1.trans k.1, k.2.trans h.2⟩) vs (.slice ao5 N cap5) (by rw [HN.out]; have := HSGN.out; omega) J Jx hY W (fun W' hK => ⟨cell_block (hK.2.trans ((hW.block _ (by have := HZ9.out; omega)).trans HK9.out)) rfl, HWV5.out.below (by rw [← HVV.out] at *; exact (HBV9.out.trans (hW.mono (by have := HZ9.out; have := HSZ8.out; omega))).trans hK.1)⟩) h0)
    (fun h k => ⟨h.1.trans k.1, k.2.trans h.2⟩) (fun W l o o' hl h hc hw => ⟨belowK_b (w := W9) (by have := HZ9.out; have := HSZ8.out; omega) W l o o' hl h hc hw, World.putObj_heap_other (by have := HZ9.out; omega)⟩) (Below.refl _ _) (fun _ => rfl)
    (fun pre W => TI o vs N V w5 ao5 cap5 pre W ∧ W9.heap.size ≤ W.heap.size) (fun _ _ _ => False) (OwnFrom.and (TI.from o vs N V w5 ao5 cap5 W9.heap.size (by have := HZ9.out; have := HSZ8.out; omega) HV5.out) (fun _ _ _ _ hs hg _ => Nat.le_trans hs hg.size)) (fun _ _ _ _ _ hs _ _ => hs) ⟨HTB9.out, Nat.le_refl _⟩
    (fun i a' W => ∃ q, W8.heap.size < q ∧ a' = { tmps := #[.slice ao l.length cap, .agg #[.int .u32 (c.1.toNat : Int), .int .u32 (c.2.toNat : Int)], undef, .pointer (some ⟨w.heap.size, 0, none⟩), .pointer (some ⟨w.heap.size + 1, 0, none⟩), .pointer (some ⟨w3.heap.size, 0, none⟩), .pointer (some ⟨V, 0, none⟩), .pointer (some ⟨V + 1 + 1, 0, none⟩), .pointer (some ⟨V + 1 + 1 + 1 + 1, 0, none⟩), .int .i64 (i.val : Int), .pointer (some ⟨q, 0, none⟩), undef, undef, undef, undef, .slice ao l.length cap, .slice ao2 l.length cap2, .func (.func 85) #[] #[.pointer (some ⟨w.heap.size, 0, none⟩)], .slice ao3 o.length cap3, .agg #[.int .u32 (c.1.toNat : Int), .int .u32 (c.2.toNat : Int)], .slice ao5 N cap5, .slice ao5 N cap5, .int .i64 (N : Int), .slice (some ⟨V + 1, 0, none⟩) N N, .slice ao5 N cap5, .int .i64 (N : Int), .int .i64 ((N : Int) + 1), .slice (some ⟨V + 1 + 1 + 1, 0, none⟩) (N + 1) (N + 1), .slice (some ⟨V + 1 + 1 + 1, 0, none⟩) (N + 1) (N + 1), .slice ao5 N cap5, .int .i64 (N : Int), .slice ao3 o.length cap3, .agg #[.int .u32 0, .int .u32 0], .slice e6 ml.length c6, .agg #[.int .u64 (b0.toNat : Int), .int .u64 (b1.toNat : Int), .int .u64 (b2.toNat : Int), .int .u64 (b3.toNat : Int)], .pointer (some ⟨V + 1 + 1 + 1, N * 4, none⟩), .slice ao5 N cap5, .func (.func 103) #[] #[.pointer (some ⟨W8.heap.size, 0, none⟩)], .int .i64 (i.val : Int), snv vs[i.val], undef, undef, undef, undef, undef, undef, undef, undef, undef, undef, undef, undef, undef, undef, undef, undef, undef, undef, undef, undef, undef, undef, undef, undef, undef, undef, undef, undef, undef, undef, undef, undef, undef, undef, undef, undef, undef, undef, undef, undef, undef], defers := [] } ∧ W.cell? ⟨q, 0, none⟩ = some (.int .u32 (vs[i.val].1.toNat : Int)) ∧ W.cell? ⟨q, 1, none⟩ = some (.int .u32 (vs[i.val].2.toNat : Int)))
    (fun i a' _ X Y row ⟨q, h1, h2, h3, h4⟩ hg hr => ⟨q, h1, h2, cell_kept h3 hg (fun r e => (hr r e).2), cell_kept h4 hg (fun r e => (hr r e).2)⟩)
    ?assign ?body ?done ?stop
  case assign =>
    rintro lid pre i W K ⟨hI, hzW⟩ hK
    have hsz : V ≤ W.heap.size := Nat.le_trans HV5.out hI.1.size
    generalize hx : vs[i.val] = x at *
    obtain ⟨xp, xm⟩ := x
    have hkk := World.alloc_heap_new W (.cells #[.int .u32 (xp.toNat : Int), .int .u32 (xm.toNat : Int)] 27)
    have hbA : Below W.heap.size W (W.alloc (.cells #[.int .u32 (xp.toNat : Int), .int .u32 (xm.toNat : Int)] 27)) := (Below.refl _ _).alloc (Nat.le_refl _) _
    have hK2 := hK { tmps := #[.slice ao l.length cap, .agg #[.int .u32 (c.1.toNat : Int), .int .u32 (c.2.toNat : Int)], undef, .pointer (some ⟨w.heap.size, 0, none⟩), .pointer (some ⟨w.heap.size + 1, 0, none⟩), .pointer (some ⟨w3.heap.size, 0, none⟩), .pointer (some ⟨V, 0, none⟩), .pointer (some ⟨V + 1 + 1, 0, none⟩), .pointer (some ⟨V + 1 + 1 + 1 + 1, 0, none⟩), .int .i64 (i.val : Int), .pointer (some ⟨W.heap.size, 0, none⟩), undef, undef, undef, undef, .slice ao l.length cap, .slice ao2 l.length cap2, .func (.func 85) #[] #[.pointer (some ⟨w.heap.size, 0, none⟩)], .slice ao3 o.length cap3, .agg #[.int .u32 (c.1.toNat : Int), .int .u32 (c.2.toNat : Int)], .slice ao5 N cap5, .slice ao5 N cap5, .int .i64 (N : Int), .slice (some ⟨V + 1, 0, none⟩) N N, .slice ao5 N cap5, .int .i64 (N : Int), .int .i64 ((N : Int) + 1), .slice (some ⟨V + 1 + 1 + 1, 0, none⟩) (N + 1) (N + 1), .slice (some ⟨V + 1 + 1 + 1, 0, none⟩) (N + 1) (N + 1), .slice ao5 N cap5, .int .i64 (N : Int), .slice ao3 o.length cap3, .agg #[.int .u32 0, .int .u32 0], .slice e6 ml.length c6, .agg #[.int .u64 (b0.toNat : Int), .int .u64 (b1.toNat : Int), .int .u64 (b2.toNat : Int), .int .u64 (b3.toNat : Int)], .pointer (some ⟨V + 1 + 1 + 1, N * 4, none⟩), .slice ao5 N cap5, .func (.func 103) #[] #[.pointer (some ⟨W8.heap.size, 0, none⟩)], .int .i64 (i.val : Int), snv (xp, xm), undef, undef, undef, undef, undef, undef, undef, undef, undef, undef, undef, undef, undef, undef, undef, undef, undef, undef, undef, undef, undef, undef, undef, undef, undef, undef, undef, undef, undef, undef, undef, undef, undef, undef, undef, undef, undef, undef, undef, undef, undef], defers := [] } (W.alloc (.cells #[.int .u32 (xp.toNat : Int), .int .u32 (xm.toNat : Int)] 27))
      ⟨by rw [World.size_alloc]; omega, fun k o _ hk _ => (Below.heap_alloc W _ k (Array.getElem?_eq_some_iff.1 hk).1).trans hk⟩ ⟨hbA.mono hsz, hbA.block _ (by have := HZ9.out; omega)⟩
      ⟨hI.below hsz hbA, by rw [World.size_alloc]; omega⟩ ⟨W.heap.size, by have := HZ9.out; omega, rfl, cell_block hkk rfl, cell_block hkk rfl⟩
    have HK := Lib.hid hK2
    clear hK hK2 hI hkk hbA hx
    dsimp only [snv]
    gi_wp2
    exact HK.out
  case body =>
    rintro lid pre i a' W hlid _ ⟨hI, hzW⟩ ⟨q, hq, rfl, hx0, hx1⟩ hlen
    have hiN : i.val < N := by rw [← HN.out]; exact i.isLt
    have hsz : V ≤ W.heap.size := Nat.le_trans HV5.out hI.1.size
    obtain ⟨hbV, h1, h2, h3, ⟨cuT, h4, h5, h6⟩, cuB, h7, h8, h9⟩ := hI
    have hxv := sub_vld (HSGV.out vs[i.val] (List.getElem_mem i.isLt)) HCV.out
    have hmm := fun (W' : World) (hW : Below W.heap.size W W') => members_any o vs[i.val] (.slice ao3 o.length cap3) W' (HWO5.out.below (by rw [HVV.out]; exact hbV.trans (hW.mono hsz))) HOTH.out hxv (by have := HOL.out; omega)
    have hml := msL_len vs[i.val] o 0
    have hmt := msL_lt vs[i.val] o 0
    have hth : thr o vs[i.val] = crT (msL vs[i.val] o 0) := rfl
    have htS := fun j => tbT_snoc o vs pre i j
    have hbS := fun j => tbB_snoc o vs pre i j
    have hob := (hbV.block w3.heap.size L5'.out).trans KW5.out
    have HTS := Lib.hid htS; have HBS := Lib.hid hbS
    clear htS hbS
    generalize vs[i.val] = x at *
    obtain ⟨xp, xm⟩ := x
    simp only at hmm hx0 hx1
    generalize msL (xp, xm) o 0 = ml2 at *
    obtain ⟨t0, t1, t2, t3, htq⟩ : ∃ t0 t1 t2 t3, crT ml2 = (t0, t1, t2, t3) := ⟨_, _, _, _, rfl⟩
    rw [htq] at hth
    rw [hth] at HTS HBS
    obtain ⟨g0, g1, g2, g3, hgd⟩ : ∃ g0 g1 g2 g3, tbB o vs pre (i.val + 1) = (g0, g1, g2, g3) := ⟨_, _, _, _, rfl⟩
    rw [hgd] at HBS
    obtain ⟨m0, m1, m2, m3, hmd⟩ : ∃ m0 m1 m2 m3, meC (t0, t1, t2, t3) (g0, g1, g2, g3) = (m0, m1, m2, m3) := ⟨_, _, _, _, rfl⟩
    rw [hmd] at HBS
    have hme := fun W' => cmeet_any (t0, t1, t2, t3) (g0, g1, g2, g3) W'
    rw [hmd] at hme
    unfold crv at hme
    simp only at hme
    obtain ⟨v0, v1, v2, v3⟩ := h6 i.val hiN
    obtain ⟨z0, z1, z2, z3⟩ := h9 i.val (by omega)
    have hg4 := h9 (i.val + 1) (by omega)
    rw [hgd] at hg4
    have hqW : q < W.heap.size := World.block_lt_of_cell? _ _ hx0
    have FF : Hid (∀ W' : World, Below W.heap.size W W' → (W'.cell? ⟨V + 1 + 1, 0, none⟩ = some (.slice (some ⟨V + 1, 0, none⟩) N N) ∧ W'.cell? ⟨w3.heap.size, 0, none⟩ = some (.slice ao3 o.length cap3) ∧ W'.cell? ⟨q, 0, none⟩ = some (.int .u32 (xp.toNat : Int)) ∧ W'.cell? ⟨q, 1, none⟩ = some (.int .u32 (xm.toNat : Int))) ∧ W'.heap[V + 1]? = some (.cells cuT 96)) := Lib.hid (fun W' hW => ⟨⟨cell_block ((hW.block _ (Array.getElem?_eq_some_iff.1 h2).1).trans h2) rfl, cell_block ((hW.block _ (Array.getElem?_eq_some_iff.1 hob).1).trans hob) rfl, (hW.cell (p := ⟨q, _, none⟩) hqW).trans hx0, (hW.cell (p := ⟨q, _, none⟩) hqW).trans hx1⟩, (hW.block _ (Array.getElem?_eq_some_iff.1 h4).1).trans h4⟩)
    have HMM := Lib.hid hmm; have HML := Lib.hid hml; have HMT := Lib.hid hmt; have HME := Lib.hid hme; have HTQ := Lib.hid htq; have HV0 := Lib.hid v0; have HV1 := Lib.hid v1; have HV2 := Lib.hid v2; have HV3 := Lib.hid v3; have HZ0 := Lib.hid z0; have HZ1 := Lib.hid z1; have HZ2 := Lib.hid z2; have HZ3 := Lib.hid z3; have HG4 := Lib.hid hg4; have H1 := Lib.hid h1; have H2 := Lib.hid h2; have H3 := Lib.hid h3; have H4 := Lib.hid h4; have H5 := Lib.hid h5; have H6 := Lib.hid h6; have H7 := Lib.hid h7; have H8 := Lib.hid h8; have H9 := Lib.hid h9; have HBV := Lib.hid hbV; have HZW := Lib.hid hzW; have HSZW := Lib.hid hsz; have HQ := Lib.hid hq
    clear hmm hml hmt hme htq v0 v1 v2 v3 z0 z1 z2 z3 hg4 h1 h2 h3 h4 h5 h6 h7 h8 h9 hbV hzW hsz hq hth hgd hmd hxv hob hx0 hx1 hqW hlen
    have hmx : Tryd.prog.follows .mixedOrders = true := by kernel_rfl
    have hB0 : Below W.heap.size W W.drew := Below.drew (Below.refl _ _)
    have hiN2 : (i.val : Int) < (N : Int) := by omega
    obtain ⟨⟨a0, a1, a2, a3⟩, e4⟩ := FF.out W (Below.refl _ _)
    dsimp only [snv]
    generalize hiv : i.val = I at *
    gi_wp2_with fail
    refine region_mid (fun a' W' => ∃ u44 w7, a' = { tmps := #[.slice ao l.length cap, .agg #[.int .u32 (c.1.toNat : Int), .int .u32 (c.2.toNat : Int)], undef, .pointer (some ⟨w.heap.size, 0, none⟩), .pointer (some ⟨w.heap.size + 1, 0, none⟩), .pointer (some ⟨w3.heap.size, 0, none⟩), .pointer (some ⟨V, 0, none⟩), .pointer (some ⟨V + 1 + 1, 0, none⟩), .pointer (some ⟨V + 1 + 1 + 1 + 1, 0, none⟩), .int .i64 (I : Int), .pointer (some ⟨q, 0, none⟩), undef, undef, undef, undef, .slice ao l.length cap, .slice ao2 l.length cap2, .func (.func 85) #[] #[.pointer (some ⟨w.heap.size, 0, none⟩)], .slice ao3 o.length cap3, .agg #[.int .u32 (c.1.toNat : Int), .int .u32 (c.2.toNat : Int)], .slice ao5 N cap5, .slice ao5 N cap5, .int .i64 (N : Int), .slice (some ⟨V + 1, 0, none⟩) N N, .slice ao5 N cap5, .int .i64 (N : Int), .int .i64 ((N : Int) + 1), .slice (some ⟨V + 1 + 1 + 1, 0, none⟩) (N + 1) (N + 1), .slice (some ⟨V + 1 + 1 + 1, 0, none⟩) (N + 1) (N + 1), .slice ao5 N cap5, .int .i64 (N : Int), .slice ao3 o.length cap3, .agg #[.int .u32 0, .int .u32 0], .slice e6 ml.length c6, .agg #[.int .u64 (b0.toNat : Int), .int .u64 (b1.toNat : Int), .int .u64 (b2.toNat : Int), .int .u64 (b3.toNat : Int)], .pointer (some ⟨V + 1 + 1 + 1, N * 4, none⟩), .slice ao5 N cap5, .func (.func 103) #[] #[.pointer (some ⟨W8.heap.size, 0, none⟩)], .int .i64 (I : Int), .agg #[.int .u32 (xp.toNat : Int), .int .u32 (xm.toNat : Int)], .slice (some ⟨V + 1, 0, none⟩) N N, .int .i64 (I : Int), .slice ao3 o.length cap3, .agg #[.int .u32 (xp.toNat : Int), .int .u32 (xm.toNat : Int)], u44, .agg #[.int .u64 (t0.toNat : Int), .int .u64 (t1.toNat : Int), .int .u64 (t2.toNat : Int), .int .u64 (t3.toNat : Int)], .pointer (some ⟨V + 1, I * 4, none⟩), undef, undef, undef, undef, undef, undef, undef, undef, undef, undef, undef, undef, undef, undef, undef, undef, undef, undef, undef, undef, undef, undef, undef, undef, undef, undef, undef, undef, undef, undef, undef, undef, undef, undef], defers := [] } ∧ W' = ((((w7.setCell ⟨V + 1, I * 4, none⟩ (.int .u64 (t0.toNat : Int))).setCell ⟨V + 1, I * 4 + 1, none⟩ (.int .u64 (t1.toNat : Int))).setCell ⟨V + 1, I * 4 + 2, none⟩ (.int .u64 (t2.toNat : Int))).setCell ⟨V + 1, I * 4 + 3, none⟩ (.int .u64 (t3.toNat : Int))) ∧ Below W.heap.size W w7) ?r9 ?rest9
    case r9 =>
      gi_region_with_o (first
        | (refine ⟨trivial, ?_⟩; gi_at_call 50; refine (CallsIn.inRound lid (callsIn_wide.2 (HMM.out _ hB0))).mono ?_; rintro e w6 ⟨v6, rfl, ho6, hb6⟩; obtain ⟨e7, c7, rfl⟩ := ho6.slice; have hB1 : Below W.heap.size W w6 := hB0.trans (hb6.mono hB0.size); obtain ⟨⟨a0, a1, a2, a3⟩, e4⟩ := FF.out _ hB1; have HO6 := Lib.hid ho6; clear hb6 ho6)
        | (refine ⟨trivial, ?_⟩; gi_at_call 68; refine (CallsIn.inRound lid (callsIn_wide.2 (crowd_four ml2 t0 t1 t2 t3 HTQ.out _ _ HO6.out.is (fun i hi => by have := HMT.out i hi; have := HOL.out; omega) (by have := HML.out; have := HOL.out; omega)))).mono ?_; rintro e w7 ⟨rfl, hb7⟩; have hB2 : Below W.heap.size W w7 := hB1.trans (hb7.mono hB1.size); obtain ⟨⟨a0, a1, a2, a3⟩, e4⟩ := FF.out _ hB2; have u0 := cell_block e4 HV0.out; have u1 := cell_block e4 HV1.out; have u2 := cell_block e4 HV2.out; have u3 := cell_block e4 HV3.out; have f0 := frozen_block e4 (o := I * 4); have f1 := frozen_block e4 (o := I * 4 + 1); have f2 := frozen_block e4 (o := I * 4 + 2); have f3 := frozen_block e4 (o := I * 4 + 3); clear hb7))
      all_goals exact ⟨rfl, _, _, rfl, rfl, hB2⟩
    case rest9 =>
      rintro a' W' ⟨u44, w7, rfl, hW10, hb7⟩
      have e4 := (FF.out _ hb7).2
      have kT10 : W'.heap[V + 1]? = some (.cells ((((cuT.setIfInBounds (I * 4) (.int .u64 (t0.toNat : Int))).setIfInBounds (I * 4 + 1) (.int .u64 (t1.toNat : Int))).setIfInBounds (I * 4 + 2) (.int .u64 (t2.toNat : Int))).setIfInBounds (I * 4 + 3) (.int .u64 (t3.toNat : Int))) 96) := by rw [hW10]; exact block_set4 e4 _ _ _ _ _ _ _ _
      have hfar : ∀ b, b ≠ V + 1 → b < W.heap.size → W'.heap[b]? = W.heap[b]? := fun b hb hl => by rw [hW10, set4_far' hb]; exact hb7.block b hl
      have ko10 : KeepsOthers W W' := by rw [hW10]; exact (ko_of_below hb7).trans (ko_set4 _ _ _ _ _ _ _ _ _ _)
      have hbv10 : Below V W W' := by rw [hW10]; exact below_set4 (hb7.mono HSZW.out) (by omega) _ _ _ _ _ _ _ _
      have hz10 : W.heap.size ≤ W'.heap.size := ko10.size
      clear hW10 hb7 e4
      have lV4 := (Array.getElem?_eq_some_iff.1 H3.out).1
      have kV10 := (hfar _ (by omega) (Array.getElem?_eq_some_iff.1 H1.out).1).trans H1.out
      have kTB10 := (hfar _ (by omega) (Array.getElem?_eq_some_iff.1 H2.out).1).trans H2.out
      have kBB10 := (hfar _ (by omega) lV4).trans H3.out
      have kB10 := (hfar _ (by omega) (Array.getElem?_eq_some_iff.1 H7.out).1).trans H7.out
      have ht4 : C4 ((((cuT.setIfInBounds (I * 4) (.int .u64 (t0.toNat : Int))).setIfInBounds (I * 4 + 1) (.int .u64 (t1.toNat : Int))).setIfInBounds (I * 4 + 2) (.int .u64 (t2.toNat : Int))).setIfInBounds (I * 4 + 3) (.int .u64 (t3.toNat : Int))) I (t0, t1, t2, t3) := C4.set (d := (t0, t1, t2, t3)) (by rw [H5.out]; omega) (fun h => absurd rfl h) (fun _ => rfl)
      have htq : W'.heap[W8.heap.size]? = W.heap[W8.heap.size]? := hfar _ (by have := HSZ8.out; omega) (by have := HZ9.out; have := HZW.out; omega)
      generalize hct : ((((cuT.setIfInBounds (I * 4) (.int .u64 (t0.toNat : Int))).setIfInBounds (I * 4 + 1) (.int .u64 (t1.toNat : Int))).setIfInBounds (I * 4 + 2) (.int .u64 (t2.toNat : Int))).setIfInBounds (I * 4 + 3) (.int .u64 (t3.toNat : Int))) = cuT' at *
      have FG : Hid (∀ W2 : World, Below W'.heap.size W' W2 → (W2.cell? ⟨V + 1 + 1, 0, none⟩ = some (.slice (some ⟨V + 1, 0, none⟩) N N) ∧ W2.cell? ⟨V + 1 + 1 + 1 + 1, 0, none⟩ = some (.slice (some ⟨V + 1 + 1 + 1, 0, none⟩) (N + 1) (N + 1))) ∧ (W2.cell? ⟨V + 1, I * 4, none⟩ = some (.int .u64 (t0.toNat : Int)) ∧ W2.cell? ⟨V + 1, I * 4 + 1, none⟩ = some (.int .u64 (t1.toNat : Int)) ∧ W2.cell? ⟨V + 1, I * 4 + 2, none⟩ = some (.int .u64 (t2.toNat : Int)) ∧ W2.cell? ⟨V + 1, I * 4 + 3, none⟩ = some (.int .u64 (t3.toNat : Int))) ∧ (W2.cell? ⟨V + 1 + 1 + 1, (I + 1) * 4, none⟩ = some (.int .u64 (g0.toNat : Int)) ∧ W2.cell? ⟨V + 1 + 1 + 1, (I + 1) * 4 + 1, none⟩ = some (.int .u64 (g1.toNat : Int)) ∧ W2.cell? ⟨V + 1 + 1 + 1, (I + 1) * 4 + 2, none⟩ = some (.int .u64 (g2.toNat : Int)) ∧ W2.cell? ⟨V + 1 + 1 + 1, (I + 1) * 4 + 3, none⟩ = some (.int .u64 (g3.toNat : Int))) ∧ W2.heap[V + 1 + 1 + 1]? = some (.cells cuB 96)) := Lib.hid (fun W2 hW => by
        have q1 := (hW.block _ (Array.getElem?_eq_some_iff.1 kTB10).1).trans kTB10
        have q2 := (hW.block _ (Array.getElem?_eq_some_iff.1 kBB10).1).trans kBB10
        have q3 := (hW.block _ (Array.getElem?_eq_some_iff.1 kT10).1).trans kT10
        have q4 := (hW.block _ (Array.getElem?_eq_some_iff.1 kB10).1).trans kB10
        obtain ⟨r0, r1, r2, r3⟩ := ht4
        obtain ⟨s0, s1, s2, s3⟩ := HG4.out
        exact ⟨⟨cell_block q1 rfl, cell_block q2 rfl⟩, ⟨cell_block q3 r0, cell_block q3 r1, cell_block q3 r2, cell_block q3 r3⟩, ⟨cell_block q4 s0, cell_block q4 s1, cell_block q4 s2, cell_block q4 s3⟩, q4⟩)
      have KV10 := Lib.hid kV10; have KTB10 := Lib.hid kTB10; have KBB10 := Lib.hid kBB10; have KT10 := Lib.hid kT10; have KB10 := Lib.hid kB10; have KO10 := Lib.hid ko10; have HBV10 := Lib.hid hbv10; have HZ10 := Lib.hid hz10; have HTQ10 := Lib.hid htq; have HCT := Lib.hid hct
      clear kV10 kTB10 kBB10 kT10 kB10 ko10 hbv10 hz10 htq hct ht4 hfar lV4 FF HMM HML HMT HTQ a0 a1 a2 a3
      have hB10 : Below W'.heap.size W' W'.drew := Below.drew (Below.refl _ _)
      have hw1' : IntKind.i64.wrap ((I : Int) + 1) = (I : Int) + 1 := by rw [IntKind.wrap_i64]; omega
      have hi3 : (I : Int) + 1 < (N : Int) + 1 := by omega
      have hi4 : I + 1 < N + 1 := by omega
      have hi5 : (I : Int) < (N : Int) + 1 := by omega
      have hi6 : I < N + 1 := by omega
      obtain ⟨⟨p0, p1⟩, ⟨p2, p3, p4, p5⟩, ⟨p6, p7, p8, p9⟩, p10⟩ := FG.out W' (Below.refl _ _)
      gi_wp2_with fail
      refine region_mid (fun a'' W'' => ∃ w11, a'' = { tmps := #[.slice ao l.length cap, .agg #[.int .u32 (c.1.toNat : Int), .int .u32 (c.2.toNat : Int)], undef, .pointer (some ⟨w.heap.size, 0, none⟩), .pointer (some ⟨w.heap.size + 1, 0, none⟩), .pointer (some ⟨w3.heap.size, 0, none⟩), .pointer (some ⟨V, 0, none⟩), .pointer (some ⟨V + 1 + 1, 0, none⟩), .pointer (some ⟨V + 1 + 1 + 1 + 1, 0, none⟩), .int .i64 (I : Int), .pointer (some ⟨q, 0, none⟩), undef, undef, undef, undef, .slice ao l.length cap, .slice ao2 l.length cap2, .func (.func 85) #[] #[.pointer (some ⟨w.heap.size, 0, none⟩)], .slice ao3 o.length cap3, .agg #[.int .u32 (c.1.toNat : Int), .int .u32 (c.2.toNat : Int)], .slice ao5 N cap5, .slice ao5 N cap5, .int .i64 (N : Int), .slice (some ⟨V + 1, 0, none⟩) N N, .slice ao5 N cap5, .int .i64 (N : Int), .int .i64 ((N : Int) + 1), .slice (some ⟨V + 1 + 1 + 1, 0, none⟩) (N + 1) (N + 1), .slice (some ⟨V + 1 + 1 + 1, 0, none⟩) (N + 1) (N + 1), .slice ao5 N cap5, .int .i64 (N : Int), .slice ao3 o.length cap3, .agg #[.int .u32 0, .int .u32 0], .slice e6 ml.length c6, .agg #[.int .u64 (b0.toNat : Int), .int .u64 (b1.toNat : Int), .int .u64 (b2.toNat : Int), .int .u64 (b3.toNat : Int)], .pointer (some ⟨V + 1 + 1 + 1, N * 4, none⟩), .slice ao5 N cap5, .func (.func 103) #[] #[.pointer (some ⟨W8.heap.size, 0, none⟩)], .int .i64 (I : Int), .agg #[.int .u32 (xp.toNat : Int), .int .u32 (xm.toNat : Int)], .slice (some ⟨V + 1, 0, none⟩) N N, .int .i64 (I : Int), .slice ao3 o.length cap3, .agg #[.int .u32 (xp.toNat : Int), .int .u32 (xm.toNat : Int)], u44, .agg #[.int .u64 (t0.toNat : Int), .int .u64 (t1.toNat : Int), .int .u64 (t2.toNat : Int), .int .u64 (t3.toNat : Int)], .pointer (some ⟨V + 1, I * 4, none⟩), .slice (some ⟨V + 1 + 1 + 1, 0, none⟩) (N + 1) (N + 1), .int .i64 (I : Int), .slice (some ⟨V + 1, 0, none⟩) N N, .int .i64 (I : Int), .pointer (some ⟨V + 1, I * 4, none⟩), .agg #[.int .u64 (t0.toNat : Int), .int .u64 (t1.toNat : Int), .int .u64 (t2.toNat : Int), .int .u64 (t3.toNat : Int)], .slice (some ⟨V + 1 + 1 + 1, 0, none⟩) (N + 1) (N + 1), .int .i64 (I : Int), .int .i64 ((I : Int) + 1), .pointer (some ⟨V + 1 + 1 + 1, (I + 1) * 4, none⟩), .agg #[.int .u64 (g0.toNat : Int), .int .u64 (g1.toNat : Int), .int .u64 (g2.toNat : Int), .int .u64 (g3.toNat : Int)], .agg #[.int .u64 (m0.toNat : Int), .int .u64 (m1.toNat : Int), .int .u64 (m2.toNat : Int), .int .u64 (m3.toNat : Int)], .pointer (some ⟨V + 1 + 1 + 1, I * 4, none⟩), undef, undef, undef, undef, undef, undef, undef, undef, undef, undef, undef, undef, undef, undef, undef, undef, undef, undef, undef, undef, undef], defers := [] } ∧ W'' = ((((w11.setCell ⟨V + 1 + 1 + 1, I * 4, none⟩ (.int .u64 (m0.toNat : Int))).setCell ⟨V + 1 + 1 + 1, I * 4 + 1, none⟩ (.int .u64 (m1.toNat : Int))).setCell ⟨V + 1 + 1 + 1, I * 4 + 2, none⟩ (.int .u64 (m2.toNat : Int))).setCell ⟨V + 1 + 1 + 1, I * 4 + 3, none⟩ (.int .u64 (m3.toNat : Int))) ∧ Below W'.heap.size W' w11) ?r10 ?rest10
      case r10 =>
        refine wpIn_region_makers 13 [] [0, 1, 2, 3, 4, 5, 6, 7, 8, 9, 10, 11, 12] ?A10 _ (by kernel_rfl) (by kernel_rfl) (by kernel_rfl) (by simp) (by simp [quiets, mkOf]; rfl) ?walk10 ?fin10
        case walk10 =>
          intro W2 hW2
          obtain ⟨⟨a0, a1⟩, ⟨a2, a3, a4, a5⟩, ⟨a6, a7, a8, a9⟩, -⟩ := FG.out W2 hW2
          have p0 := cell_regrown a0
          have p1 := cell_regrown a1
          have p2 := cell_regrown a2
          have p3 := cell_regrown a3
          have p4 := cell_regrown a4
          have p5 := cell_regrown a5
          have p6 := cell_regrown a6
          have p7 := cell_regrown a7
          have p8 := cell_regrown a8
          have p9 := cell_regrown a9
          repeat (go_big_quiet_step (first
            | (go_at_call 88; with_reducible exact Calls.regrown_of (HME.out _))))
          refine wpQuiet_nil ?_
          rfl
        intro bs w11 hb11 hF hN
        clear hF hN
        obtain ⟨-, -, -, p10⟩ := FG.out _ hb11
        have u0 := cell_block p10 HZ0.out; have u1 := cell_block p10 HZ1.out; have u2 := cell_block p10 HZ2.out; have u3 := cell_block p10 HZ3.out; have f0 := frozen_block p10 (o := I * 4); have f1 := frozen_block p10 (o := I * 4 + 1); have f2 := frozen_block p10 (o := I * 4 + 2); have f3 := frozen_block p10 (o := I * 4 + 3)
        simp only [List.map_nil, List.foldr_nil, List.drop_succ_cons, List.drop_zero]
        go_wp2_with fail
        exact ⟨rfl, rfl, _, rfl, rfl, hb11⟩
      case rest10 =>
        rintro a'' W'' ⟨w11, rfl, hW12, hb11⟩
        have p10 := (FG.out _ hb11).2.2.2
        have hfar : ∀ b, b ≠ V + 1 + 1 + 1 → b < W'.heap.size → W''.heap[b]? = W'.heap[b]? := fun b hb hl => by rw [hW12, set4_far' hb]; exact hb11.block b hl
        have hko : KeepsOthers W' W'' := by rw [hW12]; exact (ko_of_below hb11).trans (ko_set4 _ _ _ _ _ _ _ _ _ _)
        have hVW' : V ≤ W'.heap.size := Nat.le_trans HSZW.out HZ10.out
        have hbv : Below V W' W'' := by rw [hW12]; exact below_set4 (hb11.mono hVW') (by omega) _ _ _ _ _ _ _ _
        have hkB : W''.heap[V + 1 + 1 + 1]? = some (.cells ((((cuB.setIfInBounds (I * 4) (.int .u64 (m0.toNat : Int))).setIfInBounds (I * 4 + 1) (.int .u64 (m1.toNat : Int))).setIfInBounds (I * 4 + 2) (.int .u64 (m2.toNat : Int))).setIfInBounds (I * 4 + 3) (.int .u64 (m3.toNat : Int))) 96) := by rw [hW12]; exact block_set4 p10 _ _ _ _ _ _ _ _
        have hz12 : W'.heap.size ≤ W''.heap.size := hko.size
        refine ⟨(KO10.out.trans hko).from _, ⟨HBV10.out.trans hbv, ?_⟩, ⟨HBV.out.trans (HBV10.out.trans hbv), ?_, ?_, ?_, ⟨cuT', ?_, ?_, fun j hj => ?_⟩, _, hkB, ?_, fun j hj => ?_⟩, ?_⟩
        · exact (hfar _ (by have := HSZ8.out; omega) (by have := HZ9.out; have := HZW.out; have := HZ10.out; omega)).trans HTQ10.out
        · exact (hfar _ (by omega) (Array.getElem?_eq_some_iff.1 KV10.out).1).trans KV10.out
        · exact (hfar _ (by omega) (Array.getElem?_eq_some_iff.1 KTB10.out).1).trans KTB10.out
        · exact (hfar _ (by omega) (Array.getElem?_eq_some_iff.1 KBB10.out).1).trans KBB10.out
        · exact (hfar _ (by omega) (Array.getElem?_eq_some_iff.1 KT10.out).1).trans KT10.out
        · rw [← HCT.out]; simp [H5.out]
        · rw [HTS.out, ← HCT.out]
          refine C4.set (d := (t0, t1, t2, t3)) (by rw [H5.out]; omega) (fun hne => ?_) (fun he => by rw [if_pos he])
          rw [if_neg hne]
          exact H6.out j hj
        · simp [H8.out]
        · rw [HBS.out]
          refine C4.set (d := (m0, m1, m2, m3)) (by rw [H8.out]; omega) (fun hne => ?_) (fun he => by rw [if_pos he])
          rw [if_neg hne]
          exact H9.out j hj
        · have := HZW.out; have := HZ10.out; omega
  case done =>
    rintro D ys W hD rfl ⟨hI, hzW⟩ hK
    have hn0 := World.alloc_heap_new W (.cells #[.nilFunc] 117)
    have nc0 : (W.alloc (.cells #[.nilFunc] 117)).cell? ⟨W.heap.size, 0, none⟩ = some .nilFunc := cell_block hn0 (o := 0) rfl
    have nf0 : (W.alloc (.cells #[.nilFunc] 117)).frozen? ⟨W.heap.size, 0, none⟩ = false := frozen_block hn0 (o := 0)
    have hbA : Below W.heap.size W ((W.alloc (.cells #[.nilFunc] 117)).setCell ⟨W.heap.size, 0, none⟩ (.func (.func 89) #[] #[.pointer (some ⟨V, 0, none⟩), .pointer (some ⟨V + 1 + 1 + 1 + 1, 0, none⟩), .pointer (some ⟨W.heap.size, 0, none⟩), .pointer (some ⟨V + 1 + 1, 0, none⟩)])) := ((Below.refl W.heap.size W).alloc (Nat.le_refl _) (.cells #[.nilFunc] 117)).setCell (p := ⟨W.heap.size, 0, none⟩) (Nat.le_refl _) _
    have kS : ((W.alloc (.cells #[.nilFunc] 117)).setCell ⟨W.heap.size, 0, none⟩ (.func (.func 89) #[] #[.pointer (some ⟨V, 0, none⟩), .pointer (some ⟨V + 1 + 1 + 1 + 1, 0, none⟩), .pointer (some ⟨W.heap.size, 0, none⟩), .pointer (some ⟨V + 1 + 1, 0, none⟩)])).heap[W.heap.size]? = some (.cells #[(.func (.func 89) #[] #[.pointer (some ⟨V, 0, none⟩), .pointer (some ⟨V + 1 + 1 + 1 + 1, 0, none⟩), .pointer (some ⟨W.heap.size, 0, none⟩), .pointer (some ⟨V + 1 + 1, 0, none⟩)])] 117) := block_set hn0
    have hV1 : ((W.alloc (.cells #[.nilFunc] 117)).setCell ⟨W.heap.size, 0, none⟩ (.func (.func 89) #[] #[.pointer (some ⟨V, 0, none⟩), .pointer (some ⟨V + 1 + 1 + 1 + 1, 0, none⟩), .pointer (some ⟨W.heap.size, 0, none⟩), .pointer (some ⟨V + 1 + 1, 0, none⟩)])).cell? ⟨V, 0, none⟩ = some (.slice ao5 N cap5) := cell_block ((hbA.block V (Array.getElem?_eq_some_iff.1 hI.2.1).1).trans hI.2.1) (o := 0) rfl
    have HI := Lib.hid hI; have HZW := Lib.hid hzW; have HK := Lib.hid hK; have HBA := Lib.hid hbA; have KS := Lib.hid kS; have HD := Lib.hid hD
    clear hI hzW hK hn0 hbA kS hD
    go_wp2_with fail
    rw [store_cellv rfl nc0 nf0]
    generalize hWA : (W.alloc (.cells #[.nilFunc] 117)).setCell ⟨W.heap.size, 0, none⟩ (.func (.func 89) #[] #[.pointer (some ⟨V, 0, none⟩), .pointer (some ⟨V + 1 + 1 + 1 + 1, 0, none⟩), .pointer (some ⟨W.heap.size, 0, none⟩), .pointer (some ⟨V + 1 + 1, 0, none⟩)]) = WA at *
    clear hWA nc0 nf0
    simp only [Result.andThen]
    go_wp2_with fail
    have hlW : W.heap.size < WA.heap.size := (Array.getElem?_eq_some_iff.1 KS.out).1
    have hDl : D < W.heap.size := (Array.getElem?_eq_some_iff.1 HK.out).1
    have hkD := (HBA.out.block D hDl).trans HK.out
    have hVW2 : V ≤ W.heap.size := by have := HI.out.1.size; rw [HVV.out] at this; exact this
    have k0w : WA.heap[w.heap.size]? = some (.cells #[.int .u32 (c.1.toNat : Int), .int .u32 (c.2.toNat : Int)] 27) := (HBA.out.block _ (by have := L3.out; have := L5'.out; omega)).trans ((HI.out.1.block _ (by have := L3.out; have := L5'.out; omega)).trans KW0.out)
    have k1w : WA.heap[w.heap.size + 1]? = some (.cells #[.int .u32 0, .int .u32 0] 27) := (HBA.out.block _ (by have := L3.out; have := L5'.out; omega)).trans ((HI.out.1.block _ (by have := L3.out; have := L5'.out; omega)).trans KW1.out)
    have hbw : Below w.heap.size w WA := (HBW5'.out.trans (HI.out.1.mono (by have := L3.out; have := L5'.out; omega))).trans (HBA.out.mono (by have := L3.out; have := L5'.out; omega))
    have hDw : w.heap.size + 1 < D := by have := L3.out; have := L5'.out; have := HSZ8.out; have := HZ9.out; have := HD.out; omega
    have HKD := Lib.hid hkD; have K0W := Lib.hid k0w; have K1W := Lib.hid k1w; have HBW := Lib.hid hbw; have HDW := Lib.hid hDw; have HLW := Lib.hid hlW; have HDL := Lib.hid hDl; have HVW2 := Lib.hid hVW2
    clear hkD k0w k1w hbw hDw hlW hDl hVW2
    go_loopw [63] (fun i wr => ∃ k : Nat, k ≤ N ∧ i = .int .i64 (k : Int) ∧ (∀ n, n < k → srch o vs n (bhd o []) = none) ∧ Below WA.heap.size WA wr) (fun i _ => N - (intOf i).toNat)
    case atStart => exact ⟨0, Nat.zero_le _, rfl, fun n h => absurd h (Nat.not_lt_zero _), Below.refl _ _⟩
    case round =>
      obtain ⟨k, hk2, rfl, hno, hw⟩ := hrel
      have HNO := Lib.hid hno; have HW := Lib.hid hw
      clear hno hw
      by_cases hlt : k < N
      · obtain ⟨gv, off, rfl⟩ : ∃ gv off, ao5 = some ⟨gv, off, none⟩ := by
          obtain ⟨ao', cap', e, -, -, hc⟩ := HWV5.out.open
          obtain ⟨b, of, e2, -⟩ := hc 0 (by rw [HN.out]; omega)
          injection e with e3 e4 e5
          exact ⟨b, of, e3.trans e2⟩
        have hgv : gv < V := by
          obtain ⟨ao', cap', e, -, -, hc⟩ := HWV5.out.open
          obtain ⟨b, of, e2, hb, -⟩ := hc 0 (by rw [HN.out]; omega)
          injection e with e3 e4 e5
          rw [← e3] at e2
          injection e2 with e2
          injection e2 with e6 e7 e8
          rw [e6, ← HVV.out]
          exact hb
        have hE := env_of HN.out HVV.out HI.out HWV5.out HBA.out KS.out
        have hsr := search_any o vs c HCV.out HSGV.out (by rw [HN.out]; exact HSGN.out) V (V + 1 + 1 + 1 + 1) W.heap.size (V + 1 + 1) gv off cap5 (V + 1 + 1 + 1) (V + 1) WA.heap.size WA (by rw [HN.out]; exact C5.out) (Nat.le_refl _) hE
          (by have h1 := (Array.getElem?_eq_some_iff.1 HI.out.2.2.2.1).1; have h2 := HLW.out; refine ⟨?_, ?_, ?_, ?_, ?_, ?_, ?_⟩ <;> omega) k 0 (bhd o []) 
        obtain ⟨res, hres⟩ : ∃ res, srch o (vs.drop 0) k (bhd o []) = res := ⟨_, rfl⟩
        rw [hres] at hsr
        rw [List.drop_zero] at hres
        obtain ⟨rp, rm, rb, hrs, hr1, hr2⟩ : ∃ rp rm rb, resS res = .tuple #[.agg #[.int .u32 (BitVec.toNat rp : Int), .int .u32 (BitVec.toNat rm : Int)], .bool rb] ∧ ((rp, rm) : Snd) = res.getD (0#32, 0#32) ∧ rb = res.isSome := ⟨_, _, _, rfl, rfl, rfl⟩
        rw [hrs] at hsr
        have hEN := hE WA (Below.refl _ _)
        have hb4 := hEN.beh vs.length (Nat.le_refl _)
        rw [List.drop_length, HN.out] at hb4
        rw [HBE.out, HBQ.out] at hsr hb4
        obtain ⟨hb40, hb41, hb42, hb43⟩ := hb4
        have hv0 := hEN.v
        have hbb0 := hEN.b
        rw [HN.out] at hv0 hbb0
        have hs0 := hEN.s
        have hl4 := (Array.getElem?_eq_some_iff.1 HI.out.2.2.2.1).1
        have KK : Hid (∀ W2 : World, Below wr.heap.size wr W2 → W2.cell? ⟨W.heap.size, 0, none⟩ = some (.func (.func 89) #[] #[.pointer (some ⟨V, 0, none⟩), .pointer (some ⟨V + 1 + 1 + 1 + 1, 0, none⟩), .pointer (some ⟨W.heap.size, 0, none⟩), .pointer (some ⟨V + 1 + 1, 0, none⟩)]) ∧ W2.cell? ⟨V + 1 + 1 + 1 + 1, 0, none⟩ = some (.slice (some ⟨V + 1 + 1 + 1, 0, none⟩) (N + 1) (N + 1)) ∧ W2.cell? ⟨V, 0, none⟩ = some (.slice (some ⟨gv, off, none⟩) N cap5) ∧ W2.cell? ⟨V + 1 + 1 + 1, N * 4, none⟩ = some (.int .u64 (b0.toNat : Int)) ∧ W2.cell? ⟨V + 1 + 1 + 1, N * 4 + 1, none⟩ = some (.int .u64 (b1.toNat : Int)) ∧ W2.cell? ⟨V + 1 + 1 + 1, N * 4 + 2, none⟩ = some (.int .u64 (b2.toNat : Int)) ∧ W2.cell? ⟨V + 1 + 1 + 1, N * 4 + 3, none⟩ = some (.int .u64 (b3.toNat : Int))) := Lib.hid (fun W2 hW => by
          have hle := HW.out.size
          have e1 : ∀ p : Addr, p.block < WA.heap.size → W2.cell? p = WA.cell? p := fun p hp => (hW.cell (Nat.lt_of_lt_of_le hp hle)).trans (HW.out.cell hp)
          have hlW := HLW.out
          exact ⟨(e1 ⟨_, _, none⟩ hlW).trans hs0, (e1 ⟨_, _, none⟩ (by simp only []; omega)).trans hbb0, (e1 ⟨_, _, none⟩ (by simp only []; omega)).trans hv0, (e1 ⟨_, _, none⟩ (by simp only []; omega)).trans hb40, (e1 ⟨_, _, none⟩ (by simp only []; omega)).trans hb41, (e1 ⟨_, _, none⟩ (by simp only []; omega)).trans hb42, (e1 ⟨_, _, none⟩ (by simp only []; omega)).trans hb43⟩)
        have HSR : Hid (∀ W2 : World, Below wr.heap.size wr W2 → Gives 89 #[.int .i64 0, .int .i64 (k : Int), .agg #[.int .u64 (b0.toNat : Int), .int .u64 (b1.toNat : Int), .int .u64 (b2.toNat : Int), .int .u64 (b3.toNat : Int)], .pointer (some ⟨V, 0, none⟩), .pointer (some ⟨V + 1 + 1 + 1 + 1, 0, none⟩), .pointer (some ⟨W.heap.size, 0, none⟩), .pointer (some ⟨V + 1 + 1, 0, none⟩)] W2 (.tuple #[.agg #[.int .u32 (rp.toNat : Int), .int .u32 (rm.toNat : Int)], .bool rb])) := Lib.hid (fun W2 hW => hsr W2 (by have := HSGN.out; omega) (Nat.zero_le _) (HW.out.trans (hW.mono HW.out.size)))
        have HR1 := Lib.hid hr1; have HR2 := Lib.hid hr2; have HRS := Lib.hid hres
        have K0R := Lib.hid ((HW.out.block _ (Array.getElem?_eq_some_iff.1 K0W.out).1).trans K0W.out)
        have K1R := Lib.hid ((HW.out.block _ (Array.getElem?_eq_some_iff.1 K1W.out).1).trans K1W.out)
        have KDR := Lib.hid ((HW.out.block _ (Array.getElem?_eq_some_iff.1 HKD.out).1).trans HKD.out)
        have HBWR := Lib.hid (HBW.out.trans (HW.out.mono (Nat.le_trans (Nat.le_of_lt (Nat.lt_trans (Nat.lt_succ_self _) HDW.out)) (Nat.le_of_lt (Nat.lt_trans HDL.out HLW.out)))))
        have hkN : (k : Int) < (N : Int) := by omega
        clear hrs hr1 hr2 hres hE hsr hEN hb40 hb41 hb42 hb43 hv0 hbb0 hs0 hl4 hgv
        go_wp2_with fail
        refine wp_region_late 10 12 [(11, (.cells #[.int .u32 0, .int .u32 0] 27))] [0, 1, 2, 3, 4, 5, 6, 7, 8, 9, 10, 11] ?A16 _ (by simp [edged]; rfl) rfl rfl (by kernel_rfl) (by kernel_rfl) (by kernel_rfl) ?hrun16 (by simp [quiets, mkOf]; rfl) ?walk16 ?fin16
        case hrun16 =>
          intro x hx
          simp only [List.mem_cons, List.not_mem_nil, or_false] at hx
          rcases hx with rfl
          exact ⟨_, rfl, rfl, fun a w => by simp [go_sem, ptr]⟩
        case walk16 =>
          intro W2 hW2
          obtain ⟨a0, a1, a2, a3, a4, a5, a6⟩ := KK.out W2 hW2
          have p0 := cell_regrown a0
          have p1 := cell_regrown a1
          have p2 := cell_regrown a2
          have p3 := cell_regrown a3
          have p4 := cell_regrown a4
          have p5 := cell_regrown a5
          have p6 := cell_regrown a6
          repeat (go_big_quiet_step (first
            | (go_at_call 89; with_reducible exact Calls.regrown_of (HSR.out _ (hW2.trans ((below_regrown _ _ _).mono hW2.size))))))
          refine wpQuiet_nil ?_
          rfl
        intro bs w5' hb hF hN'
        obtain ⟨hq, hqb⟩ := hF (11, (.cells #[.int .u32 0, .int .u32 0] 27)) (by simp)
        simp only [List.map_cons, List.map_nil, List.foldr_cons, List.foldr_nil] at *
        generalize bs 11 = q at *
        have HB5 := Lib.hid (hb.setCell2 hq (.int .u32 (rp.toNat : Int)) (.int .u32 (rm.toNat : Int)))
        have R3 := Lib.hid (two_set (x' := .int .u32 (rp.toNat : Int)) (y' := .int .u32 (rm.toNat : Int)) hqb)
        have c0 := cell_block hqb (o := 0) rfl
        have c1 := cell_block hqb (o := 1) rfl
        have f0 := frozen_block hqb (o := 0)
        have f1 := frozen_block hqb (o := 1)
        clear bs hF hN' hb hqb KK HSR
        simp only [dstOf, ptr, Act.put, List.getElem?_toArray, List.getElem?_cons_succ, List.getElem?_cons_zero, Option.bind_some, List.setIfInBounds_toArray, List.set_cons_zero, List.set_cons_succ, List.drop_succ_cons, List.drop_zero]
        go_wp2_with fail
        refine ⟨rfl, ?_⟩
        generalize ((w5'.setCell ⟨q, 0, none⟩ (.int .u32 (rp.toNat : Int))).setCell ⟨q, 1, none⟩ (.int .u32 (rm.toNat : Int))) = w6 at *
        clear c0 c1 f0 f1
        rcases rb with _ | _
        · go_wp2_with fail
          refine ⟨⟨k + 1, by omega, congrArg _ (by omega), fun n hn => ?_, HW.out.trans (HB5.out.mono HW.out.size)⟩, by simp [intOf]; omega⟩
          by_cases he : n < k
          · exact HNO.out n he
          · obtain rfl : n = k := by omega
            have h2 := HR2.out
            rw [HRS.out]
            cases res with
            | none => rfl
            | some r => cases h2
        · have j0 := cell_block R3.out (o := 0) rfl
          have j1 := cell_block R3.out (o := 1) rfl
          have kr := (HB5.out.block _ (Array.getElem?_eq_some_iff.1 K1R.out).1).trans K1R.out
          have r0 := cell_block kr (o := 0) rfl
          have r1 := cell_block kr (o := 1) rfl
          have f0 := frozen_block kr (o := 0)
          have f1 := frozen_block kr (o := 1)
          have hRES : RES = (rp, rm) := by
            have h1 := HR1.out
            have h2 := HR2.out
            have h3 : srch o vs k (bhd o []) = some (rp, rm) := by
              rw [HRS.out]
              cases res with
              | none => cases h2
              | some r => rw [h1]; rfl
            rw [HSH.out, find_first _ vs.length k (by rw [HN.out]; exact hlt) (rp, rm) HNO.out h3]
            rfl
          have hRES2 := Lib.hid hRES
          clear hRES
          go_wp2_with fail
          have hRES := hRES2.out
          have kd := (HB5.out.block D (Array.getElem?_eq_some_iff.1 KDR.out).1).trans KDR.out
          have hdw := HDW.out
          have hK3 := ((KeepsOthers.setCell w6 ⟨w.heap.size + 1, 0, none⟩ (.int .u32 (rp.toNat : Int))).trans (KeepsOthers.setCell _ ⟨w.heap.size + 1, 1, none⟩ (.int .u32 (rm.toNat : Int)))).same D _ kd rfl
          refine ⟨by simp, .inl ⟨_, _, rfl, run_takeDeferred hK3, ?_⟩⟩
          generalize hW4 : World.putObj _ D _ = W4
          have c1 : W4.cell? ⟨w.heap.size + 1, 0, none⟩ = some (.int .u32 (rp.toNat : Int)) := by
            rw [← hW4, World.cell?_of_block (World.putObj_heap_other (by simp only []; omega))]; exact cell_block (two_set kr) rfl
          have c2 : W4.cell? ⟨w.heap.size + 1, 1, none⟩ = some (.int .u32 (rm.toNat : Int)) := by
            rw [← hW4, World.cell?_of_block (World.putObj_heap_other (by simp only []; omega))]; exact cell_block (two_set kr) rfl
          have hb4 : Below w.heap.size w W4 := by
            rw [← hW4]
            exact ((HBWR.out.trans (HB5.out.mono HBWR.out.size)).setCell2 (Nat.le_succ _) _ _).trans (belowK_b (w := w) (Nat.le_refl _) _ D _ _ (by omega) hK3 rfl rfl)
          refine ⟨.agg #[.int .u32 (rp.toNat : Int), .int .u32 (rm.toNat : Int)], ?_, ?_, hb4⟩
          · simp [results, Tryd.results56, go_sem, c1, c2]
          · rw [hRES]
      · obtain rfl : k = N := by omega
        have k0r := (HW.out.block _ (Array.getElem?_eq_some_iff.1 K0W.out).1).trans K0W.out
        have kr := (HW.out.block _ (Array.getElem?_eq_some_iff.1 K1W.out).1).trans K1W.out
        have j0 : wr.cell? ⟨w.heap.size, 0, none⟩ = some (.int .u32 (c.1.toNat : Int)) := cell_block k0r rfl
        have j1 : wr.cell? ⟨w.heap.size, 1, none⟩ = some (.int .u32 (c.2.toNat : Int)) := cell_block k0r rfl
        have r0 : wr.cell? ⟨w.heap.size + 1, 0, none⟩ = some (.int .u32 0) := cell_block kr rfl
        have r1 : wr.cell? ⟨w.heap.size + 1, 1, none⟩ = some (.int .u32 0) := cell_block kr rfl
        have f0 := frozen_block kr (o := 0)
        have f1 := frozen_block kr (o := 1)
        have hRES : RES = c := by
          rw [HSH.out, find_none _ vs.length (fun n hn => HNO.out n (by have := HN.out; omega))]
          rfl
        have hRES2 := Lib.hid hRES
        clear hRES
        go_wp2_with fail
        have hRES := hRES2.out
        have kd := (HW.out.block D (Array.getElem?_eq_some_iff.1 HKD.out).1).trans HKD.out
        have hdw := HDW.out
        have hK3 := ((KeepsOthers.setCell wr ⟨w.heap.size + 1, 0, none⟩ (.int .u32 (c.1.toNat : Int))).trans (KeepsOthers.setCell _ ⟨w.heap.size + 1, 1, none⟩ (.int .u32 (c.2.toNat : Int)))).same D _ kd rfl
        refine ⟨by simp, .inl ⟨_, _, rfl, run_takeDeferred hK3, ?_⟩⟩
        generalize hW4 : World.putObj _ D _ = W4
        have c1 : W4.cell? ⟨w.heap.size + 1, 0, none⟩ = some (.int .u32 (c.1.toNat : Int)) := by
          rw [← hW4, World.cell?_of_block (World.putObj_heap_other (by simp only []; omega))]; exact cell_block (two_set kr) rfl
        have c2 : W4.cell? ⟨w.heap.size + 1, 1, none⟩ = some (.int .u32 (c.2.toNat : Int)) := by
          rw [← hW4, World.cell?_of_block (World.putObj_heap_other (by simp only []; omega))]; exact cell_block (two_set kr) rfl
        have hb4 : Below w.heap.size w W4 := by
          rw [← hW4]
          exact ((HBW.out.trans (HW.out.mono (by have := HDW.out; have := HDL.out; have := HLW.out; omega))).setCell2 (Nat.le_succ _) _ _).trans (belowK_b (w := w) (Nat.le_refl _) _ D _ _ (by omega) hK3 rfl rfl)
        refine ⟨.agg #[.int .u32 (c.1.toNat : Int), .int .u32 (c.2.toNat : Int)], ?_, ?_, hb4⟩
        · simp [results, Tryd.results56, go_sem, c1, c2]
        · rw [hRES]
  case stop =>
    rintro D c pre W _ _ h _
    exact h.elim
end Go.Proofs.YtpnmapfabjdfjaaDoor
