/-
  Lemmas that the theorem of this claim rests on: 1 texts, one behind the other.
-/
import Derived.Test.YtmobilppakjihaaDoorM26
set_option linter.unusedSimpArgs false
set_option linter.unusedVariables false
/-
  PatsFinds.
-/
namespace Go.Proofs.YtmobilppakjihaaDoor
open Go.RowKit Go.Sort
set_option maxRecDepth 100000 in
set_option maxHeartbeats 8000000 in
theorem pfinds_law (d : Nd) (k : Fo) (ss : List Snd) (sv : Value) (at' : Int) (w : World) (hp : Pt w d k) (hW : Wd w sv ss) (hT : Tab64 w) (ht0 : 0 < w.heap.size) :
    Gives 5 #[ndV d, sv, .int .i64 at'] w (.bool true) := by
  unfold Gives
  have hwk : Hid (∀ W : World, Below w.heap.size w W → Gives 22 #[] W (.bool true)) := fun W hb => works_any W (hT.below hb ht0) (by have := hb.size; omega)
  have hA := fun (W : World) (hb : Below w.heap.size w W) => matches_any d k ss sv W (hp.below hb) (hW.below hb) (hT.below hb ht0) (by have := hb.size; omega)
  have hB := fun (W : World) (hb : Below w.heap.size w W) => rmatches_any d k ss sv W (hp.below hb) (hW.below hb)
  have hC := fun (W : World) (hb : Below w.heap.size w W) => find_anyP d k ss sv at' W (hp.below hb) (hW.below hb) (hT.below hb ht0) (by have := hb.size; omega)
  have hD := fun (W : World) (hb : Below w.heap.size w W) => rfind_any d k ss sv at' W (hp.below hb) (hW.below hb)
  have hcp := fun (h : ss.length ≤ 300) (W : World) (hb : Below w.heap.size w W) => copy_any ss sv (by omega) W (hW.below hb)
  have hwd := fun (W : World) (hb : Below w.heap.size w W) => hW.below hb
  obtain ⟨wo, wc, rfl, lw, mw, -⟩ := hW.open
  obtain ⟨ao, cap, hsl, -, -, -⟩ := hp.open
  obtain ⟨⟨ra, rb, rc⟩, hR⟩ : ∃ R, fiR d k ss at' = R := ⟨_, rfl⟩
  rw [hR] at hC hD
  simp only at hC hD
  generalize mtsB d k ss = Y at *
  generalize mtE d k ss = X at *
  generalize maE d k ss at' = E at *
  obtain ⟨L, hL⟩ : ∃ L, ss.length = L := ⟨_, rfl⟩
  rw [hL] at hA hB hC hD hcp hwd ⊢
  obtain ⟨kind, ⟨p, m⟩, neg, mi, ma, sl⟩ := d
  simp only at hsl
  subst hsl
  obtain ⟨kl, hkl⟩ : ∃ kl, k.len = kl := ⟨_, rfl⟩
  rw [hkl] at hA hB hC hD ⊢
  unfold ndV at hA hB hC hD ⊢
  simp only at hA hB hC hD ⊢
  have HA := Lib.hid hA; have HBB := Lib.hid hB; have HC := Lib.hid hC; have HD := Lib.hid hD; have HWD := Lib.hid hwd; have HL := Lib.hid hL
  clear hA hB hC hD hp hW hT ht0 hL hkl lw mw hwd hR
  have R0 := Lib.hid (World.alloc_heap_new w (.cells #[.int .i64 kind, .int .u32 (p.toNat : Int), .int .u32 (m.toNat : Int), .bool neg, .int .i64 mi, .int .i64 ma, .slice ao kl cap] 27))
  have HB0 := Lib.hid (show Below w.heap.size w (w.alloc (.cells #[.int .i64 kind, .int .u32 (p.toNat : Int), .int .u32 (m.toNat : Int), .bool neg, .int .i64 mi, .int .i64 ma, .slice ao kl cap] 27)) by go_grown)
  by_cases h300 : L ≤ 300
  · have h3i : ¬ (300 : Int) < (L : Int) := by omega
    have h3n : ¬ 300 < L := by omega
    have HCP := Lib.hid (hcp h300)
    clear h300 hcp
    go_enter Tryd.func5, Tryd.ntmps5
    go_wp2_with fail
    generalize (w.alloc (.cells #[.int .i64 kind, .int .u32 (p.toNat : Int), .int .u32 (m.toNat : Int), .bool neg, .int .i64 mi, .int .i64 ma, .slice ao kl cap] 27)) = v0 at *
    go_at_call 28
    refine (HCP.out _ HB0.out).mono ?_
    rintro e w1 ⟨cv, rfl, ho, hb⟩
    have hwo := ho.wd
    obtain ⟨co, cc, hcv, -, -, -⟩ := hwo.open
    rw [HL.out] at hcv
    subst hcv
    have I1 := Lib.hid hwo
    have HB1 := Lib.hid (HB0.out.trans (hb.mono HB0.out.size))
    have R1 := Lib.hid ((hb.block _ (Array.getElem?_eq_some_iff.1 R0.out).1).trans R0.out)
    clear ho hwo hb HB0 R0 HCP
    have g0 := cell_block R1.out (o := 0) rfl; have g1 := cell_block R1.out (o := 1) rfl; have g2 := cell_block R1.out (o := 2) rfl; have g3 := cell_block R1.out (o := 3) rfl; have g4 := cell_block R1.out (o := 4) rfl; have g5 := cell_block R1.out (o := 5) rfl; have g6 := cell_block R1.out (o := 6) rfl
    go_wp2_with fail
    go_at_call 29
    refine Gives.then (HA.out _ HB1.out) ?_
    intro w2 hb
    have HB2 := Lib.hid (HB1.out.trans (hb.mono HB1.out.size))
    have R2 := Lib.hid ((hb.block _ (Array.getElem?_eq_some_iff.1 R1.out).1).trans R1.out)
    have I1_n := Lib.hid (I1.out.below hb); clear I1; have I1 := I1_n; clear I1_n
    clear hb HB1 R1 HA g0 g1 g2 g3 g4 g5 g6
    have g0 := cell_block R2.out (o := 0) rfl; have g1 := cell_block R2.out (o := 1) rfl; have g2 := cell_block R2.out (o := 2) rfl; have g3 := cell_block R2.out (o := 3) rfl; have g4 := cell_block R2.out (o := 4) rfl; have g5 := cell_block R2.out (o := 5) rfl; have g6 := cell_block R2.out (o := 6) rfl
    go_wp2_with fail
    go_at_call 30
    refine Gives.then (HBB.out _ HB2.out) ?_
    intro w3 hb
    have HB3 := Lib.hid (HB2.out.trans (hb.mono HB2.out.size))
    have R3 := Lib.hid ((hb.block _ (Array.getElem?_eq_some_iff.1 R2.out).1).trans R2.out)
    have I1_n := Lib.hid (I1.out.below hb); clear I1; have I1 := I1_n; clear I1_n
    clear hb HB2 R2 HBB g0 g1 g2 g3 g4 g5 g6
    have g0 := cell_block R3.out (o := 0) rfl; have g1 := cell_block R3.out (o := 1) rfl; have g2 := cell_block R3.out (o := 2) rfl; have g3 := cell_block R3.out (o := 3) rfl; have g4 := cell_block R3.out (o := 4) rfl; have g5 := cell_block R3.out (o := 5) rfl; have g6 := cell_block R3.out (o := 6) rfl
    go_wp2_with fail
    go_at_call 31
    refine Gives.then (HC.out _ HB3.out) ?_
    intro w4 hb
    have HB4 := Lib.hid (HB3.out.trans (hb.mono HB3.out.size))
    have R4 := Lib.hid ((hb.block _ (Array.getElem?_eq_some_iff.1 R3.out).1).trans R3.out)
    have I1_n := Lib.hid (I1.out.below hb); clear I1; have I1 := I1_n; clear I1_n
    clear hb HB3 R3 HC g0 g1 g2 g3 g4 g5 g6
    have g0 := cell_block R4.out (o := 0) rfl; have g1 := cell_block R4.out (o := 1) rfl; have g2 := cell_block R4.out (o := 2) rfl; have g3 := cell_block R4.out (o := 3) rfl; have g4 := cell_block R4.out (o := 4) rfl; have g5 := cell_block R4.out (o := 5) rfl; have g6 := cell_block R4.out (o := 6) rfl
    go_wp2_with fail
    go_at_call 32
    refine Gives.then (HD.out _ HB4.out) ?_
    intro w5 hb
    have HB5 := Lib.hid (HB4.out.trans (hb.mono HB4.out.size))
    have R5 := Lib.hid ((hb.block _ (Array.getElem?_eq_some_iff.1 R4.out).1).trans R4.out)
    have I1_n := Lib.hid (I1.out.below hb); clear I1; have I1 := I1_n; clear I1_n
    clear hb HB4 R4 HD g0 g1 g2 g3 g4 g5 g6
    have g0 := cell_block R5.out (o := 0) rfl; have g1 := cell_block R5.out (o := 1) rfl; have g2 := cell_block R5.out (o := 2) rfl; have g3 := cell_block R5.out (o := 3) rfl; have g4 := cell_block R5.out (o := 4) rfl; have g5 := cell_block R5.out (o := 5) rfl; have g6 := cell_block R5.out (o := 6) rfl
    go_wp2_with (first
      | (go_at_call 33; with_reducible refine Gives.then (rEqual_any ss ss _ _ _ (HWD.out _ HB5.out) I1.out) ?_; rw [decide_eq_true (rfl : ss = ss)]; intro w6 hb6; have HB6 := Lib.hid (HB5.out.trans (hb6.mono HB5.out.size)); clear hb6)
      | (go_at_call 22; refine Gives.then (hwk.out _ HB6.out) ?_; intro w7 hb7; have HB7 := Lib.hid (HB6.out.trans (hb7.mono HB6.out.size)); clear hb7))
    go_returns
    exact ⟨rfl, HB7.out⟩
  · have h3i : (300 : Int) < (L : Int) := by omega
    have h3n : 300 < L := by omega
    clear h300
    go_enter Tryd.func5, Tryd.ntmps5
    go_wp2_with (go_at_call 22; refine Gives.then (hwk.out _ HB0.out) ?_; intro w9 hb9)
    go_returns
    exact ⟨rfl, HB0.out.trans (hb9.mono HB0.out.size)⟩
end Go.Proofs.YtmobilppakjihaaDoor
