/-
  Lemmas that the theorem of this claim rests on: 1 texts, one behind the other.
-/
import Derived.Test.YtmobilppakjihaaDoorM26
set_option linter.unusedSimpArgs false
set_option linter.unusedVariables false
/-
  PatsEnds.
-/
namespace Go.Proofs.YtmobilppakjihaaDoor
open Go.RowKit Go.Sort
set_option maxRecDepth 100000 in
set_option maxHeartbeats 8000000 in
theorem pends_law (d : Nd) (k : Fo) (ss : List Snd) (sv : Value) (at' : Int) (w : World) (hp : Pt w d k) (hW : Wd w sv ss) (hT : Tab64 w) (ht0 : 0 < w.heap.size) :
    Gives 4 #[ndV d, sv, .int .i64 at'] w (.bool true) := by
  unfold Gives
  have hwk : Hid (∀ W : World, Below w.heap.size w W → Gives 22 #[] W (.bool true)) := fun W hb => works_any W (hT.below hb ht0) (by have := hb.size; omega)
  have hA := fun (W : World) (hb : Below w.heap.size w W) => ends_anyP d k ss sv at' W (hp.below hb) (hW.below hb) (hT.below hb ht0) (by have := hb.size; omega)
  have hB := fun (W : World) (hb : Below w.heap.size w W) => rends_any d k ss sv at' W (hp.below hb) (hW.below hb)
  have hC := fun (W : World) (hb : Below w.heap.size w W) => begins_any d k ss sv at' W (hp.below hb) (hW.below hb) (hT.below hb ht0) (by have := hb.size; omega)
  have hD := fun (W : World) (hb : Below w.heap.size w W) => rbegins_any d k ss sv at' W (hp.below hb) (hW.below hb)
  obtain ⟨wo, wc, rfl, lw, mw, -⟩ := hW.open
  obtain ⟨ao, cap, hsl, -, -, -⟩ := hp.open
  generalize enL d k ss at' = X at *
  generalize bgL d k ss at' = Y at *
  generalize maE d k ss at' = E at *
  obtain ⟨nx, hnx⟩ : ∃ nx, X.length = nx := ⟨_, rfl⟩
  obtain ⟨ny, hny⟩ : ∃ ny, Y.length = ny := ⟨_, rfl⟩
  obtain ⟨L, hL⟩ : ∃ L, ss.length = L := ⟨_, rfl⟩
  rw [hL] at hA hB hC hD ⊢
  obtain ⟨kind, ⟨p, m⟩, neg, mi, ma, sl⟩ := d
  simp only at hsl
  subst hsl
  obtain ⟨kl, hkl⟩ : ∃ kl, k.len = kl := ⟨_, rfl⟩
  rw [hkl] at hA hB hC hD ⊢
  unfold ndV at hA hB hC hD ⊢
  simp only at hA hB hC hD ⊢
  have HA := Lib.hid hA; have HBB := Lib.hid hB; have HC := Lib.hid hC; have HD := Lib.hid hD; have HNX := Lib.hid hnx; have HNY := Lib.hid hny
  clear hA hB hC hD hp hW hT ht0 hL hkl lw mw hnx hny
  have R0 := Lib.hid (World.alloc_heap_new w (.cells #[.int .i64 kind, .int .u32 (p.toNat : Int), .int .u32 (m.toNat : Int), .bool neg, .int .i64 mi, .int .i64 ma, .slice ao kl cap] 27))
  have HB0 := Lib.hid (show Below w.heap.size w (w.alloc (.cells #[.int .i64 kind, .int .u32 (p.toNat : Int), .int .u32 (m.toNat : Int), .bool neg, .int .i64 mi, .int .i64 ma, .slice ao kl cap] 27)) by go_grown)
  by_cases h300 : L ≤ 300
  · have h3i : ¬ (300 : Int) < (L : Int) := by omega
    have h3n : ¬ 300 < L := by omega
    have hEE : (E == E) = true := by simp
    clear h300
    go_enter Tryd.func4, Tryd.ntmps4
    go_wp2_with fail
    generalize (w.alloc (.cells #[.int .i64 kind, .int .u32 (p.toNat : Int), .int .u32 (m.toNat : Int), .bool neg, .int .i64 mi, .int .i64 ma, .slice ao kl cap] 27)) = v0 at *
    have g0 := cell_block R0.out (o := 0) rfl; have g1 := cell_block R0.out (o := 1) rfl; have g2 := cell_block R0.out (o := 2) rfl; have g3 := cell_block R0.out (o := 3) rfl; have g4 := cell_block R0.out (o := 4) rfl; have g5 := cell_block R0.out (o := 5) rfl; have g6 := cell_block R0.out (o := 6) rfl
    go_wp2_with fail
    go_at_call 23
    refine (HA.out _ HB0.out).mono ?_
    rintro e w1 ⟨va, rfl, ho, hb⟩
    obtain ⟨vao, vac, hov⟩ := ho.slice
    rw [HNX.out] at hov
    subst hov
    have I1 := Lib.hid ho.is
    have HB1 := Lib.hid (HB0.out.trans (hb.mono HB0.out.size))
    have R1 := Lib.hid ((hb.block _ (Array.getElem?_eq_some_iff.1 R0.out).1).trans R0.out)

    clear ho hb HB0 R0 HA g0 g1 g2 g3 g4 g5 g6
    have g0 := cell_block R1.out (o := 0) rfl; have g1 := cell_block R1.out (o := 1) rfl; have g2 := cell_block R1.out (o := 2) rfl; have g3 := cell_block R1.out (o := 3) rfl; have g4 := cell_block R1.out (o := 4) rfl; have g5 := cell_block R1.out (o := 5) rfl; have g6 := cell_block R1.out (o := 6) rfl
    go_wp2_with fail
    go_at_call 24
    refine (HBB.out _ HB1.out).mono ?_
    rintro e w2 ⟨vb, rfl, ho, hb⟩
    obtain ⟨vbo, vbc, hov⟩ := ho.slice
    rw [HNX.out] at hov
    subst hov
    have I2 := Lib.hid ho.is
    have HB2 := Lib.hid (HB1.out.trans (hb.mono HB1.out.size))
    have R2 := Lib.hid ((hb.block _ (Array.getElem?_eq_some_iff.1 R1.out).1).trans R1.out)
    have I1_n := Lib.hid (I1.out.below hb); clear I1; have I1 := I1_n; clear I1_n
    clear ho hb HB1 R1 HBB g0 g1 g2 g3 g4 g5 g6
    have g0 := cell_block R2.out (o := 0) rfl; have g1 := cell_block R2.out (o := 1) rfl; have g2 := cell_block R2.out (o := 2) rfl; have g3 := cell_block R2.out (o := 3) rfl; have g4 := cell_block R2.out (o := 4) rfl; have g5 := cell_block R2.out (o := 5) rfl; have g6 := cell_block R2.out (o := 6) rfl
    go_wp2_with fail
    go_at_call 25
    refine (HC.out _ HB2.out).mono ?_
    rintro e w3 ⟨vc, rfl, ho, hb⟩
    obtain ⟨vco, vcc, hov⟩ := ho.slice
    rw [HNY.out] at hov
    subst hov
    have I3 := Lib.hid ho.is
    have HB3 := Lib.hid (HB2.out.trans (hb.mono HB2.out.size))
    have R3 := Lib.hid ((hb.block _ (Array.getElem?_eq_some_iff.1 R2.out).1).trans R2.out)
    have I1_n := Lib.hid (I1.out.below hb); clear I1; have I1 := I1_n; clear I1_n
    have I2_n := Lib.hid (I2.out.below hb); clear I2; have I2 := I2_n; clear I2_n
    clear ho hb HB2 R2 HC g0 g1 g2 g3 g4 g5 g6
    have g0 := cell_block R3.out (o := 0) rfl; have g1 := cell_block R3.out (o := 1) rfl; have g2 := cell_block R3.out (o := 2) rfl; have g3 := cell_block R3.out (o := 3) rfl; have g4 := cell_block R3.out (o := 4) rfl; have g5 := cell_block R3.out (o := 5) rfl; have g6 := cell_block R3.out (o := 6) rfl
    go_wp2_with fail
    go_at_call 26
    refine (HD.out _ HB3.out).mono ?_
    rintro e w4 ⟨vd, rfl, ho, hb⟩
    obtain ⟨vdo, vdc, hov⟩ := ho.slice
    rw [HNY.out] at hov
    subst hov
    have I4 := Lib.hid ho.is
    have HB4 := Lib.hid (HB3.out.trans (hb.mono HB3.out.size))
    have R4 := Lib.hid ((hb.block _ (Array.getElem?_eq_some_iff.1 R3.out).1).trans R3.out)
    have I1_n := Lib.hid (I1.out.below hb); clear I1; have I1 := I1_n; clear I1_n
    have I2_n := Lib.hid (I2.out.below hb); clear I2; have I2 := I2_n; clear I2_n
    have I3_n := Lib.hid (I3.out.below hb); clear I3; have I3 := I3_n; clear I3_n
    clear ho hb HB3 R3 HD g0 g1 g2 g3 g4 g5 g6
    have g0 := cell_block R4.out (o := 0) rfl; have g1 := cell_block R4.out (o := 1) rfl; have g2 := cell_block R4.out (o := 2) rfl; have g3 := cell_block R4.out (o := 3) rfl; have g4 := cell_block R4.out (o := 4) rfl; have g5 := cell_block R4.out (o := 5) rfl; have g6 := cell_block R4.out (o := 6) rfl
    go_wp2_with (first
      | (go_at_call 27; first
          | (with_reducible refine Gives.then (places_any X X _ _ _ I1.out I2.out) ?_; rw [decide_eq_true (rfl : X = X)]; intro w5 hb5; have HB5 := Lib.hid (HB4.out.trans (hb5.mono HB4.out.size)); have J3 := Lib.hid (I3.out.below hb5); have J4 := Lib.hid (I4.out.below hb5); clear hb5)
          | (with_reducible refine Gives.then (places_any Y Y _ _ _ J3.out J4.out) ?_; rw [decide_eq_true (rfl : Y = Y)]; intro w6 hb6; have HB6 := Lib.hid (HB5.out.trans (hb6.mono HB5.out.size)); clear hb6))
      | (go_at_call 22; refine Gives.then (hwk.out _ HB6.out) ?_; intro w7 hb7; have HB7 := Lib.hid (HB6.out.trans (hb7.mono HB6.out.size)); clear hb7))
    go_returns
    exact ⟨rfl, HB7.out⟩
  · have h3i : (300 : Int) < (L : Int) := by omega
    have h3n : 300 < L := by omega
    clear h300
    go_enter Tryd.func4, Tryd.ntmps4
    go_wp2_with (go_at_call 22; refine Gives.then (hwk.out _ HB0.out) ?_; intro w9 hb9)
    go_returns
    exact ⟨rfl, HB0.out.trans (hb9.mono HB0.out.size)⟩
end Go.Proofs.YtmobilppakjihaaDoor
