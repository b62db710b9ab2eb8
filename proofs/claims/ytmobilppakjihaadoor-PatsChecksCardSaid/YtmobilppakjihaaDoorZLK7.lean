/-
  Lemmas that the theorem of this claim rests on: 1 texts, one behind the other.
-/
import Derived.Test.YtmobilppakjihaaDoorM27
import Derived.Test.YtmobilppakjihaaDoorM26
import Derived.Test.YtmobilppakjihaaDoorM28
set_option linter.unusedSimpArgs false
set_option linter.unusedVariables false
/-
  PatsChecks.
-/
namespace Go.Proofs.YtmobilppakjihaaDoor
open Go.RowKit Go.Sort
theorem eqv_self : ∀ f : Fo, f.eqv f = true
  | .nil => rfl
  | .cons d k r => by simp [Fo.eqv, eqv_self k, eqv_self r]
theorem eqB_self (d : Nd) (k : Fo) : eqB d k d k = (pkE d k == 0) := by
  have h : ptq d k d k = true := by simp [ptq, eqv_self]
  unfold eqB
  rw [h]
  by_cases h0 : pkE d k = 0
  · simp [h0]
  · simp [h0]
set_option maxRecDepth 100000 in
set_option maxHeartbeats 4000000 in
theorem rempty_any (d : Nd) (k : Fo) (w : World) (hp : Pt w d k) : Gives 19 #[ndV d] w (.bool (emB d k)) := by
  unfold Gives
  have hck := fun (W : World) (hb : Below w.heap.size w W) => rpcheck_any d k W (hp.below hb)
  have htb : mtE d k z2 = 0 → ∀ (W : World) (sv : Value), Below w.heap.size w W → Wd W sv z2 → Calls Tryd.prog 51 #[ndV d, sv] W fun e w' => ∃ g, e = .returned (.slice (some ⟨g, 0, none⟩) 3 3) ∧ w'.cell? ⟨g, 1, none⟩ = some (.int .u64 ((tabP z2 d k 1).toNat : Int)) ∧ Below W.heap.size W w' := fun hE W sv hb hW => by
    refine (rtable_any d k z2 sv W (hp.below hb) hW hE).mono ?_
    rintro e w' ⟨v, rfl, ⟨g, rfl, hr⟩, hb'⟩
    exact ⟨g, rfl, hr.cell (a := 1) (by decide), hb'⟩
  obtain ⟨ao, cap, hsl, -, -, -⟩ := hp.open
  have hz : mtE d k z2 = pkE d k := by
    unfold mtE
    by_cases h : pkE d k = 0
    · rw [if_pos h, h]; decide
    · rw [if_neg h]
  obtain ⟨R, hR⟩ : ∃ R, emB d k = R := ⟨_, rfl⟩
  have hR1 : R = (decide (pkE d k = 0) && (tabP z2 d k 1).getLsbD 1) := by rw [← hR, emB, hz]
  obtain ⟨T, hT⟩ : ∃ T, tabP z2 d k = T := ⟨_, rfl⟩
  obtain ⟨E, hE⟩ : ∃ E, pkE d k = E := ⟨_, rfl⟩
  rw [hz] at htb
  rw [hE] at hck htb hR1
  rw [hT] at htb hR1
  rw [hR]
  clear hz hR hT hE
  obtain ⟨kind, ⟨p, m⟩, neg, mi, ma, sl⟩ := d
  simp only at hsl
  subst hsl
  obtain ⟨kl, hkl⟩ : ∃ kl, k.len = kl := ⟨_, rfl⟩
  rw [hkl] at hck htb ⊢
  unfold ndV at hck htb ⊢
  simp only at hck htb ⊢
  have HCK := Lib.hid hck; have HTB := Lib.hid htb
  clear hck htb hp hkl
  have R0 := Lib.hid (World.alloc_heap_new w (.cells #[.int .i64 kind, .int .u32 (p.toNat : Int), .int .u32 (m.toNat : Int), .bool neg, .int .i64 mi, .int .i64 ma, .slice ao kl cap] 27))
  have HB0 := Lib.hid (show Below w.heap.size w (w.alloc (.cells #[.int .i64 kind, .int .u32 (p.toNat : Int), .int .u32 (m.toNat : Int), .bool neg, .int .i64 mi, .int .i64 ma, .slice ao kl cap] 27)) by go_grown)
  have hmk : ∀ w, Sem.run Tryd.prog (Instr.makeSlice 34 (Value.int IntKind.i64 2) (Value.int IntKind.i64 2)) w = .ok (.slice (some ⟨w.heap.size, 0, none⟩) 2 2) (w.alloc (.cells #[.int .u32 0, .int .u32 0, .int .u32 0, .int .u32 0] 24)) := fun _ => by kernel_rfl
  go_enter Tryd.func19, Tryd.ntmps19
  go_wp2_with fail
  generalize (w.alloc (.cells #[.int .i64 kind, .int .u32 (p.toNat : Int), .int .u32 (m.toNat : Int), .bool neg, .int .i64 mi, .int .i64 ma, .slice ao kl cap] 27)) = v0 at *
  go_at_call 15
  refine Gives.then (HCK.out _ HB0.out) ?_
  intro w1 hb1
  have HB1 := Lib.hid (HB0.out.trans (hb1.mono HB0.out.size))
  have R1 := Lib.hid ((hb1.block _ (Array.getElem?_eq_some_iff.1 R0.out).1).trans R0.out)
  have g0 := cell_block R1.out (o := 0) rfl; have g1 := cell_block R1.out (o := 1) rfl; have g2 := cell_block R1.out (o := 2) rfl; have g3 := cell_block R1.out (o := 3) rfl; have g4 := cell_block R1.out (o := 4) rfl; have g5 := cell_block R1.out (o := 5) rfl; have g6 := cell_block R1.out (o := 6) rfl
  clear hb1 R0 HB0 HCK
  by_cases hE : E = 0
  · subst hE
    replace HTB := Lib.hid (HTB.out rfl)
    have hR2 : R = (T 1).getLsbD 1 := by rw [hR1]; simp
    have hbit := has_nat (T 1) 1
    rw [← hR2] at hbit
    have hbit2 : (bits BinOp.and IntKind.u64 (((T 1).toNat : Int) / 2) 1 == 1) = R := by simpa using hbit
    clear hR1 hR2
    go_wp2_with fail
    have lR1 := (Array.getElem?_eq_some_iff.1 R1.out).1
    have gc0 : w1.cell? ⟨w.heap.size, 0, none⟩ = some (.int .i64 kind) := g0
    have ga0 : ∀ O : Obj, (w1.alloc O).cell? ⟨w.heap.size, 0, none⟩ = some (.int .i64 kind) := fun O => keep_alloc (X := O) gc0 lR1
    have gc1 : w1.cell? ⟨w.heap.size, 1, none⟩ = some (.int .u32 (p.toNat : Int)) := g1
    have ga1 : ∀ O : Obj, (w1.alloc O).cell? ⟨w.heap.size, 1, none⟩ = some (.int .u32 (p.toNat : Int)) := fun O => keep_alloc (X := O) gc1 lR1
    have gc2 : w1.cell? ⟨w.heap.size, 2, none⟩ = some (.int .u32 (m.toNat : Int)) := g2
    have ga2 : ∀ O : Obj, (w1.alloc O).cell? ⟨w.heap.size, 2, none⟩ = some (.int .u32 (m.toNat : Int)) := fun O => keep_alloc (X := O) gc2 lR1
    have gc3 : w1.cell? ⟨w.heap.size, 3, none⟩ = some (.bool neg) := g3
    have ga3 : ∀ O : Obj, (w1.alloc O).cell? ⟨w.heap.size, 3, none⟩ = some (.bool neg) := fun O => keep_alloc (X := O) gc3 lR1
    have gc4 : w1.cell? ⟨w.heap.size, 4, none⟩ = some (.int .i64 mi) := g4
    have ga4 : ∀ O : Obj, (w1.alloc O).cell? ⟨w.heap.size, 4, none⟩ = some (.int .i64 mi) := fun O => keep_alloc (X := O) gc4 lR1
    have gc5 : w1.cell? ⟨w.heap.size, 5, none⟩ = some (.int .i64 ma) := g5
    have ga5 : ∀ O : Obj, (w1.alloc O).cell? ⟨w.heap.size, 5, none⟩ = some (.int .i64 ma) := fun O => keep_alloc (X := O) gc5 lR1
    have gc6 : w1.cell? ⟨w.heap.size, 6, none⟩ = some (.slice ao kl cap) := g6
    have ga6 : ∀ O : Obj, (w1.alloc O).cell? ⟨w.heap.size, 6, none⟩ = some (.slice ao kl cap) := fun O => keep_alloc (X := O) gc6 lR1
    clear g0 g1 g2 g3 g4 g5 g6
    go_region_with (first | (go_at_call 51; refine calls_gen ?_; intro V hV; have hv : Below w1.heap.size w1 V := (by rw [hV]; go_grown); have b9 : V.heap[w1.heap.size]? = some (.cells #[.int .u32 0, .int .u32 0, .int .u32 0, .int .u32 0] 24) := (by rw [hV]; exact World.alloc_heap_new _ _); clear hV; refine (HTB.out V _ (HB1.out.trans (hv.mono HB1.out.size)) (wd_z2 b9)).mono ?_; rintro e w2 ⟨g, rfl, c1, hb2⟩; have HB2 := Lib.hid ((HB1.out.trans (hv.mono HB1.out.size)).trans (hb2.mono ((HB1.out.trans (hv.mono HB1.out.size)).size))); clear hb2 hv b9))
    all_goals
      go_wp2_with fail
      go_returns
      exact ⟨rfl, HB2.out⟩
  · have hEi : (E != 0) = true := int_ne hE
    have hR2 : R = false := by rw [hR1]; simp [hE]
    subst hR2
    clear hR1 hE HTB hmk
    go_wp2_with fail
    go_returns
    exact ⟨rfl, HB1.out⟩
set_option maxRecDepth 100000 in
set_option maxHeartbeats 8000000 in
theorem checks_any (d1 : Nd) (k1 : Fo) (d2 : Nd) (k2 : Fo) (w : World) (hp1 : Pt w d1 k1) (hp2 : Pt w d2 k2) (hT : Tab64 w) (ht0 : 0 < w.heap.size) :
    Gives 3 #[ndV d1, ndV d2] w (.bool true) := by
  unfold Gives
  have hA := fun (W : World) (hb : Below w.heap.size w W) => pcheck_any d1 k1 W (hp1.below hb)
  have hB := fun (W : World) (hb : Below w.heap.size w W) => rpcheck_any d1 k1 W (hp1.below hb)
  have hC := fun (W : World) (hb : Below w.heap.size w W) => size_any d1 k1 W (hp1.below hb)
  have hD := fun (W : World) (hb : Below w.heap.size w W) => rsize_any d1 k1 W (hp1.below hb)
  have hF := fun (W : World) (hb : Below w.heap.size w W) => empty_anyP d1 k1 W (hp1.below hb) (hT.below hb ht0) (by have := hb.size; omega)
  have hG := fun (W : World) (hb : Below w.heap.size w W) => rempty_any d1 k1 W (hp1.below hb)
  have hH := fun (W : World) (hb : Below w.heap.size w W) => pequal_any d1 k1 d2 k2 W (hp1.below hb) (hp2.below hb)
  have hI := fun (W : World) (hb : Below w.heap.size w W) => requal06_any d1 k1 d2 k2 W (hp1.below hb) (hp2.below hb)
  have hJ := fun (W : World) (hb : Below w.heap.size w W) => pequal_any d2 k2 d1 k1 W (hp2.below hb) (hp1.below hb)
  have hK := fun (W : World) (hb : Below w.heap.size w W) => requal06_any d2 k2 d1 k1 W (hp2.below hb) (hp1.below hb)
  have hM := fun (W : World) (hb : Below w.heap.size w W) => pequal_any d1 k1 d1 k1 W (hp1.below hb) (hp1.below hb)
  have hwk : Hid (∀ W : World, Below w.heap.size w W → Gives 22 #[] W (.bool true)) := fun W hb => works_any W (hT.below hb ht0) (by have := hb.size; omega)
  rw [eqB_self] at hM
  obtain ⟨ao1, cap1, hsl1, -, -, -⟩ := hp1.open
  obtain ⟨ao2, cap2, hsl2, -, -, -⟩ := hp2.open
  generalize pkE d1 k1 = E at *
  generalize szP k1 = S at *
  generalize emB d1 k1 = B at *
  generalize eqB d1 k1 d2 k2 = Q1 at *
  generalize eqB d2 k2 d1 k1 = Q2 at *
  obtain ⟨kind1, ⟨p1, m1⟩, neg1, mi1, ma1, sl1⟩ := d1
  obtain ⟨kind2, ⟨p2, m2⟩, neg2, mi2, ma2, sl2⟩ := d2
  simp only at hsl1 hsl2
  subst hsl1
  subst hsl2
  obtain ⟨kl1, hkl1⟩ : ∃ kl, k1.len = kl := ⟨_, rfl⟩
  obtain ⟨kl2, hkl2⟩ : ∃ kl, k2.len = kl := ⟨_, rfl⟩
  rw [hkl1] at hA hB hC hD hF hG hH hI hJ hK hM ⊢
  rw [hkl2] at hH hI hJ hK ⊢
  unfold ndV at hA hB hC hD hF hG hH hI hJ hK hM ⊢
  simp only at hA hB hC hD hF hG hH hI hJ hK hM ⊢
  have HA := Lib.hid hA; have HBq := Lib.hid hB; have HC := Lib.hid hC; have HD := Lib.hid hD; have HF := Lib.hid hF; have HG := Lib.hid hG; have HH := Lib.hid hH; have HI := Lib.hid hI; have HJ := Lib.hid hJ; have HK := Lib.hid hK; have HM := Lib.hid hM
  clear hA hB hC hD hF hG hH hI hJ hK hM hp1 hp2 hT ht0 hkl1 hkl2
  have R1 := Lib.hid (show ((w.alloc (.cells #[.int .i64 kind1, .int .u32 (p1.toNat : Int), .int .u32 (m1.toNat : Int), .bool neg1, .int .i64 mi1, .int .i64 ma1, .slice ao1 kl1 cap1] 27)).alloc (.cells #[.int .i64 kind2, .int .u32 (p2.toNat : Int), .int .u32 (m2.toNat : Int), .bool neg2, .int .i64 mi2, .int .i64 ma2, .slice ao2 kl2 cap2] 27)).heap[w.heap.size]? = some (.cells #[.int .i64 kind1, .int .u32 (p1.toNat : Int), .int .u32 (m1.toNat : Int), .bool neg1, .int .i64 mi1, .int .i64 ma1, .slice ao1 kl1 cap1] 27) from (Below.heap_alloc _ _ _ (by rw [World.size_alloc]; omega)).trans (World.alloc_heap_new w _))
  have R2 := Lib.hid (show ((w.alloc (.cells #[.int .i64 kind1, .int .u32 (p1.toNat : Int), .int .u32 (m1.toNat : Int), .bool neg1, .int .i64 mi1, .int .i64 ma1, .slice ao1 kl1 cap1] 27)).alloc (.cells #[.int .i64 kind2, .int .u32 (p2.toNat : Int), .int .u32 (m2.toNat : Int), .bool neg2, .int .i64 mi2, .int .i64 ma2, .slice ao2 kl2 cap2] 27)).heap[w.heap.size + 1]? = some (.cells #[.int .i64 kind2, .int .u32 (p2.toNat : Int), .int .u32 (m2.toNat : Int), .bool neg2, .int .i64 mi2, .int .i64 ma2, .slice ao2 kl2 cap2] 27) from heap_alloc2_new w _ _)
  have HB0 := Lib.hid (show Below w.heap.size w ((w.alloc (.cells #[.int .i64 kind1, .int .u32 (p1.toNat : Int), .int .u32 (m1.toNat : Int), .bool neg1, .int .i64 mi1, .int .i64 ma1, .slice ao1 kl1 cap1] 27)).alloc (.cells #[.int .i64 kind2, .int .u32 (p2.toNat : Int), .int .u32 (m2.toNat : Int), .bool neg2, .int .i64 mi2, .int .i64 ma2, .slice ao2 kl2 cap2] 27)) by go_grown)
  have bE : (E == E) = true := by simp
  have bS : ((S : Int) == (S : Int)) = true := by simp
  have bB : (B == B) = true := by simp
  have bQ1 : (Q1 == Q1) = true := by simp
  have bQ2 : (Q2 == Q2) = true := by simp
  have bZ : ((E == 0) == (E == 0)) = true := by simp
  go_enter Tryd.func3, Tryd.ntmps3
  go_wp2_with fail
  generalize ((w.alloc (.cells #[.int .i64 kind1, .int .u32 (p1.toNat : Int), .int .u32 (m1.toNat : Int), .bool neg1, .int .i64 mi1, .int .i64 ma1, .slice ao1 kl1 cap1] 27)).alloc (.cells #[.int .i64 kind2, .int .u32 (p2.toNat : Int), .int .u32 (m2.toNat : Int), .bool neg2, .int .i64 mi2, .int .i64 ma2, .slice ao2 kl2 cap2] 27)) = v0 at *
  have g0 := cell_block R1.out (o := 0) rfl; have g1 := cell_block R1.out (o := 1) rfl; have g2 := cell_block R1.out (o := 2) rfl; have g3 := cell_block R1.out (o := 3) rfl; have g4 := cell_block R1.out (o := 4) rfl; have g5 := cell_block R1.out (o := 5) rfl; have g6 := cell_block R1.out (o := 6) rfl
  have h0 := cell_block R2.out (o := 0) rfl; have h1 := cell_block R2.out (o := 1) rfl; have h2 := cell_block R2.out (o := 2) rfl; have h3 := cell_block R2.out (o := 3) rfl; have h4 := cell_block R2.out (o := 4) rfl; have h5 := cell_block R2.out (o := 5) rfl; have h6 := cell_block R2.out (o := 6) rfl
  have yg0 := cell_regrown g0; have yg1 := cell_regrown g1; have yg2 := cell_regrown g2; have yg3 := cell_regrown g3; have yg4 := cell_regrown g4; have yg5 := cell_regrown g5; have yg6 := cell_regrown g6; have yh0 := cell_regrown h0; have yh1 := cell_regrown h1; have yh2 := cell_regrown h2; have yh3 := cell_regrown h3; have yh4 := cell_regrown h4; have yh5 := cell_regrown h5; have yh6 := cell_regrown h6
  clear g0 g1 g2 g3 g4 g5 g6 h0 h1 h2 h3 h4 h5 h6
  refine wp_region_quiet_below (by kernel_rfl) (by kernel_rfl) ?_
  try simp only [List.append]
  repeat (go_big_quiet_step (first
    | (go_at_call 14; first | (with_reducible exact Calls.regrown_of (HA.out _ (HB0.out.trans ((below_regrown _ _ _).mono HB0.out.size)))))
    | (go_at_call 15; first | (with_reducible exact Calls.regrown_of (HBq.out _ (HB0.out.trans ((below_regrown _ _ _).mono HB0.out.size)))))
    | (go_at_call 16; first | (with_reducible exact Calls.regrown_of (HC.out _ (HB0.out.trans ((below_regrown _ _ _).mono HB0.out.size)))))
    | (go_at_call 17; first | (with_reducible exact Calls.regrown_of (HD.out _ (HB0.out.trans ((below_regrown _ _ _).mono HB0.out.size)))))
    | (go_at_call 18; first | (with_reducible exact Calls.regrown_of (HF.out _ (HB0.out.trans ((below_regrown _ _ _).mono HB0.out.size)))))
    | (go_at_call 19; first | (with_reducible exact Calls.regrown_of (HG.out _ (HB0.out.trans ((below_regrown _ _ _).mono HB0.out.size)))))
    | (go_at_call 20; first | (with_reducible exact Calls.regrown_of (HH.out _ (HB0.out.trans ((below_regrown _ _ _).mono HB0.out.size)))) | (with_reducible exact Calls.regrown_of (HJ.out _ (HB0.out.trans ((below_regrown _ _ _).mono HB0.out.size)))) | (with_reducible exact Calls.regrown_of (HM.out _ (HB0.out.trans ((below_regrown _ _ _).mono HB0.out.size)))))
    | (go_at_call 21; first | (with_reducible exact Calls.regrown_of (HI.out _ (HB0.out.trans ((below_regrown _ _ _).mono HB0.out.size)))) | (with_reducible exact Calls.regrown_of (HK.out _ (HB0.out.trans ((below_regrown _ _ _).mono HB0.out.size)))))
    | (go_at_call 22; first | (with_reducible exact Calls.regrown_of (hwk.out _ (HB0.out.trans ((below_regrown _ _ _).mono HB0.out.size)))))))
  refine wpQuiet_nil ?_
  intro w1 hw1
  have HB1 := Lib.hid (HB0.out.trans (show Below w.heap.size v0 w1 from by obtain ⟨q, rfl⟩ := hw1; exact (below_regrown _ _ _).mono HB0.out.size))
  clear hw1 yg0 yg1 yg2 yg3 yg4 yg5 yg6 yh0 yh1 yh2 yh3 yh4 yh5 yh6
  go_wp2_with fail
  go_returns
  exact ⟨rfl, HB1.out⟩
end Go.Proofs.YtmobilppakjihaaDoor
