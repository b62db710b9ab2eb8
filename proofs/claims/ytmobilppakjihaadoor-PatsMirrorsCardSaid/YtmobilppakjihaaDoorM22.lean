/-
  Lemmas that the theorem of this claim rests on: 2 texts, one behind the other.
-/
import Derived.Test.YtmobilppakjihaaDoorM21
import Derived.Test.YtmobilppakjihaaDoorM9
set_option linter.unusedSimpArgs false
set_option linter.unusedVariables false
/-
  PatsBoth.
-/
namespace Go.Proofs.YtmobilppakjihaaDoor
open Go.RowKit Go.Sort
theorem begL_get (T : Tb) (e a : Nat) (h : (T a).getLsbD e = true) : ∀ n, a < n → (begL T e n)[(begL T e a).length]? = some a
  | 0, hn => by omega
  | n + 1, hn => by
    rw [begL_step]
    by_cases ha : a = n
    · subst ha
      rw [if_pos h, List.getElem?_append_right (Nat.le_refl _)]
      simp
    · have ih := begL_get T e a h n (by omega)
      have hl := (List.getElem?_eq_some_iff.1 ih).1
      rw [List.getElem?_append_left hl]
      exact ih
theorem begL_stable {T : Tb} {e L : Nat} (h : ∀ a, L < a → (T a).getLsbD e = false) : ∀ n, L + 1 ≤ n → begL T e n = begL T e (L + 1) := by
  intro n hn
  induction n with
  | zero => omega
  | succ n ih =>
    by_cases hx : n = L
    · rw [hx]
    · rw [begL_step, h n (by omega), ih (by omega)]
      simp
theorem Mat.open {W : World} {v : Value} {L : Nat} {T : Tb} (h : Mat W v L T) : ∃ b cap, v = .slice (some ⟨b, 0, none⟩) (L + 1) cap ∧ ∀ W', Below W.heap.size W W' → ∀ i, i ≤ L → ∃ c, W'.cell? ⟨b, i, none⟩ = some (.slice (some ⟨c, 0, none⟩) (L + 1) (L + 1)) ∧ ∀ j, j ≤ L → W'.cell? ⟨c, j, none⟩ = some (.bool ((T i).getLsbD j)) := by
  have hm := h
  obtain ⟨b, cap, h1, -⟩ := h
  subst h1
  refine ⟨b, cap, rfl, fun W' hb i hi => ?_⟩
  obtain ⟨b', cap', h1, _, _, _, h5⟩ := hm.below hb
  cases h1
  obtain ⟨c, c1, c2⟩ := h5 i hi
  exact ⟨c, c1, fun j hj => c2.cell hj⟩
set_option maxRecDepth 100000 in
set_option maxHeartbeats 8000000 in
theorem both_any (d : Nd) (k : Fo) (ss : List Snd) (sv : Value) (w : World) (hp : Pt w d k) (hW : Wd w sv ss) (hT : Tab64 w) (ht0 : 0 < w.heap.size) :
    Gives 8 #[ndV d, sv] w (.bool true) := by
  unfold Gives
  have hgd := fun (W : World) (hb : Below w.heap.size w W) => lgood_any d k ss sv W (hp.below hb) (hW.below hb)
  have hwk : Hid (∀ W : World, Below w.heap.size w W → Gives 22 #[] W (.bool true)) := fun W hb => works_any W (hT.below hb ht0) (by have := hb.size; omega)
  have hen := fun (hE : mtE d k ss = 0) (W : World) (hb : Below w.heap.size w W) => lends_any d k ss sv W (hp.below hb) (hW.below hb) (hT.below hb ht0) (by have := hb.size; omega) hE
  have hmt := fun (W : World) (hb : Below w.heap.size w W) => matches_any d k ss sv W (hp.below hb) (hW.below hb) (hT.below hb ht0) (by have := hb.size; omega)
  have hbg := fun (a : Nat) (W : World) (hb : Below w.heap.size w W) => begins_any d k ss sv (a : Int) W (hp.below hb) (hW.below hb) (hT.below hb ht0) (by have := hb.size; omega)
  obtain ⟨wo, wc, rfl, lw, mw, -⟩ := hW.open
  obtain ⟨ao, cap, hsl, -, -, -⟩ := hp.open
  by_cases hE : mtE d k ss = 0
  · have h32 := chk_len (node_ok hE).2
    have hma0 : ∀ a : Nat, a ≤ ss.length → maE d k ss (a : Int) = 0 := fun a ha => by
      unfold maE
      rw [if_pos hE, if_pos ⟨by omega, by omega⟩]
    replace hen := hen hE
    have hbg2 : ∀ a : Nat, a ≤ ss.length → ∀ W, Below w.heap.size w W → Calls Tryd.prog 25 #[ndV d, .slice wo ss.length wc, .int .i64 (a : Int)] W fun e w' => ∃ v, e = .returned (.tuple #[v, .int .i64 0]) ∧ OwnI w' W.heap.size v (begL (tabP ss d k) a 33) ∧ Below W.heap.size W w' := fun a ha W hb => by
      have h := hbg a W hb
      rw [hma0 a ha] at h
      have e : bgL d k ss (a : Int) = begL (tabP ss d k) a 33 := by
        unfold bgL
        rw [if_pos (hma0 a ha), Int.toNat_natCast]
      rw [e] at h
      exact h
    have hms : mtsB d k ss = ((tabP ss d k) 0).getLsbD ss.length := by unfold mtsB; simp [hE]
    rw [hE] at hmt hgd
    rw [hms] at hmt
    have hok : OkT ss.length (tabP ss d k) := OkT.pat h32 d k
    generalize tabP ss d k = T at *
    obtain ⟨L, hL⟩ : ∃ L, ss.length = L := ⟨_, rfl⟩
    rw [hL] at hgd hen hmt hbg2 hok h32 ⊢
    obtain ⟨kind, ⟨p, m⟩, neg, mi, ma, sl⟩ := d
    simp only at hsl
    subst hsl
    obtain ⟨kl, hkl⟩ : ∃ kl, k.len = kl := ⟨_, rfl⟩
    rw [hkl] at hgd hen hmt hbg2 ⊢
    unfold ndV at hgd hen hmt hbg2 ⊢
    simp only at hgd hen hmt hbg2 ⊢
    have HGD := Lib.hid hgd; have HEN := Lib.hid hen; have HMT := Lib.hid hmt; have HBG := Lib.hid hbg2; have HOK := Lib.hid hok
    clear hgd hen hmt hbg hbg2 hp hW hT ht0 hE hma0 hok hL hkl lw mw hms
    have R0 := Lib.hid (World.alloc_heap_new w (.cells #[.int .i64 kind, .int .u32 (p.toNat : Int), .int .u32 (m.toNat : Int), .bool neg, .int .i64 mi, .int .i64 ma, .slice ao kl cap] 27))
    have hB0 : Below w.heap.size w (w.alloc (.cells #[.int .i64 kind, .int .u32 (p.toNat : Int), .int .u32 (m.toNat : Int), .bool neg, .int .i64 mi, .int .i64 ma, .slice ao kl cap] 27)) := by go_grown
    have HB0 := Lib.hid hB0
    clear hB0
    go_enter Tryd.func8, Tryd.ntmps8
    go_wp2_with fail
    generalize (w.alloc (.cells #[.int .i64 kind, .int .u32 (p.toNat : Int), .int .u32 (m.toNat : Int), .bool neg, .int .i64 mi, .int .i64 ma, .slice ao kl cap] 27)) = v0 at *
    go_at_call 38
    refine Gives.then (HGD.out _ HB0.out) ?_
    intro w1 hb1
    have HB1 := Lib.hid (HB0.out.trans (hb1.mono HB0.out.size))
    have R1 := Lib.hid ((hb1.block _ (Array.getElem?_eq_some_iff.1 R0.out).1).trans R0.out)
    have g0 := cell_block R1.out (o := 0) rfl; have g1 := cell_block R1.out (o := 1) rfl; have g2 := cell_block R1.out (o := 2) rfl; have g3 := cell_block R1.out (o := 3) rfl; have g4 := cell_block R1.out (o := 4) rfl; have g5 := cell_block R1.out (o := 5) rfl; have g6 := cell_block R1.out (o := 6) rfl
    clear hb1 R0 HB0 HGD
    go_wp2_with fail
    go_at_call 40
    refine (HEN.out _ HB1.out).mono ?_
    rintro e w2 ⟨lv, rfl, hmat, hb2⟩
    obtain ⟨lb, lc, rfl, hrow⟩ := hmat.open
    have HROW := Lib.hid hrow
    have HB2 := Lib.hid (HB1.out.trans (hb2.mono HB1.out.size))
    have R2 := Lib.hid ((hb2.block _ (Array.getElem?_eq_some_iff.1 R1.out).1).trans R1.out)
    clear g0 g1 g2 g3 g4 g5 g6 hmat hrow hb2 R1 HB1 HEN
    have g0 := cell_block R2.out (o := 0) rfl; have g1 := cell_block R2.out (o := 1) rfl; have g2 := cell_block R2.out (o := 2) rfl; have g3 := cell_block R2.out (o := 3) rfl; have g4 := cell_block R2.out (o := 4) rfl; have g5 := cell_block R2.out (o := 5) rfl; have g6 := cell_block R2.out (o := 6) rfl
    go_wp2_with fail
    go_at_call 29
    refine Gives.then (HMT.out _ HB2.out) ?_
    intro w3 hb3
    have HB3 := Lib.hid (HB2.out.trans (hb3.mono HB2.out.size))
    have R3 := Lib.hid ((hb3.block _ (Array.getElem?_eq_some_iff.1 R2.out).1).trans R2.out)
    have HROW3 := Lib.hid (fun W' (hb : Below w3.heap.size w3 W') => HROW.out W' (hb3.trans (hb.mono hb3.size)))
    clear g0 g1 g2 g3 g4 g5 g6 hb3 R2 HB2 HMT HROW
    obtain ⟨c0, a1, a2⟩ := HROW3.out w3 (Below.refl _ _) 0 (by omega)
    have a3 := a2 L (Nat.le_refl _)
    clear a2
    go_wp2_with fail
    clear a1 a3
    try clear hen
    go_loopw [9] (fun i wr => ∃ e : Nat, e ≤ L + 1 ∧ i = .int .i64 (e : Int) ∧ Below w3.heap.size w3 wr) (fun i _ => L + 1 - (intOf i).toNat)
    case atStart => exact ⟨0, by omega, rfl, Below.refl _ _⟩
    case round =>
    obtain ⟨e, he, rfl, hw⟩ := hrel
    obtain ⟨W4, hW4⟩ : ∃ W4, W4 = wr := ⟨_, rfl⟩
    subst hW4
    have HW := Lib.hid hw
    clear hw
    by_cases hel : e < L + 1
    · have heL : (e : Int) ≤ (L : Int) := by omega
      have heN : e ≤ L := by omega
      have R4 := Lib.hid ((HW.out.block _ (Array.getElem?_eq_some_iff.1 R3.out).1).trans R3.out)
      have g0 := cell_block R4.out (o := 0) rfl; have g1 := cell_block R4.out (o := 1) rfl; have g2 := cell_block R4.out (o := 2) rfl; have g3 := cell_block R4.out (o := 3) rfl; have g4 := cell_block R4.out (o := 4) rfl; have g5 := cell_block R4.out (o := 5) rfl; have g6 := cell_block R4.out (o := 6) rfl
      have hcall := HBG.out e heN W4 (HB3.out.trans (HW.out.mono HB3.out.size))
      have hstab := begL_stable (T := T) (e := e) (L := L) (fun a ha => by rw [HOK.out.beyond ha]; simp) 33 (by omega)
      have hget := fun (a : Nat) (h : (T a).getLsbD e = true) (ha : a ≤ L) => begL_get T e a h 33 (by omega)
      have hnl0 := begL_len T e 33
      obtain ⟨F, hF⟩ : ∃ F, begL T e 33 = F := ⟨_, rfl⟩
      rw [hF] at hnl0
      rw [hF] at hcall hstab
      simp only [hF] at hget
      obtain ⟨n, hn⟩ : ∃ n, F.length = n := ⟨_, rfl⟩
      rw [hn] at hnl0
      have HCALL := Lib.hid hcall; have HSTAB := Lib.hid hstab; have HGET := Lib.hid hget; have HN := Lib.hid hn
      clear hcall hstab hget hF hn R4
      go_wp2_with (go_at_call 25; refine HCALL.out.mono ?_; rintro e' w5 ⟨lv, rfl, ho, hb5⟩; obtain ⟨lo, lcc, hlv⟩ := ho.slice; rw [HN.out] at hlv; subst hlv; have HB5 := Lib.hid (HW.out.trans (hb5.mono HW.out.size)); have HO := Lib.hid ho; clear ho hb5 g0 g1 g2 g3 g4 g5 g6)
      have hcells : ∀ i (h : i < F.length), ∃ b, lo = some ⟨b, 0, none⟩ ∧ b < w5.heap.size ∧ w5.cell? ⟨b, i, none⟩ = some (.int .i64 (F[i] : Int)) := by
        obtain ⟨ao', cap', hv', -, -, h⟩ := HO.out.is.open
        cases hv'
        exact h
      have HC := Lib.hid hcells
      clear hcells HO HCALL
      go_loopw [12, 13] (fun q a wr => ∃ x : Nat, x ≤ L + 1 ∧ a = .int .i64 (x : Int) ∧ q = .int .i64 ((begL T e x).length : Int) ∧ Below w5.heap.size w5 wr) (fun _ a _ => L + 1 - (intOf a).toNat)
      case atStart => exact ⟨0, by omega, rfl, rfl, Below.refl _ _⟩
      case round =>
      obtain ⟨x, hx, rfl, rfl, hw⟩ := hrel
      by_cases hxl : x < L + 1
      · have hxL : (x : Int) ≤ (L : Int) := by omega
        obtain ⟨c, a1, a2⟩ := HROW3.out wr (HB5.out.trans (hw.mono HB5.out.size)) x (by omega)
        have a3 := a2 e heN
        clear a2
        have hstep := begL_step T e x
        have hxx : (x : Int) < (L : Int) + 1 := by omega
        have hee : (e : Int) < (L : Int) + 1 := by omega
        have HW5 := Lib.hid hw
        clear hw
        rcases hbit : (T x).getLsbD e with _ | _
        · rw [hbit] at a3 hstep
          have hsame : (begL T e (x + 1)).length = (begL T e x).length := by rw [hstep]; simp
          have HSAME := Lib.hid hsame
          clear hstep hsame hbit
          go_wp2_with fail
          go_roundw
          case rel => exact ⟨x + 1, by omega, by go_num, by rw [HSAME.out], HW5.out⟩
          case measure => simp [intOf]; omega
        · have hg := HGET.out x hbit (by omega)
          obtain ⟨hq, hgx⟩ := List.getElem?_eq_some_iff.1 hg
          obtain ⟨bq, hlo, lbq, dq⟩ := HC.out _ hq
          subst hlo
          rw [hgx] at dq
          have dq := (HW5.out.cell (p := ⟨bq, _, none⟩) lbq).trans dq
          rw [hbit] at a3 hstep
          have hsame : (begL T e (x + 1)).length = (begL T e x).length + 1 := by rw [hstep]; simp
          have HSAME := Lib.hid hsame
          rw [HN.out] at hq
          clear hstep hsame hbit hg hgx
          obtain ⟨q, hqq⟩ : ∃ q, (begL T e x).length = q := ⟨_, rfl⟩
          rw [hqq] at hq dq HSAME ⊢
          have hq1 : ¬ n ≤ q := by omega
          have hq2 : (q : Int) < (n : Int) := by omega
          have hq3 : ¬ ((n : Int) ≤ (q : Int)) := by omega
          clear hqq
          go_wp2_with fail
          go_roundw
          case rel => exact ⟨x + 1, by omega, by go_num, by rw [HSAME.out]; go_num, HW5.out⟩
          case measure => simp [intOf]; omega
      · obtain rfl : x = L + 1 := by omega
        have hfin : (begL T e (L + 1)).length = n := by rw [← HSTAB.out, HN.out]
        rw [hfin]
        have HW5 := Lib.hid hw
        clear hw hfin hxl HC
        go_wp2_with fail
        go_roundw
        case rel => exact ⟨e + 1, by omega, by go_num, HB5.out.trans (HW5.out.mono HB5.out.size)⟩
        case measure => simp [intOf]; omega
    · obtain rfl : e = L + 1 := by omega
      have HBW := Lib.hid (HB3.out.trans (HW.out.mono HB3.out.size))
      clear hel HROW3 HBG
      go_wp2_with (go_at_call 22; refine Gives.then (hwk.out _ HBW.out) ?_; intro w9 hb9)
      go_returns
      exact ⟨rfl, HBW.out.trans (hb9.mono HBW.out.size)⟩
  · have hdf : decide (mtE d k ss = 0) = false := decide_eq_false hE
    rw [hdf] at hgd
    obtain ⟨L, hL⟩ : ∃ L, ss.length = L := ⟨_, rfl⟩
    rw [hL] at hgd ⊢
    obtain ⟨kind, ⟨p, m⟩, neg, mi, ma, sl⟩ := d
    simp only at hsl
    subst hsl
    obtain ⟨kl, hkl⟩ : ∃ kl, k.len = kl := ⟨_, rfl⟩
    rw [hkl] at hgd ⊢
    unfold ndV at hgd ⊢
    simp only at hgd ⊢
    have HGD := Lib.hid hgd
    have hB0 : ∀ O : Obj, Below w.heap.size w (w.alloc O) := fun O => by go_grown
    have HB0 := Lib.hid hB0
    clear hgd hen hmt hbg hp hW hT ht0 hE hdf hL hkl lw mw hB0
    go_enter Tryd.func8, Tryd.ntmps8
    go_wp2_with (first | (go_at_call 38; refine Gives.then (HGD.out _ (HB0.out _)) ?_; intro w1 hb1; have HB1 := Lib.hid ((HB0.out (.cells #[.int .i64 kind, .int .u32 (p.toNat : Int), .int .u32 (m.toNat : Int), .bool neg, .int .i64 mi, .int .i64 ma, .slice ao kl cap] 27)).trans (hb1.mono (by rw [World.size_alloc]; omega))); clear hb1) | (go_at_call 22; refine Gives.then (hwk.out _ HB1.out) ?_; intro w9 hb9))
    go_returns
    exact ⟨rfl, HB1.out.trans (hb9.mono HB1.out.size)⟩
end Go.Proofs.YtmobilppakjihaaDoor

/-
  PatsFirst.
-/
namespace Go.Proofs.YtmobilppakjihaaDoor
open Go.RowKit Go.Sort
theorem fdI_spec (T : Tb) (a n : Nat) : (∃ i, fdI T a n = some i ∧ i < n ∧ a ≤ i ∧ (T i).toNat ≠ 0 ∧ ∀ j, a ≤ j → j < i → (T j).toNat = 0) ∨ (fdI T a n = none ∧ ∀ j, a ≤ j → j < n → (T j).toNat = 0) := by
  rcases h : fdI T a n with _ | i
  · refine .inr ⟨rfl, fun j h1 h2 => ?_⟩
    unfold fdI at h
    rw [List.find?_range_eq_none] at h
    have := h j h2
    simpa [h1] using this
  · refine .inl ⟨i, rfl, ?_⟩
    unfold fdI at h
    rw [List.find?_range_eq_some] at h
    obtain ⟨h1, h2, h3⟩ := h
    simp only [Bool.and_eq_true, decide_eq_true_eq] at h1
    refine ⟨by simpa using h2, h1.1, h1.2, fun j h4 h5 => ?_⟩
    have := h3 j h5
    simpa [h4] using this
theorem bit_zero {x : BitVec 64} (h : x.toNat = 0) (j : Nat) : x.getLsbD j = false := by
  show x.toNat.testBit j = false
  rw [h]; simp
set_option maxRecDepth 100000 in
set_option maxHeartbeats 8000000 in
theorem first_any (d : Nd) (k : Fo) (ss : List Snd) (sv : Value) (a : Nat) (ha : a ≤ 255) (w : World) (hp : Pt w d k) (hW : Wd w sv ss) (hT : Tab64 w) (ht0 : 0 < w.heap.size) :
    Gives 12 #[ndV d, sv, .int .u8 (a : Int)] w (.bool true) := by
  unfold Gives
  have hgd := fun (W : World) (hb : Below w.heap.size w W) => lgood_any d k ss sv W (hp.below hb) (hW.below hb)
  have hwk : Hid (∀ W : World, Below w.heap.size w W → Gives 22 #[] W (.bool true)) := fun W hb => works_any W (hT.below hb ht0) (by have := hb.size; omega)
  have hen := fun (hE : mtE d k ss = 0) (W : World) (hb : Below w.heap.size w W) => lends_any d k ss sv W (hp.below hb) (hW.below hb) (hT.below hb ht0) (by have := hb.size; omega) hE
  have hfi := fun (q : Nat) (W : World) (hb : Below w.heap.size w W) => find_anyP d k ss sv (q : Int) W (hp.below hb) (hW.below hb) (hT.below hb ht0) (by have := hb.size; omega)
  obtain ⟨wo, wc, rfl, lw, mw, -⟩ := hW.open
  obtain ⟨ao, cap, hsl, -, -, -⟩ := hp.open
  by_cases hE : mtE d k ss = 0
  · have h32 := chk_len (node_ok hE).2
    replace hen := hen hE
    obtain ⟨q, hq⟩ : ∃ q, a % (ss.length + 1) = q := ⟨_, rfl⟩
    have hql : q ≤ ss.length := by have := Nat.mod_lt a (show 0 < ss.length + 1 by omega); omega
    have hrem : ((a : Int) % ((ss.length : Int) + 1)) = (q : Int) := by rw [← hq, Int.natCast_emod]; rfl
    have hma0 : maE d k ss (q : Int) = 0 := by
      unfold maE
      rw [if_pos hE, if_pos ⟨by omega, by omega⟩]
    have hfq := hfi q
    have hR : fiR d k ss (q : Int) = fdR (tabP ss d k) q (ss.length + 1) := by unfold fiR; rw [if_pos hma0, Int.toNat_natCast]
    rw [hma0, hR] at hfq
    rw [hE] at hgd
    have hok : OkT ss.length (tabP ss d k) := OkT.pat h32 d k
    generalize tabP ss d k = T at *
    obtain ⟨L, hL⟩ : ∃ L, ss.length = L := ⟨_, rfl⟩
    rw [hL] at hgd hen hfq hok h32 hql hrem ⊢
    obtain ⟨kind, ⟨p, m⟩, neg, mi, ma, sl⟩ := d
    simp only at hsl
    subst hsl
    obtain ⟨kl, hkl⟩ : ∃ kl, k.len = kl := ⟨_, rfl⟩
    rw [hkl] at hgd hen hfq ⊢
    unfold ndV at hgd hen hfq ⊢
    simp only at hgd hen hfq ⊢
    have HGD := Lib.hid hgd; have HEN := Lib.hid hen; have HOK := Lib.hid hok
    clear hgd hen hfi hp hW hT ht0 hE hma0 hok hL hkl lw mw hR hq
    have R0 := Lib.hid (World.alloc_heap_new w (.cells #[.int .i64 kind, .int .u32 (p.toNat : Int), .int .u32 (m.toNat : Int), .bool neg, .int .i64 mi, .int .i64 ma, .slice ao kl cap] 27))
    have hB0 : Below w.heap.size w (w.alloc (.cells #[.int .i64 kind, .int .u32 (p.toNat : Int), .int .u32 (m.toNat : Int), .bool neg, .int .i64 mi, .int .i64 ma, .slice ao kl cap] 27)) := by go_grown
    have HB0 := Lib.hid hB0
    clear hB0
    rcases fdI_spec T q (L + 1) with ⟨x, hfd, hxL, hqx, hxne, hno⟩ | ⟨hfd, hno⟩
    · have hR : fdR T q (L + 1) = (x, Nat.log2 (T x).toNat, true) := by rw [fdR, hfd]
      obtain ⟨hbg, hmax⟩ := log_bit hxne
      obtain ⟨g, hg⟩ : ∃ g, Nat.log2 (T x).toNat = g := ⟨_, rfl⟩
      rw [hg] at hR hbg
      simp only [hg] at hmax
      rw [hR] at hfq
      have hxg := HOK.out x g hbg
      have HMAX := Lib.hid hmax; have HBITG := Lib.hid hbg
      clear hR hfd hmax hbg hg
      go_enter Tryd.func12, Tryd.ntmps12
      go_wp2_with fail
      generalize (w.alloc (.cells #[.int .i64 kind, .int .u32 (p.toNat : Int), .int .u32 (m.toNat : Int), .bool neg, .int .i64 mi, .int .i64 ma, .slice ao kl cap] 27)) = v0 at *
      go_at_call 38
      refine Gives.then (HGD.out _ HB0.out) ?_
      intro w1 hb1
      have HB1 := Lib.hid (HB0.out.trans (hb1.mono HB0.out.size))
      have R1 := Lib.hid ((hb1.block _ (Array.getElem?_eq_some_iff.1 R0.out).1).trans R0.out)
      have g0 := cell_block R1.out (o := 0) rfl; have g1 := cell_block R1.out (o := 1) rfl; have g2 := cell_block R1.out (o := 2) rfl; have g3 := cell_block R1.out (o := 3) rfl; have g4 := cell_block R1.out (o := 4) rfl; have g5 := cell_block R1.out (o := 5) rfl; have g6 := cell_block R1.out (o := 6) rfl
      clear hb1 R0 HB0 HGD
      go_wp2_with fail
      rw [hrem]
      go_at_call 31
      refine Gives.then (hfq _ HB1.out) ?_
      intro w2 hb2
      have HB2 := Lib.hid (HB1.out.trans (hb2.mono HB1.out.size))
      have R2 := Lib.hid ((hb2.block _ (Array.getElem?_eq_some_iff.1 R1.out).1).trans R1.out)
      clear g0 g1 g2 g3 g4 g5 g6 hb2 R1 HB1 hfq hrem
      have g0 := cell_block R2.out (o := 0) rfl; have g1 := cell_block R2.out (o := 1) rfl; have g2 := cell_block R2.out (o := 2) rfl; have g3 := cell_block R2.out (o := 3) rfl; have g4 := cell_block R2.out (o := 4) rfl; have g5 := cell_block R2.out (o := 5) rfl; have g6 := cell_block R2.out (o := 6) rfl
      go_wp2_with fail
      go_at_call 40
      refine (HEN.out _ HB2.out).mono ?_
      rintro e w3 ⟨lv, rfl, hmat, hb3⟩
      obtain ⟨lb, lc, rfl, hrow⟩ := hmat.open
      have HROW3 := Lib.hid hrow
      have HB3 := Lib.hid (HB2.out.trans (hb3.mono HB2.out.size))
      clear g0 g1 g2 g3 g4 g5 g6 hmat hrow hb3 R2 HB2 HEN
      have hqi : (q : Int) ≤ (L : Int) := by omega
      go_wp2_with fail
      go_loopw [14] (fun i wr => ∃ i' : Nat, q ≤ i' ∧ i' ≤ L + 1 ∧ i = .int .i64 (i' : Int) ∧ Below w3.heap.size w3 wr) (fun i _ => L + 1 - (intOf i).toNat)
      case atStart => exact ⟨q, Nat.le_refl _, by omega, rfl, Below.refl _ _⟩
      case round =>
      obtain ⟨i, hqi', hi, rfl, hw⟩ := hrel
      have HW := Lib.hid hw
      clear hw
      by_cases hil : i < L + 1
      · have hiL : (i : Int) ≤ (L : Int) := by omega
        have hiN : i ≤ L := by omega
        obtain ⟨W4, hW4⟩ : ∃ W4, W4 = wr := ⟨_, rfl⟩
        subst hW4
        go_wp2_with fail
        go_loopw [15] (fun i' wr => ∃ y : Nat, i ≤ y ∧ y ≤ L + 1 ∧ i' = .int .i64 (y : Int) ∧ Below w3.heap.size w3 wr) (fun i' _ => L + 1 - (intOf i').toNat)
        case atStart => exact ⟨i, Nat.le_refl _, by omega, rfl, HW.out⟩
        case round =>
        obtain ⟨y, hiy, hy, rfl, hw⟩ := hrel
        by_cases hyl : y < L + 1
        · have hyL : (y : Int) ≤ (L : Int) := by omega
          have hyN : y ≤ L := by omega
          obtain ⟨c, a1, a2⟩ := HROW3.out wr hw i hiN
          have a3 := a2 y hyN
          clear a2
          have hii : (i : Int) < (L : Int) + 1 := by omega
          have hyy : (y : Int) < (L : Int) + 1 := by omega
          have HW5 := Lib.hid hw
          clear hw
          rcases hbit : (T i).getLsbD y with _ | _
          · rw [hbit] at a3
            clear hbit
            go_wp2_with fail
            go_roundw
            case rel => exact ⟨y + 1, by omega, by omega, by go_num, HW5.out⟩
            case measure => simp [intOf]; omega
          · have hix : ¬ i < x := fun h => by
              have := bit_zero (hno i hqi' h) y
              rw [this] at hbit; cases hbit
            rw [hbit] at a3
            by_cases hxi : i = x
            · subst hxi
              have hyg : ¬ g < y := by have := HMAX.out y hbit; omega
              clear hbit
              go_wp2_with fail
              go_roundw
              case rel => exact ⟨y + 1, by omega, by omega, by go_num, HW5.out⟩
              case measure => simp [intOf]; omega
            · have hxi2 : ¬ ((i : Int) = (x : Int)) := by omega
              clear hbit
              go_wp2_with fail
              go_roundw
              case rel => exact ⟨y + 1, by omega, by omega, by go_num, HW5.out⟩
              case measure => simp [intOf]; omega
        · obtain rfl : y = L + 1 := by omega
          have HW5 := Lib.hid hw
          clear hw hyl
          go_wp2_with fail
          go_roundw
          case rel => exact ⟨i + 1, by omega, by omega, by go_num, HW5.out⟩
          case measure => simp [intOf]; omega
      · obtain rfl : i = L + 1 := by omega
        have HBW := Lib.hid (HB3.out.trans (HW.out.mono HB3.out.size))
        clear hil
        obtain ⟨c, a1, a2⟩ := HROW3.out wr HW.out x (by omega)
        have a3 := a2 g (by omega)
        rw [HBITG.out] at a3
        clear a2
        have hxx1 : (x : Int) < (L : Int) + 1 := by omega
        have hgg1 : (g : Int) < (L : Int) + 1 := by omega
        have hgg2 : (g : Int) ≤ (L : Int) := by omega
        have hxg2 : (x : Int) ≤ (g : Int) := by omega
        have hqx2 : (q : Int) ≤ (x : Int) := by omega
        go_wp2_with (go_at_call 22; refine Gives.then (hwk.out _ HBW.out) ?_; intro w9 hb9)
        go_returns
        exact ⟨rfl, HBW.out.trans (hb9.mono HBW.out.size)⟩
    · have hR : fdR T q (L + 1) = (0, 0, false) := by rw [fdR, hfd]
      rw [hR] at hfq
      clear hR hfd
      go_enter Tryd.func12, Tryd.ntmps12
      go_wp2_with fail
      generalize (w.alloc (.cells #[.int .i64 kind, .int .u32 (p.toNat : Int), .int .u32 (m.toNat : Int), .bool neg, .int .i64 mi, .int .i64 ma, .slice ao kl cap] 27)) = v0 at *
      go_at_call 38
      refine Gives.then (HGD.out _ HB0.out) ?_
      intro w1 hb1
      have HB1 := Lib.hid (HB0.out.trans (hb1.mono HB0.out.size))
      have R1 := Lib.hid ((hb1.block _ (Array.getElem?_eq_some_iff.1 R0.out).1).trans R0.out)
      have g0 := cell_block R1.out (o := 0) rfl; have g1 := cell_block R1.out (o := 1) rfl; have g2 := cell_block R1.out (o := 2) rfl; have g3 := cell_block R1.out (o := 3) rfl; have g4 := cell_block R1.out (o := 4) rfl; have g5 := cell_block R1.out (o := 5) rfl; have g6 := cell_block R1.out (o := 6) rfl
      clear hb1 R0 HB0 HGD
      go_wp2_with fail
      rw [hrem]
      go_at_call 31
      refine Gives.then (hfq _ HB1.out) ?_
      intro w2 hb2
      have HB2 := Lib.hid (HB1.out.trans (hb2.mono HB1.out.size))
      have R2 := Lib.hid ((hb2.block _ (Array.getElem?_eq_some_iff.1 R1.out).1).trans R1.out)
      clear g0 g1 g2 g3 g4 g5 g6 hb2 R1 HB1 hfq hrem
      have g0 := cell_block R2.out (o := 0) rfl; have g1 := cell_block R2.out (o := 1) rfl; have g2 := cell_block R2.out (o := 2) rfl; have g3 := cell_block R2.out (o := 3) rfl; have g4 := cell_block R2.out (o := 4) rfl; have g5 := cell_block R2.out (o := 5) rfl; have g6 := cell_block R2.out (o := 6) rfl
      go_wp2_with fail
      go_at_call 40
      refine (HEN.out _ HB2.out).mono ?_
      rintro e w3 ⟨lv, rfl, hmat, hb3⟩
      obtain ⟨lb, lc, rfl, hrow⟩ := hmat.open
      have HROW3 := Lib.hid hrow
      have HB3 := Lib.hid (HB2.out.trans (hb3.mono HB2.out.size))
      clear g0 g1 g2 g3 g4 g5 g6 hmat hrow hb3 R2 HB2 HEN
      have hqi : (q : Int) ≤ (L : Int) := by omega
      go_wp2_with fail
      go_loopw [14] (fun i wr => ∃ i' : Nat, q ≤ i' ∧ i' ≤ L + 1 ∧ i = .int .i64 (i' : Int) ∧ Below w3.heap.size w3 wr) (fun i _ => L + 1 - (intOf i).toNat)
      case atStart => exact ⟨q, Nat.le_refl _, by omega, rfl, Below.refl _ _⟩
      case round =>
      obtain ⟨i, hqi', hi, rfl, hw⟩ := hrel
      have HW := Lib.hid hw
      clear hw
      by_cases hil : i < L + 1
      · have hiL : (i : Int) ≤ (L : Int) := by omega
        have hiN : i ≤ L := by omega
        obtain ⟨W4, hW4⟩ : ∃ W4, W4 = wr := ⟨_, rfl⟩
        subst hW4
        go_wp2_with fail
        go_loopw [15] (fun i' wr => ∃ y : Nat, i ≤ y ∧ y ≤ L + 1 ∧ i' = .int .i64 (y : Int) ∧ Below w3.heap.size w3 wr) (fun i' _ => L + 1 - (intOf i').toNat)
        case atStart => exact ⟨i, Nat.le_refl _, by omega, rfl, HW.out⟩
        case round =>
        obtain ⟨y, hiy, hy, rfl, hw⟩ := hrel
        by_cases hyl : y < L + 1
        · have hyL : (y : Int) ≤ (L : Int) := by omega
          have hyN : y ≤ L := by omega
          obtain ⟨c, a1, a2⟩ := HROW3.out wr hw i hiN
          have a3 := a2 y hyN
          clear a2
          have hii : (i : Int) < (L : Int) + 1 := by omega
          have hyy : (y : Int) < (L : Int) + 1 := by omega
          have HW5 := Lib.hid hw
          clear hw
          rcases hbit : (T i).getLsbD y with _ | _
          · rw [hbit] at a3
            clear hbit
            go_wp2_with fail
            go_roundw
            case rel => exact ⟨y + 1, by omega, by omega, by go_num, HW5.out⟩
            case measure => simp [intOf]; omega
          · exfalso
            have := bit_zero (hno i hqi' hil) y
            rw [this] at hbit; cases hbit
        · obtain rfl : y = L + 1 := by omega
          have HW5 := Lib.hid hw
          clear hw hyl
          go_wp2_with fail
          go_roundw
          case rel => exact ⟨i + 1, by omega, by omega, by go_num, HW5.out⟩
          case measure => simp [intOf]; omega
      · obtain rfl : i = L + 1 := by omega
        have HBW := Lib.hid (HB3.out.trans (HW.out.mono HB3.out.size))
        clear hil
        skip
        go_wp2_with (go_at_call 22; refine Gives.then (hwk.out _ HBW.out) ?_; intro w9 hb9)
        go_returns
        exact ⟨rfl, HBW.out.trans (hb9.mono HBW.out.size)⟩
  · have hdf : decide (mtE d k ss = 0) = false := decide_eq_false hE
    rw [hdf] at hgd
    obtain ⟨L, hL⟩ : ∃ L, ss.length = L := ⟨_, rfl⟩
    rw [hL] at hgd ⊢
    obtain ⟨kind, ⟨p, m⟩, neg, mi, ma, sl⟩ := d
    simp only at hsl
    subst hsl
    obtain ⟨kl, hkl⟩ : ∃ kl, k.len = kl := ⟨_, rfl⟩
    rw [hkl] at hgd ⊢
    unfold ndV at hgd ⊢
    simp only at hgd ⊢
    have HGD := Lib.hid hgd
    have hB0 : ∀ O : Obj, Below w.heap.size w (w.alloc O) := fun O => by go_grown
    have HB0 := Lib.hid hB0
    clear hgd hen hfi hp hW hT ht0 hE hdf hL hkl lw mw hB0
    go_enter Tryd.func12, Tryd.ntmps12
    go_wp2_with (first | (go_at_call 38; refine Gives.then (HGD.out _ (HB0.out _)) ?_; intro w1 hb1; have HB1 := Lib.hid ((HB0.out (.cells #[.int .i64 kind, .int .u32 (p.toNat : Int), .int .u32 (m.toNat : Int), .bool neg, .int .i64 mi, .int .i64 ma, .slice ao kl cap] 27)).trans (hb1.mono (by rw [World.size_alloc]; omega))); clear hb1) | (go_at_call 22; refine Gives.then (hwk.out _ HB1.out) ?_; intro w9 hb9))
    go_returns
    exact ⟨rfl, HB1.out.trans (hb9.mono HB1.out.size)⟩
end Go.Proofs.YtmobilppakjihaaDoor
