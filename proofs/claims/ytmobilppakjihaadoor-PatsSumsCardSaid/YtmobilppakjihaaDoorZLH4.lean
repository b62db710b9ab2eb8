/-
  Lemmas that the theorem of this claim rests on: 3 texts, one behind the other.
-/
import Derived.Test.YtmobilppakjihaaDoorM21
set_option linter.unusedSimpArgs false
set_option linter.unusedVariables false
/-
  PatsBoth.
-/
namespace Go.Proofs.YtmobilppakjihaaDoor
open Go.RowKit Go.Sort
theorem begL_get (T : Tb) (e a : Nat) (h : (T a).getLsbD e = true) : ∀ n, a < n → (begL T e n)[(begL T e a).length]? = some a
  | 0, hn => by omega
  | n + 1, hn => by
    rw [begL_step]
    by_cases ha : a = n
    · subst ha
      rw [if_pos h, List.getElem?_append_right (Nat.le_refl _)]
      simp
    · have ih := begL_get T e a h n (by omega)
      have hl := (List.getElem?_eq_some_iff.1 ih).1
      rw [List.getElem?_append_left hl]
      exact ih
theorem begL_stable {T : Tb} {e L : Nat} (h : ∀ a, L < a → (T a).getLsbD e = false) : ∀ n, L + 1 ≤ n → begL T e n = begL T e (L + 1) := by
  intro n hn
  induction n with
  | zero => omega
  | succ n ih =>
    by_cases hx : n = L
    · rw [hx]
    · rw [begL_step, h n (by omega), ih (by omega)]
      simp
theorem Mat.open {W : World} {v : Value} {L : Nat} {T : Tb} (h : Mat W v L T) : ∃ b cap, v = .slice (some ⟨b, 0, none⟩) (L + 1) cap ∧ ∀ W', Below W.heap.size W W' → ∀ i, i ≤ L → ∃ c, W'.cell? ⟨b, i, none⟩ = some (.slice (some ⟨c, 0, none⟩) (L + 1) (L + 1)) ∧ ∀ j, j ≤ L → W'.cell? ⟨c, j, none⟩ = some (.bool ((T i).getLsbD j)) := by
  have hm := h
  obtain ⟨b, cap, h1, -⟩ := h
  subst h1
  refine ⟨b, cap, rfl, fun W' hb i hi => ?_⟩
  obtain ⟨b', cap', h1, _, _, _, h5⟩ := hm.below hb
  cases h1
  obtain ⟨c, c1, c2⟩ := h5 i hi
  exact ⟨c, c1, fun j hj => c2.cell hj⟩
set_option maxRecDepth 100000 in
set_option maxHeartbeats 8000000 in
theorem both_any (d : Nd) (k : Fo) (ss : List Snd) (sv : Value) (w : World) (hp : Pt w d k) (hW : Wd w sv ss) (hT : Tab64 w) (ht0 : 0 < w.heap.size) :
    Gives 8 #[ndV d, sv] w (.bool true) := by
  unfold Gives
  have hgd := fun (W : World) (hb : Below w.heap.size w W) => lgood_any d k ss sv W (hp.below hb) (hW.below hb)
  have hwk : Hid (∀ W : World, Below w.heap.size w W → Gives 22 #[] W (.bool true)) := fun W hb => works_any W (hT.below hb ht0) (by have := hb.size; omega)
  have hen := fun (hE : mtE d k ss = 0) (W : World) (hb : Below w.heap.size w W) => lends_any d k ss sv W (hp.below hb) (hW.below hb) (hT.below hb ht0) (by have := hb.size; omega) hE
  have hmt := fun (W : World) (hb : Below w.heap.size w W) => matches_any d k ss sv W (hp.below hb) (hW.below hb) (hT.below hb ht0) (by have := hb.size; omega)
  have hbg := fun (a : Nat) (W : World) (hb : Below w.heap.size w W) => begins_any d k ss sv (a : Int) W (hp.below hb) (hW.below hb) (hT.below hb ht0) (by have := hb.size; omega)
  obtain ⟨wo, wc, rfl, lw, mw, -⟩ := hW.open
  obtain ⟨ao, cap, hsl, -, -, -⟩ := hp.open
  by_cases hE : mtE d k ss = 0
  · have h32 := chk_len (node_ok hE).2
    have hma0 : ∀ a : Nat, a ≤ ss.length → maE d k ss (a : Int) = 0 := fun a ha => by
      unfold maE
      rw [if_pos hE, if_pos ⟨by omega, by omega⟩]
    replace hen := hen hE
    have hbg2 : ∀ a : Nat, a ≤ ss.length → ∀ W, Below w.heap.size w W → Calls Tryd.prog 25 #[ndV d, .slice wo ss.length wc, .int .i64 (a : Int)] W fun e w' => ∃ v, e = .returned (.tuple #[v, .int .i64 0]) ∧ OwnI w' W.heap.size v (begL (tabP ss d k) a 33) ∧ Below W.heap.size W w' := fun a ha W hb => by
      have h := hbg a W hb
      rw [hma0 a ha] at h
      have e : bgL d k ss (a : Int) = begL (tabP ss d k) a 33 := by
        unfold bgL
        rw [if_pos (hma0 a ha), Int.toNat_natCast]
      rw [e] at h
      exact h
    have hms : mtsB d k ss = ((tabP ss d k) 0).getLsbD ss.length := by unfold mtsB; simp [hE]
    rw [hE] at hmt hgd
    rw [hms] at hmt
    have hok : OkT ss.length (tabP ss d k) := OkT.pat h32 d k
    generalize tabP ss d k = T at *
    obtain ⟨L, hL⟩ : ∃ L, ss.length = L := ⟨_, rfl⟩
    rw [hL] at hgd hen hmt hbg2 hok h32 ⊢
    obtain ⟨kind, ⟨p, m⟩, neg, mi, ma, sl⟩ := d
    simp only at hsl
    subst hsl
    obtain ⟨kl, hkl⟩ : ∃ kl, k.len = kl := ⟨_, rfl⟩
    rw [hkl] at hgd hen hmt hbg2 ⊢
    unfold ndV at hgd hen hmt hbg2 ⊢
    simp only at hgd hen hmt hbg2 ⊢
    have HGD := Lib.hid hgd; have HEN := Lib.hid hen; have HMT := Lib.hid hmt; have HBG := Lib.hid hbg2; have HOK := Lib.hid hok
    clear hgd hen hmt hbg hbg2 hp hW hT ht0 hE hma0 hok hL hkl lw mw hms
    have R0 := Lib.hid (World.alloc_heap_new w (.cells #[.int .i64 kind, .int .u32 (p.toNat : Int), .int .u32 (m.toNat : Int), .bool neg, .int .i64 mi, .int .i64 ma, .slice ao kl cap] 27))
    have hB0 : Below w.heap.size w (w.alloc (.cells #[.int .i64 kind, .int .u32 (p.toNat : Int), .int .u32 (m.toNat : Int), .bool neg, .int .i64 mi, .int .i64 ma, .slice ao kl cap] 27)) := by go_grown
    have HB0 := Lib.hid hB0
    clear hB0
    go_enter Tryd.func8, Tryd.ntmps8
    go_wp2_with fail
    generalize (w.alloc (.cells #[.int .i64 kind, .int .u32 (p.toNat : Int), .int .u32 (m.toNat : Int), .bool neg, .int .i64 mi, .int .i64 ma, .slice ao kl cap] 27)) = v0 at *
    go_at_call 38
    refine Gives.then (HGD.out _ HB0.out) ?_
    intro w1 hb1
    have HB1 := Lib.hid (HB0.out.trans (hb1.mono HB0.out.size))
    have R1 := Lib.hid ((hb1.block _ (Array.getElem?_eq_some_iff.1 R0.out).1).trans R0.out)
    have g0 := cell_block R1.out (o := 0) rfl; have g1 := cell_block R1.out (o := 1) rfl; have g2 := cell_block R1.out (o := 2) rfl; have g3 := cell_block R1.out (o := 3) rfl; have g4 := cell_block R1.out (o := 4) rfl; have g5 := cell_block R1.out (o := 5) rfl; have g6 := cell_block R1.out (o := 6) rfl
    clear hb1 R0 HB0 HGD
    go_wp2_with fail
    go_at_call 40
    refine (HEN.out _ HB1.out).mono ?_
    rintro e w2 ⟨lv, rfl, hmat, hb2⟩
    obtain ⟨lb, lc, rfl, hrow⟩ := hmat.open
    have HROW := Lib.hid hrow
    have HB2 := Lib.hid (HB1.out.trans (hb2.mono HB1.out.size))
    have R2 := Lib.hid ((hb2.block _ (Array.getElem?_eq_some_iff.1 R1.out).1).trans R1.out)
    clear g0 g1 g2 g3 g4 g5 g6 hmat hrow hb2 R1 HB1 HEN
    have g0 := cell_block R2.out (o := 0) rfl; have g1 := cell_block R2.out (o := 1) rfl; have g2 := cell_block R2.out (o := 2) rfl; have g3 := cell_block R2.out (o := 3) rfl; have g4 := cell_block R2.out (o := 4) rfl; have g5 := cell_block R2.out (o := 5) rfl; have g6 := cell_block R2.out (o := 6) rfl
    go_wp2_with fail
    go_at_call 29
    refine Gives.then (HMT.out _ HB2.out) ?_
    intro w3 hb3
    have HB3 := Lib.hid (HB2.out.trans (hb3.mono HB2.out.size))
    have R3 := Lib.hid ((hb3.block _ (Array.getElem?_eq_some_iff.1 R2.out).1).trans R2.out)
    have HROW3 := Lib.hid (fun W' (hb : Below w3.heap.size w3 W') => HROW.out W' (hb3.trans (hb.mono hb3.size)))
    clear g0 g1 g2 g3 g4 g5 g6 hb3 R2 HB2 HMT HROW
    obtain ⟨c0, a1, a2⟩ := HROW3.out w3 (Below.refl _ _) 0 (by omega)
    have a3 := a2 L (Nat.le_refl _)
    clear a2
    go_wp2_with fail
    clear a1 a3
    try clear hen
    go_loopw [9] (fun i wr => ∃ e : Nat, e ≤ L + 1 ∧ i = .int .i64 (e : Int) ∧ Below w3.heap.size w3 wr) (fun i _ => L + 1 - (intOf i).toNat)
    case atStart => exact ⟨0, by omega, rfl, Below.refl _ _⟩
    case round =>
    obtain ⟨e, he, rfl, hw⟩ := hrel
    obtain ⟨W4, hW4⟩ : ∃ W4, W4 = wr := ⟨_, rfl⟩
    subst hW4
    have HW := Lib.hid hw
    clear hw
    by_cases hel : e < L + 1
    · have heL : (e : Int) ≤ (L : Int) := by omega
      have heN : e ≤ L := by omega
      have R4 := Lib.hid ((HW.out.block _ (Array.getElem?_eq_some_iff.1 R3.out).1).trans R3.out)
      have g0 := cell_block R4.out (o := 0) rfl; have g1 := cell_block R4.out (o := 1) rfl; have g2 := cell_block R4.out (o := 2) rfl; have g3 := cell_block R4.out (o := 3) rfl; have g4 := cell_block R4.out (o := 4) rfl; have g5 := cell_block R4.out (o := 5) rfl; have g6 := cell_block R4.out (o := 6) rfl
      have hcall := HBG.out e heN W4 (HB3.out.trans (HW.out.mono HB3.out.size))
      have hstab := begL_stable (T := T) (e := e) (L := L) (fun a ha => by rw [HOK.out.beyond ha]; simp) 33 (by omega)
      have hget := fun (a : Nat) (h : (T a).getLsbD e = true) (ha : a ≤ L) => begL_get T e a h 33 (by omega)
      have hnl0 := begL_len T e 33
      obtain ⟨F, hF⟩ : ∃ F, begL T e 33 = F := ⟨_, rfl⟩
      rw [hF] at hnl0
      rw [hF] at hcall hstab
      simp only [hF] at hget
      obtain ⟨n, hn⟩ : ∃ n, F.length = n := ⟨_, rfl⟩
      rw [hn] at hnl0
      have HCALL := Lib.hid hcall; have HSTAB := Lib.hid hstab; have HGET := Lib.hid hget; have HN := Lib.hid hn
      clear hcall hstab hget hF hn R4
      go_wp2_with (go_at_call 25; refine HCALL.out.mono ?_; rintro e' w5 ⟨lv, rfl, ho, hb5⟩; obtain ⟨lo, lcc, hlv⟩ := ho.slice; rw [HN.out] at hlv; subst hlv; have HB5 := Lib.hid (HW.out.trans (hb5.mono HW.out.size)); have HO := Lib.hid ho; clear ho hb5 g0 g1 g2 g3 g4 g5 g6)
      have hcells : ∀ i (h : i < F.length), ∃ b, lo = some ⟨b, 0, none⟩ ∧ b < w5.heap.size ∧ w5.cell? ⟨b, i, none⟩ = some (.int .i64 (F[i] : Int)) := by
        obtain ⟨ao', cap', hv', -, -, h⟩ := HO.out.is.open
        cases hv'
        exact h
      have HC := Lib.hid hcells
      clear hcells HO HCALL
      go_loopw [12, 13] (fun q a wr => ∃ x : Nat, x ≤ L + 1 ∧ a = .int .i64 (x : Int) ∧ q = .int .i64 ((begL T e x).length : Int) ∧ Below w5.heap.size w5 wr) (fun _ a _ => L + 1 - (intOf a).toNat)
      case atStart => exact ⟨0, by omega, rfl, rfl, Below.refl _ _⟩
      case round =>
      obtain ⟨x, hx, rfl, rfl, hw⟩ := hrel
      by_cases hxl : x < L + 1
      · have hxL : (x : Int) ≤ (L : Int) := by omega
        obtain ⟨c, a1, a2⟩ := HROW3.out wr (HB5.out.trans (hw.mono HB5.out.size)) x (by omega)
        have a3 := a2 e heN
        clear a2
        have hstep := begL_step T e x
        have hxx : (x : Int) < (L : Int) + 1 := by omega
        have hee : (e : Int) < (L : Int) + 1 := by omega
        have HW5 := Lib.hid hw
        clear hw
        rcases hbit : (T x).getLsbD e with _ | _
        · rw [hbit] at a3 hstep
          have hsame : (begL T e (x + 1)).length = (begL T e x).length := by rw [hstep]; simp
          have HSAME := Lib.hid hsame
          clear hstep hsame hbit
          go_wp2_with fail
          go_roundw
          case rel => exact ⟨x + 1, by omega, by go_num, by rw [HSAME.out], HW5.out⟩
          case measure => simp [intOf]; omega
        · have hg := HGET.out x hbit (by omega)
          obtain ⟨hq, hgx⟩ := List.getElem?_eq_some_iff.1 hg
          obtain ⟨bq, hlo, lbq, dq⟩ := HC.out _ hq
          subst hlo
          rw [hgx] at dq
          have dq := (HW5.out.cell (p := ⟨bq, _, none⟩) lbq).trans dq
          rw [hbit] at a3 hstep
          have hsame : (begL T e (x + 1)).length = (begL T e x).length + 1 := by rw [hstep]; simp
          have HSAME := Lib.hid hsame
          rw [HN.out] at hq
          clear hstep hsame hbit hg hgx
          obtain ⟨q, hqq⟩ : ∃ q, (begL T e x).length = q := ⟨_, rfl⟩
          rw [hqq] at hq dq HSAME ⊢
          have hq1 : ¬ n ≤ q := by omega
          have hq2 : (q : Int) < (n : Int) := by omega
          have hq3 : ¬ ((n : Int) ≤ (q : Int)) := by omega
          clear hqq
          go_wp2_with fail
          go_roundw
          case rel => exact ⟨x + 1, by omega, by go_num, by rw [HSAME.out]; go_num, HW5.out⟩
          case measure => simp [intOf]; omega
      · obtain rfl : x = L + 1 := by omega
        have hfin : (begL T e (L + 1)).length = n := by rw [← HSTAB.out, HN.out]
        rw [hfin]
        have HW5 := Lib.hid hw
        clear hw hfin hxl HC
        go_wp2_with fail
        go_roundw
        case rel => exact ⟨e + 1, by omega, by go_num, HB5.out.trans (HW5.out.mono HB5.out.size)⟩
        case measure => simp [intOf]; omega
    · obtain rfl : e = L + 1 := by omega
      have HBW := Lib.hid (HB3.out.trans (HW.out.mono HB3.out.size))
      clear hel HROW3 HBG
      go_wp2_with (go_at_call 22; refine Gives.then (hwk.out _ HBW.out) ?_; intro w9 hb9)
      go_returns
      exact ⟨rfl, HBW.out.trans (hb9.mono HBW.out.size)⟩
  · have hdf : decide (mtE d k ss = 0) = false := decide_eq_false hE
    rw [hdf] at hgd
    obtain ⟨L, hL⟩ : ∃ L, ss.length = L := ⟨_, rfl⟩
    rw [hL] at hgd ⊢
    obtain ⟨kind, ⟨p, m⟩, neg, mi, ma, sl⟩ := d
    simp only at hsl
    subst hsl
    obtain ⟨kl, hkl⟩ : ∃ kl, k.len = kl := ⟨_, rfl⟩
    rw [hkl] at hgd ⊢
    unfold ndV at hgd ⊢
    simp only at hgd ⊢
    have HGD := Lib.hid hgd
    have hB0 : ∀ O : Obj, Below w.heap.size w (w.alloc O) := fun O => by go_grown
    have HB0 := Lib.hid hB0
    clear hgd hen hmt hbg hp hW hT ht0 hE hdf hL hkl lw mw hB0
    go_enter Tryd.func8, Tryd.ntmps8
    go_wp2_with (first | (go_at_call 38; refine Gives.then (HGD.out _ (HB0.out _)) ?_; intro w1 hb1; have HB1 := Lib.hid ((HB0.out (.cells #[.int .i64 kind, .int .u32 (p.toNat : Int), .int .u32 (m.toNat : Int), .bool neg, .int .i64 mi, .int .i64 ma, .slice ao kl cap] 27)).trans (hb1.mono (by rw [World.size_alloc]; omega))); clear hb1) | (go_at_call 22; refine Gives.then (hwk.out _ HB1.out) ?_; intro w9 hb9))
    go_returns
    exact ⟨rfl, HB1.out.trans (hb9.mono HB1.out.size)⟩
end Go.Proofs.YtmobilppakjihaaDoor

/-
  Patterns made of others: two in a row, either of two, and one that is repeated; what they match, and that they are valid.
-/
namespace Go.Proofs.YtmobilppakjihaaDoor
open Go.RowKit Go.Sort
theorem wkL_zero : ∀ (l : List (Nd × Nat)) (s : Nat), (∀ x ∈ l, ndE x.1 x.2 = 0) → s + l.length ≤ 40 → (wkL l s).2 = 0
  | [], _, _, _ => rfl
  | x :: l, s, h, hl => by
    simp only [List.length_cons] at hl
    unfold wkL
    rw [if_neg (by omega), if_pos (h x (by simp))]
    exact wkL_zero l (s + 1) (fun y hy => h y (by simp [hy])) (by omega)
theorem Fo.good_pre : ∀ (f : Fo), f.good → ∀ x ∈ f.pre, ndE x.1 x.2 = 0
  | .nil, _, x, hx => by cases hx
  | .cons d k r, ⟨h1, h2, h3⟩, x, hx => by
    simp only [Fo.pre, List.mem_cons, List.mem_append] at hx
    rcases hx with rfl | hx | hx
    · exact h1
    · exact Fo.good_pre k h2 x hx
    · exact Fo.good_pre r h3 x hx
theorem pkE_of {d : Nd} {k : Fo} (h1 : ndE d k.len = 0) (h2 : k.good) (h3 : k.size < 40) : pkE d k = 0 := by
  refine wkL_zero _ 0 ?_ ?_
  · intro x hx
    rcases List.mem_cons.1 hx with rfl | hx
    · exact h1
    · exact Fo.good_pre k h2 x hx
  · simp only [List.length_cons, Fo.pre_length]; omega
theorem mtE_of {d : Nd} {k : Fo} {ss : List Snd} (h1 : ndE d k.len = 0) (h2 : k.good) (h3 : k.size < 40) (h4 : chk ss = 0) : mtE d k ss = 0 := by
  unfold mtE
  rw [if_pos (pkE_of h1 h2 h3)]; exact h4
theorem szP_lt {k : Fo} {n : Nat} (h : szP k ≤ n) (hn : n < 41) : k.size + 1 ≤ n := by unfold szP at h; omega
theorem szP_le (k : Fo) : 1 ≤ szP k ∧ szP k ≤ 41 := by unfold szP; omega
theorem vd_zero : vd (0#32, 0#32) = true := by decide
theorem nd_seq (n : Nat) (v : Value) : ndE ⟨3, (0#32, 0#32), false, 0, 0, v⟩ n = 0 := by
  have ha : argB ⟨3, (0#32, 0#32), false, 0, 0, v⟩ n = false := by simp [argB]
  unfold ndE
  rw [ha, if_neg (by simp), if_pos vd_zero]
theorem nd_alt (n : Nat) (v : Value) : ndE ⟨4, (0#32, 0#32), false, 0, 0, v⟩ n = 0 := by
  have ha : argB ⟨4, (0#32, 0#32), false, 0, 0, v⟩ n = false := by simp [argB]
  unfold ndE
  rw [ha, if_neg (by simp), if_pos vd_zero]
theorem nd_rep {lo hi : Int} (h1 : 0 ≤ lo) (h2 : lo ≤ 32) (h3 : hi = -1 ∨ lo ≤ hi ∧ hi ≤ 32) (v : Value) : ndE ⟨5, (0#32, 0#32), false, lo, hi, v⟩ 1 = 0 := by
  have ha : argB ⟨5, (0#32, 0#32), false, lo, hi, v⟩ 1 = false := by
    simp [argB]
    omega
  unfold ndE
  rw [ha, if_neg (by simp), if_pos vd_zero]
theorem pt_two {W : World} {d : Nd} {k : Fo} {d2 : Nd} {k2 : Fo} {B : Nat} {d' : Nd} (h : W.heap[B]? = some (.cells #[.int .i64 d.kind, .int .u32 (d.is.1.toNat : Int), .int .u32 (d.is.2.toNat : Int), .bool d.neg, .int .i64 d.mi, .int .i64 d.ma, d.sl, .int .i64 d2.kind, .int .u32 (d2.is.1.toNat : Int), .int .u32 (d2.is.2.toNat : Int), .bool d2.neg, .int .i64 d2.mi, .int .i64 d2.ma, d2.sl] 27))
    (hp : Pt W d k) (hp2 : Pt W d2 k2) (hs : d'.sl = .slice (some ⟨B, 0, none⟩) 2 2) : Pt W d' (.cons d k (.cons d2 k2 .nil)) := by
  refine .inr ⟨B, 0, 2, hs, Nat.le_refl 2, by decide, (Array.getElem?_eq_some_iff.1 h).1, ?_⟩
  exact ⟨cell_block h rfl, cell_block h rfl, cell_block h rfl, cell_block h rfl, cell_block h rfl, cell_block h rfl, cell_block h rfl, hp,
    cell_block h rfl, cell_block h rfl, cell_block h rfl, cell_block h rfl, cell_block h rfl, cell_block h rfl, cell_block h rfl, hp2, trivial⟩
theorem same_thn {n : Nat} (hn : n < 64) {x : Tb} (hx : OkT n x) : thnT n (sameT n) x = x := by
  apply Tb.ext
  intro a b
  rw [thn_bit]
  constructor
  · rintro ⟨c, h1, h2, h3⟩
    obtain ⟨rfl, -⟩ := (same_bit hn a c).1 h2
    exact h3
  · intro h
    have := hx a b h
    exact ⟨a, by omega, (same_bit hn a a).2 ⟨rfl, by omega⟩, h⟩
theorem thn_same {n : Nat} (hn : n < 64) {x : Tb} (hx : OkT n x) : thnT n x (sameT n) = x := by
  apply Tb.ext
  intro a b
  rw [thn_bit]
  constructor
  · rintro ⟨c, h1, h2, h3⟩
    obtain ⟨rfl, -⟩ := (same_bit hn c b).1 h3
    exact h2
  · intro h
    have := hx a b h
    exact ⟨b, by omega, h, (same_bit hn b b).2 ⟨rfl, by omega⟩⟩
theorem thn_assoc {n : Nat} (x y z : Tb) : thnT n (thnT n x y) z = thnT n x (thnT n y z) := by
  apply Tb.ext
  intro a b
  rw [thn_bit, thn_bit]
  constructor
  · rintro ⟨c, h1, h2, h3⟩
    obtain ⟨e, h4, h5, h6⟩ := (thn_bit n x y a c).1 h2
    exact ⟨e, h4, h5, (thn_bit n y z e b).2 ⟨c, h1, h6, h3⟩⟩
  · rintro ⟨c, h1, h2, h3⟩
    obtain ⟨e, h4, h5, h6⟩ := (thn_bit n y z c b).1 h3
    exact ⟨e, h4, (thn_bit n x y a e).2 ⟨c, h1, h2, h5⟩, h6⟩
theorem zero_or (x : Tb) : orT zeroT x = x := by
  funext a
  simp [orT, zeroT]
theorem tab_seq {ss : List Snd} (hn : ss.length ≤ 32) (v : Value) (d1 : Nd) (k1 : Fo) (d2 : Nd) (k2 : Fo) : tabP ss ⟨3, (0#32, 0#32), false, 0, 0, v⟩ (.cons d1 k1 (.cons d2 k2 .nil)) = thnT ss.length (tabP ss d1 k1) (tabP ss d2 k2) := by
  show tabN ss _ [tabP ss d1 k1, tabP ss d2 k2] = _
  unfold tabN
  rw [if_neg (show ¬ (3 : Int) = 0 by decide), if_neg (show ¬ (3 : Int) = 1 by decide), if_neg (show ¬ (3 : Int) = 2 by decide), if_pos rfl]
  simp only [List.foldl_cons, List.foldl_nil]
  rw [same_thn (by omega) (OkT.pat hn d1 k1)]
theorem tab_alt (ss : List Snd) (v : Value) (d1 : Nd) (k1 : Fo) (d2 : Nd) (k2 : Fo) : tabP ss ⟨4, (0#32, 0#32), false, 0, 0, v⟩ (.cons d1 k1 (.cons d2 k2 .nil)) = orT (tabP ss d1 k1) (tabP ss d2 k2) := by
  show tabN ss _ [tabP ss d1 k1, tabP ss d2 k2] = _
  unfold tabN
  rw [if_neg (show ¬ (4 : Int) = 0 by decide), if_neg (show ¬ (4 : Int) = 1 by decide), if_neg (show ¬ (4 : Int) = 2 by decide), if_neg (show ¬ (4 : Int) = 3 by decide), if_pos rfl]
  simp only [List.foldl_cons, List.foldl_nil]
  rw [zero_or]
theorem tab_rep (ss : List Snd) (v : Value) (lo hi : Int) (d : Nd) (k : Fo) : tabP ss ⟨5, (0#32, 0#32), false, lo, hi, v⟩ (.cons d k .nil) = repT ss.length (tabP ss d k) lo.toNat hi := by
  show tabN ss _ [tabP ss d k] = _
  unfold tabN
  rw [if_neg (show ¬ (5 : Int) = 0 by decide), if_neg (show ¬ (5 : Int) = 1 by decide), if_neg (show ¬ (5 : Int) = 2 by decide), if_neg (show ¬ (5 : Int) = 3 by decide), if_neg (show ¬ (5 : Int) = 4 by decide), if_pos rfl]
  rfl
/-- Whether a place from i on, below j, leads through. -/
def thrB (x y : Tb) (i k j : Nat) : Bool := (List.range j).any fun b => decide (i ≤ b) && (x i).getLsbD b && (y b).getLsbD k
theorem thrB_start (x y : Tb) (i k : Nat) : thrB x y i k i = false := by
  unfold thrB
  rw [List.any_eq_false]
  intro b hb
  have : ¬ i ≤ b := by have := List.mem_range.1 hb; omega
  simp [this]
theorem thrB_step (x y : Tb) {i k j : Nat} (h : i ≤ j) : thrB x y i k (j + 1) = (thrB x y i k j || ((x i).getLsbD j && (y j).getLsbD k)) := by
  unfold thrB
  rw [List.range_succ, List.any_append]
  simp [h]
theorem thrB_spec {n : Nat} {x y : Tb} (hx : OkT n x) (hy : OkT n y) {i k j : Nat} (h : k < j) : thrB x y i k j = (thnT n x y i).getLsbD k := by
  apply Bool.eq_iff_iff.2
  unfold thrB
  rw [List.any_eq_true]
  constructor
  · rintro ⟨b, h1, h2⟩
    simp only [Bool.and_eq_true] at h2
    have := hx i b h2.1.2
    exact (thn_bit n x y i k).2 ⟨b, by omega, h2.1.2, h2.2⟩
  · intro hm
    obtain ⟨b, h1, h2, h3⟩ := (thn_bit n x y i k).1 hm
    have h4 := hx i b h2
    have h5 := hy b k h3
    exact ⟨b, List.mem_range.2 (by omega), by simp only [Bool.and_eq_true, decide_eq_true_eq]; exact ⟨⟨h4.1, h2⟩, h3⟩⟩
end Go.Proofs.YtmobilppakjihaaDoor

/-
  PatsSums.
-/
namespace Go.Proofs.YtmobilppakjihaaDoor
open Go.RowKit Go.Sort
theorem or_get (x y : Tb) (a b : Nat) : (orT x y a).getLsbD b = ((x a).getLsbD b || (y a).getLsbD b) := by
  unfold orT
  rw [BitVec.getLsbD_or]
set_option maxRecDepth 100000 in
set_option maxHeartbeats 16000000 in
theorem sums_any (d1 : Nd) (k1 : Fo) (d2 : Nd) (k2 : Fo) (ss : List Snd) (sv : Value) (w : World) (hp1 : Pt w d1 k1) (hp2 : Pt w d2 k2) (hW : Wd w sv ss) (hT : Tab64 w) (ht0 : 0 < w.heap.size) :
    Gives 9 #[ndV d1, ndV d2, sv] w (.bool true) := by
  unfold Gives
  have hg1 := fun (W : World) (hb : Below w.heap.size w W) => lgood_any d1 k1 ss sv W (hp1.below hb) (hW.below hb)
  have hg2 := fun (W : World) (hb : Below w.heap.size w W) => lgood_any d2 k2 ss sv W (hp2.below hb) (hW.below hb)
  have hz1 := fun (W : World) (hb : Below w.heap.size w W) => size_any d1 k1 W (hp1.below hb)
  have hz2 := fun (W : World) (hb : Below w.heap.size w W) => size_any d2 k2 W (hp2.below hb)
  have hwk : Hid (∀ W : World, Below w.heap.size w W → Gives 22 #[] W (.bool true)) := fun W hb => works_any W (hT.below hb ht0) (by have := hb.size; omega)
  have hen := fun (d : Nd) (k : Fo) (hE : mtE d k ss = 0) (W : World) (hb : Below w.heap.size w W) (hp : Pt W d k) => lends_any d k ss sv W hp (hW.below hb) (hT.below hb ht0) (by have := hb.size; omega) hE
  have ht1 := fun (W : World) (hb : Below w.heap.size w W) => hp1.below hb
  have ht2 := fun (W : World) (hb : Below w.heap.size w W) => hp2.below hb
  obtain ⟨wo, wc, rfl, lw, mw, -⟩ := hW.open
  obtain ⟨ao1, cap1, hsl1, -, -, -⟩ := hp1.open
  obtain ⟨ao2, cap2, hsl2, -, -, -⟩ := hp2.open
  have hs1 := szP_le k1
  have hs2 := szP_le k2
  obtain ⟨s1, hS1⟩ : ∃ s1, szP k1 = s1 := ⟨_, rfl⟩
  obtain ⟨s2, hS2⟩ : ∃ s2, szP k2 = s2 := ⟨_, rfl⟩
  obtain ⟨G1, hG1⟩ : ∃ G1, decide (mtE d1 k1 ss = 0) = G1 := ⟨_, rfl⟩
  obtain ⟨G2, hG2⟩ : ∃ G2, decide (mtE d2 k2 ss = 0) = G2 := ⟨_, rfl⟩
  rw [hS1] at hz1 hs1
  rw [hS2] at hz2 hs2
  rw [hG1] at hg1
  rw [hG2] at hg2
  have hmain : G1 = true → G2 = true → s1 + s2 ≤ 39 → mtE d1 k1 ss = 0 ∧ mtE d2 k2 ss = 0 ∧ ss.length ≤ 32 ∧ (∀ v, mtE ⟨3, (0#32, 0#32), false, 0, 0, v⟩ (.cons d1 k1 (.cons d2 k2 .nil)) ss = 0) ∧ (∀ v, mtE ⟨4, (0#32, 0#32), false, 0, 0, v⟩ (.cons d1 k1 (.cons d2 k2 .nil)) ss = 0) := by
    rintro h1 h2 h3
    rw [h1] at hG1
    rw [h2] at hG2
    have e1 := of_decide_eq_true hG1
    have e2 := of_decide_eq_true hG2
    have c1 := szP_lt (k := k1) (n := s1) (by omega) (by omega)
    have c2 := szP_lt (k := k2) (n := s2) (by omega) (by omega)
    obtain ⟨a1, a2, -⟩ := pkE_good (node_ok e1).1
    obtain ⟨b1, b2, -⟩ := pkE_good (node_ok e2).1
    have hk := (node_ok e1).2
    exact ⟨e1, e2, chk_len hk, fun v => mtE_of (nd_seq 2 v) ⟨a1, a2, b1, b2, trivial⟩ (by simp only [Fo.size]; omega) hk, fun v => mtE_of (nd_alt 2 v) ⟨a1, a2, b1, b2, trivial⟩ (by simp only [Fo.size]; omega) hk⟩
  obtain ⟨L, hL⟩ : ∃ L, ss.length = L := ⟨_, rfl⟩
  have hen1 : G1 = true → G2 = true → s1 + s2 ≤ 39 → ∃ T1 T2, OkT L T1 ∧ OkT L T2 ∧ L ≤ 32 ∧
      (∀ W, Below w.heap.size w W → Calls Tryd.prog 40 #[ndV d1, .slice wo ss.length wc] W fun e w' => ∃ v, e = .returned (.tuple #[v, .bool true]) ∧ Mat w' v L T1 ∧ Below W.heap.size W w') ∧
      (∀ W, Below w.heap.size w W → Calls Tryd.prog 40 #[ndV d2, .slice wo ss.length wc] W fun e w' => ∃ v, e = .returned (.tuple #[v, .bool true]) ∧ Mat w' v L T2 ∧ Below W.heap.size W w') ∧
      (∀ W B, Below w.heap.size w W → W.heap[B]? = some (.cells #[.int .i64 d1.kind, .int .u32 (d1.is.1.toNat : Int), .int .u32 (d1.is.2.toNat : Int), .bool d1.neg, .int .i64 d1.mi, .int .i64 d1.ma, d1.sl, .int .i64 d2.kind, .int .u32 (d2.is.1.toNat : Int), .int .u32 (d2.is.2.toNat : Int), .bool d2.neg, .int .i64 d2.mi, .int .i64 d2.ma, d2.sl] 27) →
        Calls Tryd.prog 40 #[.agg #[.int .i64 3, .int .u32 0, .int .u32 0, .bool false, .int .i64 0, .int .i64 0, .slice (some ⟨B, 0, none⟩) 2 2], .slice wo ss.length wc] W fun e w' => ∃ v, e = .returned (.tuple #[v, .bool true]) ∧ Mat w' v L (thnT L T1 T2) ∧ Below W.heap.size W w') ∧
      (∀ W B, Below w.heap.size w W → W.heap[B]? = some (.cells #[.int .i64 d1.kind, .int .u32 (d1.is.1.toNat : Int), .int .u32 (d1.is.2.toNat : Int), .bool d1.neg, .int .i64 d1.mi, .int .i64 d1.ma, d1.sl, .int .i64 d2.kind, .int .u32 (d2.is.1.toNat : Int), .int .u32 (d2.is.2.toNat : Int), .bool d2.neg, .int .i64 d2.mi, .int .i64 d2.ma, d2.sl] 27) →
        Calls Tryd.prog 40 #[.agg #[.int .i64 4, .int .u32 0, .int .u32 0, .bool false, .int .i64 0, .int .i64 0, .slice (some ⟨B, 0, none⟩) 2 2], .slice wo ss.length wc] W fun e w' => ∃ v, e = .returned (.tuple #[v, .bool true]) ∧ Mat w' v L (orT T1 T2) ∧ Below W.heap.size W w') := by
    intro h1 h2 h3
    obtain ⟨e1, e2, h32, e3, e4⟩ := hmain h1 h2 h3
    subst hL
    refine ⟨tabP ss d1 k1, tabP ss d2 k2, OkT.pat h32 d1 k1, OkT.pat h32 d2 k2, h32, fun W hb => hen d1 k1 e1 W hb (ht1 W hb), fun W hb => hen d2 k2 e2 W hb (ht2 W hb), fun W B hb hB => ?_, fun W B hb hB => ?_⟩
    · have h := hen _ _ (e3 (.slice (some ⟨B, 0, none⟩) 2 2)) W hb (pt_two hB (ht1 W hb) (ht2 W hb) rfl)
      rw [tab_seq h32] at h
      exact h
    · have h := hen _ _ (e4 (.slice (some ⟨B, 0, none⟩) 2 2)) W hb (pt_two hB (ht1 W hb) (ht2 W hb) rfl)
      rw [tab_alt] at h
      exact h
  clear hen hmain ht1 ht2 hG1 hG2 hS1 hS2 hT hW hp1 hp2 ht0
  rw [hL] at hg1 hg2 hen1 ⊢
  obtain ⟨kind1, ⟨p1, m1⟩, neg1, mi1, ma1, sl1⟩ := d1
  obtain ⟨kind2, ⟨p2, m2⟩, neg2, mi2, ma2, sl2⟩ := d2
  simp only at hsl1 hsl2
  subst hsl1
  subst hsl2
  obtain ⟨kl1, hkl1⟩ : ∃ kl, k1.len = kl := ⟨_, rfl⟩
  obtain ⟨kl2, hkl2⟩ : ∃ kl, k2.len = kl := ⟨_, rfl⟩
  rw [hkl1] at hg1 hz1 hen1 ⊢
  rw [hkl2] at hg2 hz2 hen1 ⊢
  unfold ndV at hg1 hg2 hz1 hz2 hen1 ⊢
  simp only at hg1 hg2 hz1 hz2 hen1 ⊢
  have HG1 := Lib.hid hg1; have HG2 := Lib.hid hg2; have HZ1 := Lib.hid hz1; have HZ2 := Lib.hid hz2; have HEN1 := Lib.hid hen1
  clear hg1 hg2 hz1 hz2 hen1 hL hkl1 hkl2 lw mw
  have R1 := Lib.hid (show ((w.alloc (.cells #[.int .i64 kind1, .int .u32 (p1.toNat : Int), .int .u32 (m1.toNat : Int), .bool neg1, .int .i64 mi1, .int .i64 ma1, .slice ao1 kl1 cap1] 27)).alloc (.cells #[.int .i64 kind2, .int .u32 (p2.toNat : Int), .int .u32 (m2.toNat : Int), .bool neg2, .int .i64 mi2, .int .i64 ma2, .slice ao2 kl2 cap2] 27)).heap[w.heap.size]? = some (.cells #[.int .i64 kind1, .int .u32 (p1.toNat : Int), .int .u32 (m1.toNat : Int), .bool neg1, .int .i64 mi1, .int .i64 ma1, .slice ao1 kl1 cap1] 27) from (Below.heap_alloc _ _ _ (by rw [World.size_alloc]; omega)).trans (World.alloc_heap_new w _))
  have R2 := Lib.hid (show ((w.alloc (.cells #[.int .i64 kind1, .int .u32 (p1.toNat : Int), .int .u32 (m1.toNat : Int), .bool neg1, .int .i64 mi1, .int .i64 ma1, .slice ao1 kl1 cap1] 27)).alloc (.cells #[.int .i64 kind2, .int .u32 (p2.toNat : Int), .int .u32 (m2.toNat : Int), .bool neg2, .int .i64 mi2, .int .i64 ma2, .slice ao2 kl2 cap2] 27)).heap[w.heap.size + 1]? = some (.cells #[.int .i64 kind2, .int .u32 (p2.toNat : Int), .int .u32 (m2.toNat : Int), .bool neg2, .int .i64 mi2, .int .i64 ma2, .slice ao2 kl2 cap2] 27) from heap_alloc2_new w _ _)
  have HB0 := Lib.hid (show Below w.heap.size w ((w.alloc (.cells #[.int .i64 kind1, .int .u32 (p1.toNat : Int), .int .u32 (m1.toNat : Int), .bool neg1, .int .i64 mi1, .int .i64 ma1, .slice ao1 kl1 cap1] 27)).alloc (.cells #[.int .i64 kind2, .int .u32 (p2.toNat : Int), .int .u32 (m2.toNat : Int), .bool neg2, .int .i64 mi2, .int .i64 ma2, .slice ao2 kl2 cap2] 27)) by go_grown)
  obtain ⟨hs1a, hs1b⟩ := hs1
  obtain ⟨hs2a, hs2b⟩ := hs2
  have hsum : IntKind.i64.wrap ((s1 : Int) + (s2 : Int)) = (s1 : Int) + (s2 : Int) := by rw [IntKind.wrap_i64]; omega
  rcases G1 with _ | _
  · go_enter Tryd.func9, Tryd.ntmps9
    go_wp2_with fail
    generalize ((w.alloc (.cells #[.int .i64 kind1, .int .u32 (p1.toNat : Int), .int .u32 (m1.toNat : Int), .bool neg1, .int .i64 mi1, .int .i64 ma1, .slice ao1 kl1 cap1] 27)).alloc (.cells #[.int .i64 kind2, .int .u32 (p2.toNat : Int), .int .u32 (m2.toNat : Int), .bool neg2, .int .i64 mi2, .int .i64 ma2, .slice ao2 kl2 cap2] 27)) = v0 at *
    have g0 := cell_block R1.out (o := 0) rfl; have g1 := cell_block R1.out (o := 1) rfl; have g2 := cell_block R1.out (o := 2) rfl; have g3 := cell_block R1.out (o := 3) rfl; have g4 := cell_block R1.out (o := 4) rfl; have g5 := cell_block R1.out (o := 5) rfl; have g6 := cell_block R1.out (o := 6) rfl
    have h0 := cell_block R2.out (o := 0) rfl; have h1 := cell_block R2.out (o := 1) rfl; have h2 := cell_block R2.out (o := 2) rfl; have h3 := cell_block R2.out (o := 3) rfl; have h4 := cell_block R2.out (o := 4) rfl; have h5 := cell_block R2.out (o := 5) rfl; have h6 := cell_block R2.out (o := 6) rfl
    have yg0 := cell_regrown g0; have yg1 := cell_regrown g1; have yg2 := cell_regrown g2; have yg3 := cell_regrown g3; have yg4 := cell_regrown g4; have yg5 := cell_regrown g5; have yg6 := cell_regrown g6; have yh0 := cell_regrown h0; have yh1 := cell_regrown h1; have yh2 := cell_regrown h2; have yh3 := cell_regrown h3; have yh4 := cell_regrown h4; have yh5 := cell_regrown h5; have yh6 := cell_regrown h6
    clear g0 g1 g2 g3 g4 g5 g6 h0 h1 h2 h3 h4 h5 h6
    refine wp_region_quiet_below (by kernel_rfl) (by kernel_rfl) ?_
    try simp only [List.append]
    repeat (go_big_quiet_step (first
      | (go_at_call 38; first | (with_reducible exact Calls.regrown_of (HG1.out _ (HB0.out.trans ((below_regrown _ _ _).mono HB0.out.size)))) | (with_reducible exact Calls.regrown_of (HG2.out _ (HB0.out.trans ((below_regrown _ _ _).mono HB0.out.size)))))
      | (go_at_call 16; first | (with_reducible exact Calls.regrown_of (HZ1.out _ (HB0.out.trans ((below_regrown _ _ _).mono HB0.out.size)))) | (with_reducible exact Calls.regrown_of (HZ2.out _ (HB0.out.trans ((below_regrown _ _ _).mono HB0.out.size)))))))
    refine wpQuiet_nil ?_
    intro w1 hw1
    have hb1 : Below v0.heap.size v0 w1 := by obtain ⟨q, rfl⟩ := hw1; exact below_regrown _ _ _
    have HB1 := Lib.hid (HB0.out.trans (hb1.mono HB0.out.size))
    clear hw1 yg0 yg1 yg2 yg3 yg4 yg5 yg6 yh0 yh1 yh2 yh3 yh4 yh5 yh6
    clear hb1 R1 R2 HB0 HG1 HG2 HZ1 HZ2 HEN1
    go_wp2_with (go_at_call 22; refine Gives.then (hwk.out _ HB1.out) ?_; intro w9 hb9)
    go_returns
    exact ⟨rfl, HB1.out.trans (hb9.mono HB1.out.size)⟩
  rcases G2 with _ | _
  · go_enter Tryd.func9, Tryd.ntmps9
    go_wp2_with fail
    generalize ((w.alloc (.cells #[.int .i64 kind1, .int .u32 (p1.toNat : Int), .int .u32 (m1.toNat : Int), .bool neg1, .int .i64 mi1, .int .i64 ma1, .slice ao1 kl1 cap1] 27)).alloc (.cells #[.int .i64 kind2, .int .u32 (p2.toNat : Int), .int .u32 (m2.toNat : Int), .bool neg2, .int .i64 mi2, .int .i64 ma2, .slice ao2 kl2 cap2] 27)) = v0 at *
    have g0 := cell_block R1.out (o := 0) rfl; have g1 := cell_block R1.out (o := 1) rfl; have g2 := cell_block R1.out (o := 2) rfl; have g3 := cell_block R1.out (o := 3) rfl; have g4 := cell_block R1.out (o := 4) rfl; have g5 := cell_block R1.out (o := 5) rfl; have g6 := cell_block R1.out (o := 6) rfl
    have h0 := cell_block R2.out (o := 0) rfl; have h1 := cell_block R2.out (o := 1) rfl; have h2 := cell_block R2.out (o := 2) rfl; have h3 := cell_block R2.out (o := 3) rfl; have h4 := cell_block R2.out (o := 4) rfl; have h5 := cell_block R2.out (o := 5) rfl; have h6 := cell_block R2.out (o := 6) rfl
    have yg0 := cell_regrown g0; have yg1 := cell_regrown g1; have yg2 := cell_regrown g2; have yg3 := cell_regrown g3; have yg4 := cell_regrown g4; have yg5 := cell_regrown g5; have yg6 := cell_regrown g6; have yh0 := cell_regrown h0; have yh1 := cell_regrown h1; have yh2 := cell_regrown h2; have yh3 := cell_regrown h3; have yh4 := cell_regrown h4; have yh5 := cell_regrown h5; have yh6 := cell_regrown h6
    clear g0 g1 g2 g3 g4 g5 g6 h0 h1 h2 h3 h4 h5 h6
    refine wp_region_quiet_below (by kernel_rfl) (by kernel_rfl) ?_
    try simp only [List.append]
    repeat (go_big_quiet_step (first
      | (go_at_call 38; first | (with_reducible exact Calls.regrown_of (HG1.out _ (HB0.out.trans ((below_regrown _ _ _).mono HB0.out.size)))) | (with_reducible exact Calls.regrown_of (HG2.out _ (HB0.out.trans ((below_regrown _ _ _).mono HB0.out.size)))))
      | (go_at_call 16; first | (with_reducible exact Calls.regrown_of (HZ1.out _ (HB0.out.trans ((below_regrown _ _ _).mono HB0.out.size)))) | (with_reducible exact Calls.regrown_of (HZ2.out _ (HB0.out.trans ((below_regrown _ _ _).mono HB0.out.size)))))))
    refine wpQuiet_nil ?_
    intro w1 hw1
    have hb1 : Below v0.heap.size v0 w1 := by obtain ⟨q, rfl⟩ := hw1; exact below_regrown _ _ _
    have HB1 := Lib.hid (HB0.out.trans (hb1.mono HB0.out.size))
    clear hw1 yg0 yg1 yg2 yg3 yg4 yg5 yg6 yh0 yh1 yh2 yh3 yh4 yh5 yh6
    clear hb1 R1 R2 HB0 HG1 HG2 HZ1 HZ2 HEN1
    go_wp2_with (go_at_call 22; refine Gives.then (hwk.out _ HB1.out) ?_; intro w9 hb9)
    go_returns
    exact ⟨rfl, HB1.out.trans (hb9.mono HB1.out.size)⟩
  by_cases h39 : s1 + s2 ≤ 39
  · have h39i : ¬ (39 : Int) < (s1 : Int) + (s2 : Int) := by omega
    have h39n : ¬ 39 < s1 + s2 := by omega
    obtain ⟨T1, T2, ok1, ok2, h32, en1, en2, en3, en4⟩ := HEN1.out rfl rfl h39
    have OK1 := Lib.hid ok1; have OK2 := Lib.hid ok2; have E1 := Lib.hid en1; have E2 := Lib.hid en2; have E3 := Lib.hid en3; have E4 := Lib.hid en4
    clear ok1 ok2 en1 en2 en3 en4 HEN1
    go_enter Tryd.func9, Tryd.ntmps9
    go_wp2_with fail
    generalize ((w.alloc (.cells #[.int .i64 kind1, .int .u32 (p1.toNat : Int), .int .u32 (m1.toNat : Int), .bool neg1, .int .i64 mi1, .int .i64 ma1, .slice ao1 kl1 cap1] 27)).alloc (.cells #[.int .i64 kind2, .int .u32 (p2.toNat : Int), .int .u32 (m2.toNat : Int), .bool neg2, .int .i64 mi2, .int .i64 ma2, .slice ao2 kl2 cap2] 27)) = v0 at *
    have g0 := cell_block R1.out (o := 0) rfl; have g1 := cell_block R1.out (o := 1) rfl; have g2 := cell_block R1.out (o := 2) rfl; have g3 := cell_block R1.out (o := 3) rfl; have g4 := cell_block R1.out (o := 4) rfl; have g5 := cell_block R1.out (o := 5) rfl; have g6 := cell_block R1.out (o := 6) rfl
    have h0 := cell_block R2.out (o := 0) rfl; have h1 := cell_block R2.out (o := 1) rfl; have h2 := cell_block R2.out (o := 2) rfl; have h3 := cell_block R2.out (o := 3) rfl; have h4 := cell_block R2.out (o := 4) rfl; have h5 := cell_block R2.out (o := 5) rfl; have h6 := cell_block R2.out (o := 6) rfl
    have yg0 := cell_regrown g0; have yg1 := cell_regrown g1; have yg2 := cell_regrown g2; have yg3 := cell_regrown g3; have yg4 := cell_regrown g4; have yg5 := cell_regrown g5; have yg6 := cell_regrown g6; have yh0 := cell_regrown h0; have yh1 := cell_regrown h1; have yh2 := cell_regrown h2; have yh3 := cell_regrown h3; have yh4 := cell_regrown h4; have yh5 := cell_regrown h5; have yh6 := cell_regrown h6
    clear g0 g1 g2 g3 g4 g5 g6 h0 h1 h2 h3 h4 h5 h6
    refine wp_region_quiet_below (by kernel_rfl) (by kernel_rfl) ?_
    try simp only [List.append]
    repeat (go_big_quiet_step (first
      | (go_at_call 38; first | (with_reducible exact Calls.regrown_of (HG1.out _ (HB0.out.trans ((below_regrown _ _ _).mono HB0.out.size)))) | (with_reducible exact Calls.regrown_of (HG2.out _ (HB0.out.trans ((below_regrown _ _ _).mono HB0.out.size)))))
      | (go_at_call 16; first | (with_reducible exact Calls.regrown_of (HZ1.out _ (HB0.out.trans ((below_regrown _ _ _).mono HB0.out.size)))) | (with_reducible exact Calls.regrown_of (HZ2.out _ (HB0.out.trans ((below_regrown _ _ _).mono HB0.out.size)))))))
    refine wpQuiet_nil ?_
    intro w1 hw1
    have hb1 : Below v0.heap.size v0 w1 := by obtain ⟨q, rfl⟩ := hw1; exact below_regrown _ _ _
    have HB1 := Lib.hid (HB0.out.trans (hb1.mono HB0.out.size))
    clear hw1 yg0 yg1 yg2 yg3 yg4 yg5 yg6 yh0 yh1 yh2 yh3 yh4 yh5 yh6
    have R1_n := Lib.hid ((hb1.block _ (Array.getElem?_eq_some_iff.1 R1.out).1).trans R1.out); have R2_n := Lib.hid ((hb1.block _ (Array.getElem?_eq_some_iff.1 R2.out).1).trans R2.out); clear R1 R2; have R1 := R1_n; have R2 := R2_n; clear R1_n R2_n
    clear hb1 HB0 HG1 HG2 HZ1 HZ2
    have g0 := cell_block R1.out (o := 0) rfl; have g1 := cell_block R1.out (o := 1) rfl; have g2 := cell_block R1.out (o := 2) rfl; have g3 := cell_block R1.out (o := 3) rfl; have g4 := cell_block R1.out (o := 4) rfl; have g5 := cell_block R1.out (o := 5) rfl; have g6 := cell_block R1.out (o := 6) rfl
    have h0 := cell_block R2.out (o := 0) rfl; have h1 := cell_block R2.out (o := 1) rfl; have h2 := cell_block R2.out (o := 2) rfl; have h3 := cell_block R2.out (o := 3) rfl; have h4 := cell_block R2.out (o := 4) rfl; have h5 := cell_block R2.out (o := 5) rfl; have h6 := cell_block R2.out (o := 6) rfl
    go_wp2_with fail
    go_at_call 40
    refine (E1.out _ HB1.out).mono ?_
    rintro e w2 ⟨lv1, rfl, hmat, hb⟩
    obtain ⟨lb1, lc1, rfl, hrow⟩ := hmat.open
    have HR1 := Lib.hid hrow
    have HB2 := Lib.hid (HB1.out.trans (hb.mono HB1.out.size))
    clear g0 g1 g2 g3 g4 g5 g6 h0 h1 h2 h3 h4 h5 h6
    have R1_n := Lib.hid ((hb.block _ (Array.getElem?_eq_some_iff.1 R1.out).1).trans R1.out); have R2_n := Lib.hid ((hb.block _ (Array.getElem?_eq_some_iff.1 R2.out).1).trans R2.out); clear R1 R2; have R1 := R1_n; have R2 := R2_n; clear R1_n R2_n
    clear hmat hrow hb HB1 E1
    have g0 := cell_block R1.out (o := 0) rfl; have g1 := cell_block R1.out (o := 1) rfl; have g2 := cell_block R1.out (o := 2) rfl; have g3 := cell_block R1.out (o := 3) rfl; have g4 := cell_block R1.out (o := 4) rfl; have g5 := cell_block R1.out (o := 5) rfl; have g6 := cell_block R1.out (o := 6) rfl
    have h0 := cell_block R2.out (o := 0) rfl; have h1 := cell_block R2.out (o := 1) rfl; have h2 := cell_block R2.out (o := 2) rfl; have h3 := cell_block R2.out (o := 3) rfl; have h4 := cell_block R2.out (o := 4) rfl; have h5 := cell_block R2.out (o := 5) rfl; have h6 := cell_block R2.out (o := 6) rfl
    go_wp2_with fail
    go_at_call 40
    refine (E2.out _ HB2.out).mono ?_
    rintro e w3 ⟨lv2, rfl, hmat, hb⟩
    obtain ⟨lb2, lc2, rfl, hrow⟩ := hmat.open
    have HR2 := Lib.hid hrow
    have HB3 := Lib.hid (HB2.out.trans (hb.mono HB2.out.size))
    have HC3 := Lib.hid hb
    clear g0 g1 g2 g3 g4 g5 g6 h0 h1 h2 h3 h4 h5 h6
    have R1_n := Lib.hid ((hb.block _ (Array.getElem?_eq_some_iff.1 R1.out).1).trans R1.out); have R2_n := Lib.hid ((hb.block _ (Array.getElem?_eq_some_iff.1 R2.out).1).trans R2.out); clear R1 R2; have R1 := R1_n; have R2 := R2_n; clear R1_n R2_n
    clear hmat hrow hb HB2 E2
    have g0 := cell_block R1.out (o := 0) rfl; have g1 := cell_block R1.out (o := 1) rfl; have g2 := cell_block R1.out (o := 2) rfl; have g3 := cell_block R1.out (o := 3) rfl; have g4 := cell_block R1.out (o := 4) rfl; have g5 := cell_block R1.out (o := 5) rfl; have g6 := cell_block R1.out (o := 6) rfl
    have h0 := cell_block R2.out (o := 0) rfl; have h1 := cell_block R2.out (o := 1) rfl; have h2 := cell_block R2.out (o := 2) rfl; have h3 := cell_block R2.out (o := 3) rfl; have h4 := cell_block R2.out (o := 4) rfl; have h5 := cell_block R2.out (o := 5) rfl; have h6 := cell_block R2.out (o := 6) rfl
    go_wp2_with fail
    refine calls_gen ?_
    intro V3 hV3
    have s3 : Below w3.heap.size w3 V3 := by rw [hV3]; go_grown
    have b3 : V3.heap[w3.heap.size]? = some (.cells #[.int .i64 kind1, .int .u32 (p1.toNat : Int), .int .u32 (m1.toNat : Int), .bool neg1, .int .i64 mi1, .int .i64 ma1, .slice ao1 kl1 cap1, .int .i64 kind2, .int .u32 (p2.toNat : Int), .int .u32 (m2.toNat : Int), .bool neg2, .int .i64 mi2, .int .i64 ma2, .slice ao2 kl2 cap2] 27) := by rw [hV3]; exact World.alloc_heap_new _ _
    clear hV3
    have lV3 := (Array.getElem?_eq_some_iff.1 b3).1
    clear g0 g1 g2 g3 g4 g5 g6 h0 h1 h2 h3 h4 h5 h6
    go_at_call 41
    refine Gives.then (lseq_any _ _ _ V3) ?_
    intro w4 hb4
    have B4 := Lib.hid ((hb4.block _ lV3).trans b3)
    have hb := s3.trans (hb4.mono s3.size)
    have HB4 := Lib.hid (HB3.out.trans (hb.mono HB3.out.size))
    have HC4 := Lib.hid hb
    have R1_n := Lib.hid ((hb.block _ (Array.getElem?_eq_some_iff.1 R1.out).1).trans R1.out); have R2_n := Lib.hid ((hb.block _ (Array.getElem?_eq_some_iff.1 R2.out).1).trans R2.out); clear R1 R2; have R1 := R1_n; have R2 := R2_n; clear R1_n R2_n
    clear hb s3 b3 hb4 lV3 HB3
    go_wp2_with fail
    go_at_call 40
    refine (E3.out _ _ HB4.out B4.out).mono ?_
    rintro e w5 ⟨lv3, rfl, hmat, hb⟩
    obtain ⟨lb3, lc3, rfl, hrow⟩ := hmat.open
    have HR3 := Lib.hid hrow
    have HB5 := Lib.hid (HB4.out.trans (hb.mono HB4.out.size))
    have HC5 := Lib.hid hb
    have R1_n := Lib.hid ((hb.block _ (Array.getElem?_eq_some_iff.1 R1.out).1).trans R1.out); have R2_n := Lib.hid ((hb.block _ (Array.getElem?_eq_some_iff.1 R2.out).1).trans R2.out); clear R1 R2; have R1 := R1_n; have R2 := R2_n; clear R1_n R2_n
    clear hmat hrow hb HB4 E3 B4
    have g0 := cell_block R1.out (o := 0) rfl; have g1 := cell_block R1.out (o := 1) rfl; have g2 := cell_block R1.out (o := 2) rfl; have g3 := cell_block R1.out (o := 3) rfl; have g4 := cell_block R1.out (o := 4) rfl; have g5 := cell_block R1.out (o := 5) rfl; have g6 := cell_block R1.out (o := 6) rfl
    have h0 := cell_block R2.out (o := 0) rfl; have h1 := cell_block R2.out (o := 1) rfl; have h2 := cell_block R2.out (o := 2) rfl; have h3 := cell_block R2.out (o := 3) rfl; have h4 := cell_block R2.out (o := 4) rfl; have h5 := cell_block R2.out (o := 5) rfl; have h6 := cell_block R2.out (o := 6) rfl
    go_wp2_with fail
    refine calls_gen ?_
    intro V5 hV5
    have s5 : Below w5.heap.size w5 V5 := by rw [hV5]; go_grown
    have b5 : V5.heap[w5.heap.size]? = some (.cells #[.int .i64 kind1, .int .u32 (p1.toNat : Int), .int .u32 (m1.toNat : Int), .bool neg1, .int .i64 mi1, .int .i64 ma1, .slice ao1 kl1 cap1, .int .i64 kind2, .int .u32 (p2.toNat : Int), .int .u32 (m2.toNat : Int), .bool neg2, .int .i64 mi2, .int .i64 ma2, .slice ao2 kl2 cap2] 27) := by rw [hV5]; exact World.alloc_heap_new _ _
    clear hV5
    clear g0 g1 g2 g3 g4 g5 g6 h0 h1 h2 h3 h4 h5 h6
    clear R1 R2
    go_at_call 40
    refine (E4.out _ _ (HB5.out.trans (s5.mono HB5.out.size)) b5).mono ?_
    rintro e w6 ⟨lv4, rfl, hmat, hb⟩
    obtain ⟨lb4, lc4, rfl, hrow⟩ := hmat.open
    have HR4 := Lib.hid hrow
    have hb5 := s5.trans (hb.mono s5.size)
    have HB6 := Lib.hid (HB5.out.trans (hb5.mono HB5.out.size))
    have HC6 := Lib.hid hb5
    clear hmat hrow hb b5 s5 hb5 HB5 E4
    have n5 := fun wr (hw : Below w6.heap.size w6 wr) => HC6.out.trans (hw.mono HC6.out.size)
    have n4 := fun wr (hw : Below w6.heap.size w6 wr) => HC5.out.trans ((n5 wr hw).mono HC5.out.size)
    have n3 := fun wr (hw : Below w6.heap.size w6 wr) => HC4.out.trans ((n4 wr hw).mono HC4.out.size)
    have n2 := fun wr (hw : Below w6.heap.size w6 wr) => HC3.out.trans ((n3 wr hw).mono HC3.out.size)
    have M1 := Lib.hid (fun wr (hw : Below w6.heap.size w6 wr) => HR1.out wr (n2 wr hw))
    have M2 := Lib.hid (fun wr (hw : Below w6.heap.size w6 wr) => HR2.out wr (n3 wr hw))
    have M3 := Lib.hid (fun wr (hw : Below w6.heap.size w6 wr) => HR3.out wr (n5 wr hw))
    have M4 := Lib.hid (fun wr (hw : Below w6.heap.size w6 wr) => HR4.out wr hw)
    clear n2 n3 n4 n5 HR1 HR2 HR3 HR4 HC3 HC4 HC5 HC6
    go_wp2_with fail
    go_loopw [15] (fun i wr => ∃ i' : Nat, i' ≤ L + 1 ∧ i = .int .i64 (i' : Int) ∧ Below w6.heap.size w6 wr) (fun i _ => L + 1 - (intOf i).toNat)
    case atStart => exact ⟨0, by omega, rfl, Below.refl _ _⟩
    case round =>
    obtain ⟨i, hi, rfl, hw⟩ := hrel
    have HW := Lib.hid hw
    clear hw
    by_cases hil : i < L + 1
    · have hiL : (i : Int) ≤ (L : Int) := by omega
      have hiN : i ≤ L := by omega
      have hii : (i : Int) < (L : Int) + 1 := by omega
      obtain ⟨W4, hW4⟩ : ∃ W4, W4 = wr := ⟨_, rfl⟩
      subst hW4
      go_wp2_with fail
      go_loopw [16] (fun i' wr => ∃ y : Nat, y ≤ L + 1 ∧ i' = .int .i64 (y : Int) ∧ Below w6.heap.size w6 wr) (fun i' _ => L + 1 - (intOf i').toNat)
      case atStart => exact ⟨0, by omega, rfl, HW.out⟩
      case round =>
      obtain ⟨y, hy, rfl, hw⟩ := hrel
      have HW5 := Lib.hid hw
      clear hw
      by_cases hyl : y < L + 1
      · have hyL : (y : Int) ≤ (L : Int) := by omega
        have hyN : y ≤ L := by omega
        have hyy : (y : Int) < (L : Int) + 1 := by omega
        obtain ⟨W5, hW5⟩ : ∃ W5, W5 = wr := ⟨_, rfl⟩
        subst hW5
        go_wp2_with fail
        go_loopw [17, 18] (fun t j wr => ∃ j' : Nat, i ≤ j' ∧ (j' ≤ y + 1 ∨ j' = i) ∧ t = .bool (thrB T1 T2 i y j') ∧ j = .int .i64 (j' : Int) ∧ Below w6.heap.size w6 wr) (fun _ j _ => L + 2 - (intOf j).toNat)
        case atStart => exact ⟨i, Nat.le_refl _, .inr rfl, by rw [thrB_start], rfl, HW5.out⟩
        case round =>
        obtain ⟨j, hij, hjy, rfl, rfl, hw⟩ := hrel
        have HW6 := Lib.hid hw
        clear hw
        by_cases hjl : j ≤ y
        · have hjL : (j : Int) ≤ (y : Int) := by omega
          have hjj : (j : Int) < (L : Int) + 1 := by omega
          have hjj2 : j < L + 1 := by omega
          obtain ⟨c1, a1, a2⟩ := M1.out wr HW6.out i hiN
          have a3 := a2 j (by omega)
          obtain ⟨c2, b1, b2⟩ := M2.out wr HW6.out j (by omega)
          have b3 := b2 y hyN
          clear a2 b2
          have hstep := thrB_step T1 T2 (k := y) hij
          obtain ⟨t, ht⟩ : ∃ t, thrB T1 T2 i y j = t := ⟨_, rfl⟩
          rw [ht] at hstep ⊢
          obtain ⟨z1, hz1⟩ : ∃ z, (T1 i).getLsbD j = z := ⟨_, rfl⟩
          obtain ⟨z2, hz2⟩ : ∃ z, (T2 j).getLsbD y = z := ⟨_, rfl⟩
          rw [hz1] at hstep a3
          rw [hz2] at hstep b3
          have HST := Lib.hid hstep
          clear ht hz1 hz2 hstep
          rcases t with _ | _ <;> rcases z1 with _ | _ <;> rcases z2 with _ | _
          all_goals
            go_wp2_with fail
            go_roundw
            case rel => exact ⟨j + 1, by omega, by omega, by rw [HST.out]; rfl, by go_num, HW6.out⟩
            case measure => simp [intOf]; omega
        · have hjL : ¬ (j : Int) ≤ (y : Int) := by omega
          have hspec := thrB_spec OK1.out OK2.out (i := i) (k := y) (j := j) (by omega)
          rw [hspec]
          obtain ⟨c1, a1, a2⟩ := M1.out wr HW6.out i hiN
          have a3 := a2 y hyN
          obtain ⟨c2, b1, b2⟩ := M2.out wr HW6.out i hiN
          have b3 := b2 y hyN
          obtain ⟨c3, e1, e2⟩ := M3.out wr HW6.out i hiN
          have e3 := e2 y hyN
          obtain ⟨c4, f1, f2⟩ := M4.out wr HW6.out i hiN
          have f3 := f2 y hyN
          rw [or_get] at f3
          obtain ⟨t, ht⟩ : ∃ t, (thnT L T1 T2 i).getLsbD y = t := ⟨_, rfl⟩
          obtain ⟨z1, hz1⟩ : ∃ z, (T1 i).getLsbD y = z := ⟨_, rfl⟩
          obtain ⟨z2, hz2⟩ : ∃ z, (T2 i).getLsbD y = z := ⟨_, rfl⟩
          rw [hz1] at a3 f3
          rw [hz2] at b3 f3
          rw [ht] at e3 ⊢
          clear a2 b2 e2 f2 ht hz1 hz2 hspec hjy hij hjl
          rcases t with _ | _ <;> rcases z1 with _ | _ <;> rcases z2 with _ | _
          all_goals
            simp only [Bool.or_false, Bool.or_true, Bool.false_or, Bool.true_or] at f3
            go_wp2_with fail
            have x0 := cell_regrown a1; have x1 := cell_regrown a3; have x2 := cell_regrown b1; have x3 := cell_regrown b3; have x4 := cell_regrown e1; have x5 := cell_regrown e3; have x6 := cell_regrown f1; have x7 := cell_regrown f3
            refine wp_region_quiet_below (by kernel_rfl) (by kernel_rfl) ?_
            try simp only [List.append]
            repeat (go_big_quiet_step (fail))
            refine wpQuiet_nil ?_
            intro w11 hw11
            have HW11 := Lib.hid (HW6.out.trans (show Below w6.heap.size wr w11 from by obtain ⟨q, rfl⟩ := hw11; exact (below_regrown _ _ _).mono HW6.out.size))
            clear hw11 x0 x1 x2 x3 x4 x5 x6 x7 a1 a3 b1 b3 e1 e3 f1 f3
            go_wp2_with fail
            go_roundw
            case rel => exact ⟨y + 1, by omega, by go_num, HW11.out⟩
            case measure => simp [intOf]; omega
      · obtain rfl : y = L + 1 := by omega
        clear hyl
        go_wp2_with fail
        go_roundw
        case rel => exact ⟨i + 1, by omega, by go_num, HW5.out⟩
        case measure => simp [intOf]; omega
    · obtain rfl : i = L + 1 := by omega
      have HBW := Lib.hid (HB6.out.trans (HW.out.mono HB6.out.size))
      clear hil
      go_wp2_with (go_at_call 22; refine Gives.then (hwk.out _ HBW.out) ?_; intro w9 hb9)
      go_returns
      exact ⟨rfl, HBW.out.trans (hb9.mono HBW.out.size)⟩
  · have h39i : (39 : Int) < (s1 : Int) + (s2 : Int) := by omega
    have h39n : 39 < s1 + s2 := by omega
    clear h39
    go_enter Tryd.func9, Tryd.ntmps9
    go_wp2_with fail
    generalize ((w.alloc (.cells #[.int .i64 kind1, .int .u32 (p1.toNat : Int), .int .u32 (m1.toNat : Int), .bool neg1, .int .i64 mi1, .int .i64 ma1, .slice ao1 kl1 cap1] 27)).alloc (.cells #[.int .i64 kind2, .int .u32 (p2.toNat : Int), .int .u32 (m2.toNat : Int), .bool neg2, .int .i64 mi2, .int .i64 ma2, .slice ao2 kl2 cap2] 27)) = v0 at *
    have g0 := cell_block R1.out (o := 0) rfl; have g1 := cell_block R1.out (o := 1) rfl; have g2 := cell_block R1.out (o := 2) rfl; have g3 := cell_block R1.out (o := 3) rfl; have g4 := cell_block R1.out (o := 4) rfl; have g5 := cell_block R1.out (o := 5) rfl; have g6 := cell_block R1.out (o := 6) rfl
    have h0 := cell_block R2.out (o := 0) rfl; have h1 := cell_block R2.out (o := 1) rfl; have h2 := cell_block R2.out (o := 2) rfl; have h3 := cell_block R2.out (o := 3) rfl; have h4 := cell_block R2.out (o := 4) rfl; have h5 := cell_block R2.out (o := 5) rfl; have h6 := cell_block R2.out (o := 6) rfl
    have yg0 := cell_regrown g0; have yg1 := cell_regrown g1; have yg2 := cell_regrown g2; have yg3 := cell_regrown g3; have yg4 := cell_regrown g4; have yg5 := cell_regrown g5; have yg6 := cell_regrown g6; have yh0 := cell_regrown h0; have yh1 := cell_regrown h1; have yh2 := cell_regrown h2; have yh3 := cell_regrown h3; have yh4 := cell_regrown h4; have yh5 := cell_regrown h5; have yh6 := cell_regrown h6
    clear g0 g1 g2 g3 g4 g5 g6 h0 h1 h2 h3 h4 h5 h6
    refine wp_region_quiet_below (by kernel_rfl) (by kernel_rfl) ?_
    try simp only [List.append]
    repeat (go_big_quiet_step (first
      | (go_at_call 38; first | (with_reducible exact Calls.regrown_of (HG1.out _ (HB0.out.trans ((below_regrown _ _ _).mono HB0.out.size)))) | (with_reducible exact Calls.regrown_of (HG2.out _ (HB0.out.trans ((below_regrown _ _ _).mono HB0.out.size)))))
      | (go_at_call 16; first | (with_reducible exact Calls.regrown_of (HZ1.out _ (HB0.out.trans ((below_regrown _ _ _).mono HB0.out.size)))) | (with_reducible exact Calls.regrown_of (HZ2.out _ (HB0.out.trans ((below_regrown _ _ _).mono HB0.out.size)))))))
    refine wpQuiet_nil ?_
    intro w1 hw1
    have hb1 : Below v0.heap.size v0 w1 := by obtain ⟨q, rfl⟩ := hw1; exact below_regrown _ _ _
    have HB1 := Lib.hid (HB0.out.trans (hb1.mono HB0.out.size))
    clear hw1 yg0 yg1 yg2 yg3 yg4 yg5 yg6 yh0 yh1 yh2 yh3 yh4 yh5 yh6
    clear hb1 R1 R2 HB0 HG1 HG2 HZ1 HZ2 HEN1
    go_wp2_with (go_at_call 22; refine Gives.then (hwk.out _ HB1.out) ?_; intro w9 hb9)
    go_returns
    exact ⟨rfl, HB1.out.trans (hb9.mono HB1.out.size)⟩
end Go.Proofs.YtmobilppakjihaaDoor
