/-
  Lemmas that the theorem of this claim rests on: 3 texts, one behind the other.
-/
import Derived.Test.YtmobilppakjihaaDoorM21
import Derived.Test.YtmobilppakjihaaDoorM17
set_option linter.unusedSimpArgs false
set_option linter.unusedVariables false
/-
  PatsBoth.
-/
namespace Go.Proofs.YtmobilppakjihaaDoor
open Go.RowKit Go.Sort
theorem begL_get (T : Tb) (e a : Nat) (h : (T a).getLsbD e = true) : ∀ n, a < n → (begL T e n)[(begL T e a).length]? = some a
  | 0, hn => by omega
  | n + 1, hn => by
    rw [begL_step]
    by_cases ha : a = n
    · subst ha
      rw [if_pos h, List.getElem?_append_right (Nat.le_refl _)]
      simp
    · have ih := begL_get T e a h n (by omega)
      have hl := (List.getElem?_eq_some_iff.1 ih).1
      rw [List.getElem?_append_left hl]
      exact ih
theorem begL_stable {T : Tb} {e L : Nat} (h : ∀ a, L < a → (T a).getLsbD e = false) : ∀ n, L + 1 ≤ n → begL T e n = begL T e (L + 1) := by
  intro n hn
  induction n with
  | zero => omega
  | succ n ih =>
    by_cases hx : n = L
    · rw [hx]
    · rw [begL_step, h n (by omega), ih (by omega)]
      simp
theorem Mat.open {W : World} {v : Value} {L : Nat} {T : Tb} (h : Mat W v L T) : ∃ b cap, v = .slice (some ⟨b, 0, none⟩) (L + 1) cap ∧ ∀ W', Below W.heap.size W W' → ∀ i, i ≤ L → ∃ c, W'.cell? ⟨b, i, none⟩ = some (.slice (some ⟨c, 0, none⟩) (L + 1) (L + 1)) ∧ ∀ j, j ≤ L → W'.cell? ⟨c, j, none⟩ = some (.bool ((T i).getLsbD j)) := by
  have hm := h
  obtain ⟨b, cap, h1, -⟩ := h
  subst h1
  refine ⟨b, cap, rfl, fun W' hb i hi => ?_⟩
  obtain ⟨b', cap', h1, _, _, _, h5⟩ := hm.below hb
  cases h1
  obtain ⟨c, c1, c2⟩ := h5 i hi
  exact ⟨c, c1, fun j hj => c2.cell hj⟩
set_option maxRecDepth 100000 in
set_option maxHeartbeats 8000000 in
theorem both_any (d : Nd) (k : Fo) (ss : List Snd) (sv : Value) (w : World) (hp : Pt w d k) (hW : Wd w sv ss) (hT : Tab64 w) (ht0 : 0 < w.heap.size) :
    Gives 8 #[ndV d, sv] w (.bool true) := by
  unfold Gives
  have hgd := fun (W : World) (hb : Below w.heap.size w W) => lgood_any d k ss sv W (hp.below hb) (hW.below hb)
  have hwk : Hid (∀ W : World, Below w.heap.size w W → Gives 22 #[] W (.bool true)) := fun W hb => works_any W (hT.below hb ht0) (by have := hb.size; omega)
  have hen := fun (hE : mtE d k ss = 0) (W : World) (hb : Below w.heap.size w W) => lends_any d k ss sv W (hp.below hb) (hW.below hb) (hT.below hb ht0) (by have := hb.size; omega) hE
  have hmt := fun (W : World) (hb : Below w.heap.size w W) => matches_any d k ss sv W (hp.below hb) (hW.below hb) (hT.below hb ht0) (by have := hb.size; omega)
  have hbg := fun (a : Nat) (W : World) (hb : Below w.heap.size w W) => begins_any d k ss sv (a : Int) W (hp.below hb) (hW.below hb) (hT.below hb ht0) (by have := hb.size; omega)
  obtain ⟨wo, wc, rfl, lw, mw, -⟩ := hW.open
  obtain ⟨ao, cap, hsl, -, -, -⟩ := hp.open
  by_cases hE : mtE d k ss = 0
  · have h32 := chk_len (node_ok hE).2
    have hma0 : ∀ a : Nat, a ≤ ss.length → maE d k ss (a : Int) = 0 := fun a ha => by
      unfold maE
      rw [if_pos hE, if_pos ⟨by omega, by omega⟩]
    replace hen := hen hE
    have hbg2 : ∀ a : Nat, a ≤ ss.length → ∀ W, Below w.heap.size w W → Calls Tryd.prog 25 #[ndV d, .slice wo ss.length wc, .int .i64 (a : Int)] W fun e w' => ∃ v, e = .returned (.tuple #[v, .int .i64 0]) ∧ OwnI w' W.heap.size v (begL (tabP ss d k) a 33) ∧ Below W.heap.size W w' := fun a ha W hb => by
      have h := hbg a W hb
      rw [hma0 a ha] at h
      have e : bgL d k ss (a : Int) = begL (tabP ss d k) a 33 := by
        unfold bgL
        rw [if_pos (hma0 a ha), Int.toNat_natCast]
      rw [e] at h
      exact h
    have hms : mtsB d k ss = ((tabP ss d k) 0).getLsbD ss.length := by unfold mtsB; simp [hE]
    rw [hE] at hmt hgd
    rw [hms] at hmt
    have hok : OkT ss.length (tabP ss d k) := OkT.pat h32 d k
    generalize tabP ss d k = T at *
    obtain ⟨L, hL⟩ : ∃ L, ss.length = L := ⟨_, rfl⟩
    rw [hL] at hgd hen hmt hbg2 hok h32 ⊢
    obtain ⟨kind, ⟨p, m⟩, neg, mi, ma, sl⟩ := d
    simp only at hsl
    subst hsl
    obtain ⟨kl, hkl⟩ : ∃ kl, k.len = kl := ⟨_, rfl⟩
    rw [hkl] at hgd hen hmt hbg2 ⊢
    unfold ndV at hgd hen hmt hbg2 ⊢
    simp only at hgd hen hmt hbg2 ⊢
    have HGD := Lib.hid hgd; have HEN := Lib.hid hen; have HMT := Lib.hid hmt; have HBG := Lib.hid hbg2; have HOK := Lib.hid hok
    clear hgd hen hmt hbg hbg2 hp hW hT ht0 hE hma0 hok hL hkl lw mw hms
    have R0 := Lib.hid (World.alloc_heap_new w (.cells #[.int .i64 kind, .int .u32 (p.toNat : Int), .int .u32 (m.toNat : Int), .bool neg, .int .i64 mi, .int .i64 ma, .slice ao kl cap] 27))
    have hB0 : Below w.heap.size w (w.alloc (.cells #[.int .i64 kind, .int .u32 (p.toNat : Int), .int .u32 (m.toNat : Int), .bool neg, .int .i64 mi, .int .i64 ma, .slice ao kl cap] 27)) := by go_grown
    have HB0 := Lib.hid hB0
    clear hB0
    go_enter Tryd.func8, Tryd.ntmps8
    go_wp2_with fail
    generalize (w.alloc (.cells #[.int .i64 kind, .int .u32 (p.toNat : Int), .int .u32 (m.toNat : Int), .bool neg, .int .i64 mi, .int .i64 ma, .slice ao kl cap] 27)) = v0 at *
    go_at_call 38
    refine Gives.then (HGD.out _ HB0.out) ?_
    intro w1 hb1
    have HB1 := Lib.hid (HB0.out.trans (hb1.mono HB0.out.size))
    have R1 := Lib.hid ((hb1.block _ (Array.getElem?_eq_some_iff.1 R0.out).1).trans R0.out)
    have g0 := cell_block R1.out (o := 0) rfl; have g1 := cell_block R1.out (o := 1) rfl; have g2 := cell_block R1.out (o := 2) rfl; have g3 := cell_block R1.out (o := 3) rfl; have g4 := cell_block R1.out (o := 4) rfl; have g5 := cell_block R1.out (o := 5) rfl; have g6 := cell_block R1.out (o := 6) rfl
    clear hb1 R0 HB0 HGD
    go_wp2_with fail
    go_at_call 40
    refine (HEN.out _ HB1.out).mono ?_
    rintro e w2 ⟨lv, rfl, hmat, hb2⟩
    obtain ⟨lb, lc, rfl, hrow⟩ := hmat.open
    have HROW := Lib.hid hrow
    have HB2 := Lib.hid (HB1.out.trans (hb2.mono HB1.out.size))
    have R2 := Lib.hid ((hb2.block _ (Array.getElem?_eq_some_iff.1 R1.out).1).trans R1.out)
    clear g0 g1 g2 g3 g4 g5 g6 hmat hrow hb2 R1 HB1 HEN
    have g0 := cell_block R2.out (o := 0) rfl; have g1 := cell_block R2.out (o := 1) rfl; have g2 := cell_block R2.out (o := 2) rfl; have g3 := cell_block R2.out (o := 3) rfl; have g4 := cell_block R2.out (o := 4) rfl; have g5 := cell_block R2.out (o := 5) rfl; have g6 := cell_block R2.out (o := 6) rfl
    go_wp2_with fail
    go_at_call 29
    refine Gives.then (HMT.out _ HB2.out) ?_
    intro w3 hb3
    have HB3 := Lib.hid (HB2.out.trans (hb3.mono HB2.out.size))
    have R3 := Lib.hid ((hb3.block _ (Array.getElem?_eq_some_iff.1 R2.out).1).trans R2.out)
    have HROW3 := Lib.hid (fun W' (hb : Below w3.heap.size w3 W') => HROW.out W' (hb3.trans (hb.mono hb3.size)))
    clear g0 g1 g2 g3 g4 g5 g6 hb3 R2 HB2 HMT HROW
    obtain ⟨c0, a1, a2⟩ := HROW3.out w3 (Below.refl _ _) 0 (by omega)
    have a3 := a2 L (Nat.le_refl _)
    clear a2
    go_wp2_with fail
    clear a1 a3
    try clear hen
    go_loopw [9] (fun i wr => ∃ e : Nat, e ≤ L + 1 ∧ i = .int .i64 (e : Int) ∧ Below w3.heap.size w3 wr) (fun i _ => L + 1 - (intOf i).toNat)
    case atStart => exact ⟨0, by omega, rfl, Below.refl _ _⟩
    case round =>
    obtain ⟨e, he, rfl, hw⟩ := hrel
    obtain ⟨W4, hW4⟩ : ∃ W4, W4 = wr := ⟨_, rfl⟩
    subst hW4
    have HW := Lib.hid hw
    clear hw
    by_cases hel : e < L + 1
    · have heL : (e : Int) ≤ (L : Int) := by omega
      have heN : e ≤ L := by omega
      have R4 := Lib.hid ((HW.out.block _ (Array.getElem?_eq_some_iff.1 R3.out).1).trans R3.out)
      have g0 := cell_block R4.out (o := 0) rfl; have g1 := cell_block R4.out (o := 1) rfl; have g2 := cell_block R4.out (o := 2) rfl; have g3 := cell_block R4.out (o := 3) rfl; have g4 := cell_block R4.out (o := 4) rfl; have g5 := cell_block R4.out (o := 5) rfl; have g6 := cell_block R4.out (o := 6) rfl
      have hcall := HBG.out e heN W4 (HB3.out.trans (HW.out.mono HB3.out.size))
      have hstab := begL_stable (T := T) (e := e) (L := L) (fun a ha => by rw [HOK.out.beyond ha]; simp) 33 (by omega)
      have hget := fun (a : Nat) (h : (T a).getLsbD e = true) (ha : a ≤ L) => begL_get T e a h 33 (by omega)
      have hnl0 := begL_len T e 33
      obtain ⟨F, hF⟩ : ∃ F, begL T e 33 = F := ⟨_, rfl⟩
      rw [hF] at hnl0
      rw [hF] at hcall hstab
      simp only [hF] at hget
      obtain ⟨n, hn⟩ : ∃ n, F.length = n := ⟨_, rfl⟩
      rw [hn] at hnl0
      have HCALL := Lib.hid hcall; have HSTAB := Lib.hid hstab; have HGET := Lib.hid hget; have HN := Lib.hid hn
      clear hcall hstab hget hF hn R4
      go_wp2_with (go_at_call 25; refine HCALL.out.mono ?_; rintro e' w5 ⟨lv, rfl, ho, hb5⟩; obtain ⟨lo, lcc, hlv⟩ := ho.slice; rw [HN.out] at hlv; subst hlv; have HB5 := Lib.hid (HW.out.trans (hb5.mono HW.out.size)); have HO := Lib.hid ho; clear ho hb5 g0 g1 g2 g3 g4 g5 g6)
      have hcells : ∀ i (h : i < F.length), ∃ b, lo = some ⟨b, 0, none⟩ ∧ b < w5.heap.size ∧ w5.cell? ⟨b, i, none⟩ = some (.int .i64 (F[i] : Int)) := by
        obtain ⟨ao', cap', hv', -, -, h⟩ := HO.out.is.open
        cases hv'
        exact h
      have HC := Lib.hid hcells
      clear hcells HO HCALL
      go_loopw [12, 13] (fun q a wr => ∃ x : Nat, x ≤ L + 1 ∧ a = .int .i64 (x : Int) ∧ q = .int .i64 ((begL T e x).length : Int) ∧ Below w5.heap.size w5 wr) (fun _ a _ => L + 1 - (intOf a).toNat)
      case atStart => exact ⟨0, by omega, rfl, rfl, Below.refl _ _⟩
      case round =>
      obtain ⟨x, hx, rfl, rfl, hw⟩ := hrel
      by_cases hxl : x < L + 1
      · have hxL : (x : Int) ≤ (L : Int) := by omega
        obtain ⟨c, a1, a2⟩ := HROW3.out wr (HB5.out.trans (hw.mono HB5.out.size)) x (by omega)
        have a3 := a2 e heN
        clear a2
        have hstep := begL_step T e x
        have hxx : (x : Int) < (L : Int) + 1 := by omega
        have hee : (e : Int) < (L : Int) + 1 := by omega
        have HW5 := Lib.hid hw
        clear hw
        rcases hbit : (T x).getLsbD e with _ | _
        · rw [hbit] at a3 hstep
          have hsame : (begL T e (x + 1)).length = (begL T e x).length := by rw [hstep]; simp
          have HSAME := Lib.hid hsame
          clear hstep hsame hbit
          go_wp2_with fail
          go_roundw
          case rel => exact ⟨x + 1, by omega, by go_num, by rw [HSAME.out], HW5.out⟩
          case measure => simp [intOf]; omega
        · have hg := HGET.out x hbit (by omega)
          obtain ⟨hq, hgx⟩ := List.getElem?_eq_some_iff.1 hg
          obtain ⟨bq, hlo, lbq, dq⟩ := HC.out _ hq
          subst hlo
          rw [hgx] at dq
          have dq := (HW5.out.cell (p := ⟨bq, _, none⟩) lbq).trans dq
          rw [hbit] at a3 hstep
          have hsame : (begL T e (x + 1)).length = (begL T e x).length + 1 := by rw [hstep]; simp
          have HSAME := Lib.hid hsame
          rw [HN.out] at hq
          clear hstep hsame hbit hg hgx
          obtain ⟨q, hqq⟩ : ∃ q, (begL T e x).length = q := ⟨_, rfl⟩
          rw [hqq] at hq dq HSAME ⊢
          have hq1 : ¬ n ≤ q := by omega
          have hq2 : (q : Int) < (n : Int) := by omega
          have hq3 : ¬ ((n : Int) ≤ (q : Int)) := by omega
          clear hqq
          go_wp2_with fail
          go_roundw
          case rel => exact ⟨x + 1, by omega, by go_num, by rw [HSAME.out]; go_num, HW5.out⟩
          case measure => simp [intOf]; omega
      · obtain rfl : x = L + 1 := by omega
        have hfin : (begL T e (L + 1)).length = n := by rw [← HSTAB.out, HN.out]
        rw [hfin]
        have HW5 := Lib.hid hw
        clear hw hfin hxl HC
        go_wp2_with fail
        go_roundw
        case rel => exact ⟨e + 1, by omega, by go_num, HB5.out.trans (HW5.out.mono HB5.out.size)⟩
        case measure => simp [intOf]; omega
    · obtain rfl : e = L + 1 := by omega
      have HBW := Lib.hid (HB3.out.trans (HW.out.mono HB3.out.size))
      clear hel HROW3 HBG
      go_wp2_with (go_at_call 22; refine Gives.then (hwk.out _ HBW.out) ?_; intro w9 hb9)
      go_returns
      exact ⟨rfl, HBW.out.trans (hb9.mono HBW.out.size)⟩
  · have hdf : decide (mtE d k ss = 0) = false := decide_eq_false hE
    rw [hdf] at hgd
    obtain ⟨L, hL⟩ : ∃ L, ss.length = L := ⟨_, rfl⟩
    rw [hL] at hgd ⊢
    obtain ⟨kind, ⟨p, m⟩, neg, mi, ma, sl⟩ := d
    simp only at hsl
    subst hsl
    obtain ⟨kl, hkl⟩ : ∃ kl, k.len = kl := ⟨_, rfl⟩
    rw [hkl] at hgd ⊢
    unfold ndV at hgd ⊢
    simp only at hgd ⊢
    have HGD := Lib.hid hgd
    have hB0 : ∀ O : Obj, Below w.heap.size w (w.alloc O) := fun O => by go_grown
    have HB0 := Lib.hid hB0
    clear hgd hen hmt hbg hp hW hT ht0 hE hdf hL hkl lw mw hB0
    go_enter Tryd.func8, Tryd.ntmps8
    go_wp2_with (first | (go_at_call 38; refine Gives.then (HGD.out _ (HB0.out _)) ?_; intro w1 hb1; have HB1 := Lib.hid ((HB0.out (.cells #[.int .i64 kind, .int .u32 (p.toNat : Int), .int .u32 (m.toNat : Int), .bool neg, .int .i64 mi, .int .i64 ma, .slice ao kl cap] 27)).trans (hb1.mono (by rw [World.size_alloc]; omega))); clear hb1) | (go_at_call 22; refine Gives.then (hwk.out _ HB1.out) ?_; intro w9 hb9))
    go_returns
    exact ⟨rfl, HB1.out.trans (hb9.mono HB1.out.size)⟩
end Go.Proofs.YtmobilppakjihaaDoor

/-
  A pattern is empty at each place between two sounds, or at none; and then at the ends, too.
-/
namespace Go.Proofs.YtmobilppakjihaaDoor
open Go.RowKit Go.Sort
/-- Whether a node is empty between two sounds, by those of the patterns below it. -/
def emN (d : Nd) (es : List Bool) : Bool :=
  if d.kind = 0 then true
  else if d.kind = 1 then false
  else if d.kind = 2 then false
  else if d.kind = 3 then es.all id
  else if d.kind = 4 then es.any id
  else if d.kind = 5 then decide (d.mi.toNat = 0) || es.headD false
  else false
def emF : Fo → List Bool
  | .nil => []
  | .cons d k r => emN d (emF k) :: emF r
def emP (d : Nd) (k : Fo) : Bool := emN d (emF k)
/-- Tables that have a place at itself exactly if the bits say so. -/
def RelI (n a : Nat) : List Tb → List Bool → Prop
  | [], [] => True
  | t :: ts, e :: es => (OkT n t ∧ (mem t a a ↔ e = true)) ∧ RelI n a ts es
  | _, _ => False
/-- Tables that have a place at itself if the bits say so. -/
def RelE (n a : Nat) : List Tb → List Bool → Prop
  | [], [] => True
  | t :: ts, e :: es => (OkT n t ∧ (e = true → mem t a a)) ∧ RelE n a ts es
  | _, _ => False
theorem thn_self {n : Nat} {x y : Tb} (hx : OkT n x) (hy : OkT n y) (a : Nat) : mem (thnT n x y) a a ↔ mem x a a ∧ mem y a a := by
  rw [thn_bit]
  constructor
  · rintro ⟨b, h1, h2, h3⟩
    have h4 := hx a b h2
    have h5 := hy b a h3
    obtain rfl : b = a := by omega
    exact ⟨h2, h3⟩
  · rintro ⟨h1, h2⟩
    exact ⟨a, (hx a a h1).2, h1, h2⟩
theorem pw_self {n : Nat} (hn : n < 64) {x : Tb} (hx : OkT n x) {a : Nat} (ha : a ≤ n) : ∀ k, mem (pwT n x k) a a ↔ k = 0 ∨ mem x a a
  | 0 => by
    show mem (sameT n) a a ↔ _
    rw [same_bit hn]; simp [ha]
  | k + 1 => by
    show mem (thnT n (pwT n x k) x) a a ↔ _
    rw [thn_self (OkT.pw hn hx k) hx, pw_self hn hx ha k]
    constructor
    · rintro ⟨-, h⟩; exact .inr h
    · rintro (h | h)
      · omega
      · exact ⟨.inr h, h⟩
theorem fold_thn_self {n a : Nat} : ∀ (ts : List Tb) (es : List Bool) (x : Tb), OkT n x → RelI n a ts es → (mem (ts.foldl (thnT n) x) a a ↔ mem x a a ∧ es.all id = true)
  | [], [], x, _, _ => by simp
  | t :: ts, e :: es, x, hx, ⟨⟨h1, h2⟩, h3⟩ => by
    rw [List.foldl_cons, fold_thn_self ts es _ (hx.thn h1) h3, thn_self hx h1, h2]
    simp only [List.all_cons, Bool.and_eq_true, id_eq]
    constructor
    · rintro ⟨⟨h4, h5⟩, h6⟩; exact ⟨h4, h5, h6⟩
    · rintro ⟨h4, h5, h6⟩; exact ⟨⟨h4, h5⟩, h6⟩
  | [], _ :: _, _, _, h => h.elim
  | _ :: _, [], _, _, h => h.elim
theorem fold_thn_end {n a : Nat} : ∀ (ts : List Tb) (es : List Bool) (x : Tb), OkT n x → RelE n a ts es → mem x a a → es.all id = true → mem (ts.foldl (thnT n) x) a a
  | [], [], x, _, _, h, _ => h
  | t :: ts, e :: es, x, hx, ⟨⟨h1, h2⟩, h3⟩, h4, h5 => by
    rw [List.foldl_cons]
    simp only [List.all_cons, Bool.and_eq_true, id_eq] at h5
    exact fold_thn_end ts es _ (hx.thn h1) h3 ((thn_self hx h1 a).2 ⟨h4, h2 h5.1⟩) h5.2
  | [], _ :: _, _, _, h, _, _ => h.elim
  | _ :: _, [], _, _, h, _, _ => h.elim
theorem fold_or_self {n a : Nat} : ∀ (ts : List Tb) (es : List Bool) (x : Tb), RelI n a ts es → (mem (ts.foldl orT x) a a ↔ mem x a a ∨ es.any id = true)
  | [], [], x, _ => by simp
  | t :: ts, e :: es, x, ⟨⟨h1, h2⟩, h3⟩ => by
    rw [List.foldl_cons, fold_or_self ts es _ h3, or_bit, h2]
    simp only [List.any_cons, Bool.or_eq_true, id_eq, or_assoc]
  | [], _ :: _, _, h => h.elim
  | _ :: _, [], _, h => h.elim
theorem fold_or_end {n a : Nat} : ∀ (ts : List Tb) (es : List Bool) (x : Tb), RelE n a ts es → (mem x a a ∨ es.any id = true) → mem (ts.foldl orT x) a a
  | [], [], x, _, h => by simpa using h
  | t :: ts, e :: es, x, ⟨⟨h1, h2⟩, h3⟩, h => by
    rw [List.foldl_cons]
    refine fold_or_end ts es _ h3 ?_
    simp only [List.any_cons, Bool.or_eq_true, id_eq] at h
    rcases h with h | h | h
    · exact .inl ((or_bit x t a a).2 (.inl h))
    · exact .inl ((or_bit x t a a).2 (.inr (h2 h)))
    · exact .inr h
  | [], _ :: _, _, h, _ => h.elim
  | _ :: _, [], _, h, _ => h.elim
theorem rep_self {n : Nat} (hn : n ≤ 32) {x : Tb} (hx : OkT n x) {a : Nat} (ha : a ≤ n) {lo : Nat} {hi : Int} (hh : hi = -1 ∨ (lo : Int) ≤ hi) : mem (repT n x lo hi) a a ↔ lo = 0 ∨ mem x a a := by
  rw [rep_bit hn hx hh]
  constructor
  · rintro ⟨k, h1, h2, h3⟩
    rcases (pw_self (by omega) hx ha k).1 h3 with h | h
    · exact .inl (by omega)
    · exact .inr h
  · intro h
    refine ⟨lo, Nat.le_refl _, ?_, (pw_self (by omega) hx ha lo).2 h⟩
    rcases hh with h1 | h1
    · exact .inl h1
    · exact .inr h1
theorem zero_no (a b : Nat) : ¬ mem zeroT a b := by simp [mem, zeroT]
/-- What a valid repetition's numbers are. -/
theorem rep_ok {d : Nd} {m : Nat} (h : ndE d m = 0) (h5 : d.kind = 5) : d.ma = -1 ∨ ((d.mi.toNat : Nat) : Int) ≤ d.ma := by
  obtain ⟨-, -, -, -, -, -, h7⟩ := ndE_ok h
  have := h7 h5
  omega
theorem node_self {ss : List Snd} (hn : ss.length ≤ 32) {a : Nat} (h0 : 0 < a) (h1 : a < ss.length) {d : Nd} {m : Nat} (hd : ndE d m = 0) (ts : List Tb) (es : List Bool) (hr : RelI ss.length a ts es) : mem (tabN ss d ts) a a ↔ emN d es = true := by
  unfold tabN emN
  by_cases k0 : d.kind = 0
  · rw [if_pos k0, if_pos k0, same_bit (by omega)]; simp; omega
  rw [if_neg k0, if_neg k0]
  by_cases k1 : d.kind = 1
  · rw [if_pos k1, if_pos k1]
    simp only [mem, Bool.false_eq_true, iff_false]
    intro hm
    split at hm
    · simp at hm
    · split at hm
      · rw [one_shl (by omega)] at hm
        have := of_decide_eq_true hm
        omega
      · simp at hm
  rw [if_neg k1, if_neg k1]
  by_cases k2 : d.kind = 2
  · rw [if_pos k2, if_pos k2]
    simp only [mem, Bool.false_eq_true, iff_false]
    rw [if_neg (by omega)]
    simp
  rw [if_neg k2, if_neg k2]
  by_cases k3 : d.kind = 3
  · rw [if_pos k3, if_pos k3, fold_thn_self ts es _ (OkT.same (by omega)) hr, same_bit (by omega)]
    constructor
    · rintro ⟨-, h⟩; exact h
    · intro h; exact ⟨⟨rfl, by omega⟩, h⟩
  rw [if_neg k3, if_neg k3]
  by_cases k4 : d.kind = 4
  · rw [if_pos k4, if_pos k4, fold_or_self ts es _ hr]
    constructor
    · rintro (h | h)
      · exact absurd h (zero_no a a)
      · exact h
    · exact .inr
  rw [if_neg k4, if_neg k4]
  by_cases k5 : d.kind = 5
  · rw [if_pos k5, if_pos k5]
    have hx : OkT ss.length (ts.headD zeroT) ∧ (mem (ts.headD zeroT) a a ↔ es.headD false = true) := by
      cases ts with
      | nil => cases es with
        | nil => exact ⟨OkT.zero _, by simp [zero_no]⟩
        | cons e es => exact hr.elim
      | cons t ts => cases es with
        | nil => exact hr.elim
        | cons e es => exact hr.1
    rw [rep_self hn hx.1 (by omega) (rep_ok hd k5), hx.2, Bool.or_eq_true, decide_eq_true_eq]
  · rw [if_neg k5, if_neg k5]
    simp only [mem, Bool.false_eq_true, iff_false]
    rw [if_neg (by omega)]
    simp
theorem node_end {ss : List Snd} (hn : ss.length ≤ 32) {a : Nat} (h1 : a ≤ ss.length) {d : Nd} {m : Nat} (hd : ndE d m = 0) (ts : List Tb) (es : List Bool) (hr : RelE ss.length a ts es) (he : emN d es = true) : mem (tabN ss d ts) a a := by
  unfold tabN
  unfold emN at he
  by_cases k0 : d.kind = 0
  · rw [if_pos k0, same_bit (by omega)]; exact ⟨rfl, h1⟩
  rw [if_neg k0] at he ⊢
  by_cases k1 : d.kind = 1
  · rw [if_pos k1] at he; cases he
  rw [if_neg k1] at he ⊢
  by_cases k2 : d.kind = 2
  · rw [if_pos k2] at he; cases he
  rw [if_neg k2] at he ⊢
  by_cases k3 : d.kind = 3
  · rw [if_pos k3] at he ⊢
    exact fold_thn_end ts es _ (OkT.same (by omega)) hr ((same_bit (by omega) a a).2 ⟨rfl, h1⟩) he
  rw [if_neg k3] at he ⊢
  by_cases k4 : d.kind = 4
  · rw [if_pos k4] at he ⊢
    exact fold_or_end ts es _ hr (.inr he)
  rw [if_neg k4] at he ⊢
  by_cases k5 : d.kind = 5
  · rw [if_pos k5] at he ⊢
    have hx : OkT ss.length (ts.headD zeroT) ∧ (es.headD false = true → mem (ts.headD zeroT) a a) := by
      cases ts with
      | nil => cases es with
        | nil => exact ⟨OkT.zero _, by simp⟩
        | cons e es => exact hr.elim
      | cons t ts => cases es with
        | nil => exact hr.elim
        | cons e es => exact hr.1
    rw [Bool.or_eq_true, decide_eq_true_eq] at he
    rw [rep_self hn hx.1 h1 (rep_ok hd k5)]
    exact he.imp id hx.2
  · rw [if_neg k5] at he; cases he
theorem forest_self {ss : List Snd} (hn : ss.length ≤ 32) {a : Nat} (h0 : 0 < a) (h1 : a < ss.length) : ∀ f : Fo, f.good → RelI ss.length a (tabF ss f) (emF f)
  | .nil, _ => trivial
  | .cons d k r, ⟨h2, h3, h4⟩ => ⟨⟨OkT.pat hn d k, node_self hn h0 h1 h2 _ _ (forest_self hn h0 h1 k h3)⟩, forest_self hn h0 h1 r h4⟩
theorem forest_end {ss : List Snd} (hn : ss.length ≤ 32) {a : Nat} (h1 : a ≤ ss.length) : ∀ f : Fo, f.good → RelE ss.length a (tabF ss f) (emF f)
  | .nil, _ => trivial
  | .cons d k r, ⟨h2, h3, h4⟩ => ⟨⟨OkT.pat hn d k, node_end hn h1 h2 _ _ (forest_end hn h1 k h3)⟩, forest_end hn h1 r h4⟩
theorem em_eq {d : Nd} {k : Fo} {ss : List Snd} (hE : mtE d k ss = 0) : emB d k = emP d k := by
  obtain ⟨h1, h2, -⟩ := pkE_good (node_ok hE).1
  have hz : mtE d k z2 = 0 := by
    unfold mtE
    rw [if_pos (node_ok hE).1]
    decide
  have := node_self (ss := z2) (a := 1) (by decide) (by decide) (by decide) h1 _ _ (forest_self (ss := z2) (by decide) (by decide) (by decide) k h2)
  unfold emB
  rw [hz, decide_eq_true rfl, Bool.true_and]
  exact Bool.eq_iff_iff.2 this
/-- Between two sounds a pattern matches nothing exactly if it is empty. -/
theorem em_self {d : Nd} {k : Fo} {ss : List Snd} (hE : mtE d k ss = 0) {a : Nat} (h0 : 0 < a) (h1 : a < ss.length) : (tabP ss d k a).getLsbD a = emB d k := by
  have h32 := chk_len (node_ok hE).2
  obtain ⟨g1, g2, -⟩ := pkE_good (node_ok hE).1
  rw [em_eq hE]
  exact Bool.eq_iff_iff.2 (node_self h32 h0 h1 g1 _ _ (forest_self h32 h0 h1 k g2))
/-- What is empty there is so everywhere. -/
theorem em_end {d : Nd} {k : Fo} {ss : List Snd} (hE : mtE d k ss = 0) {a : Nat} (h1 : a ≤ ss.length) (he : emB d k = true) : (tabP ss d k a).getLsbD a = true := by
  have h32 := chk_len (node_ok hE).2
  obtain ⟨g1, g2, -⟩ := pkE_good (node_ok hE).1
  rw [em_eq hE] at he
  exact node_end h32 h1 g1 _ _ (forest_end h32 h1 k g2) he
end Go.Proofs.YtmobilppakjihaaDoor

/-
  PatsEmpty.
-/
namespace Go.Proofs.YtmobilppakjihaaDoor
open Go.RowKit Go.Sort
set_option maxRecDepth 100000 in
set_option maxHeartbeats 8000000 in
theorem lempty_any (d : Nd) (k : Fo) (ss : List Snd) (sv : Value) (w : World) (hp : Pt w d k) (hW : Wd w sv ss) (hT : Tab64 w) (ht0 : 0 < w.heap.size) :
    Gives 11 #[ndV d, sv] w (.bool true) := by
  unfold Gives
  have hgd := fun (W : World) (hb : Below w.heap.size w W) => lgood_any d k ss sv W (hp.below hb) (hW.below hb)
  have hwk : Hid (∀ W : World, Below w.heap.size w W → Gives 22 #[] W (.bool true)) := fun W hb => works_any W (hT.below hb ht0) (by have := hb.size; omega)
  have hen := fun (hE : mtE d k ss = 0) (W : World) (hb : Below w.heap.size w W) => lends_any d k ss sv W (hp.below hb) (hW.below hb) (hT.below hb ht0) (by have := hb.size; omega) hE
  have hem := fun (W : World) (hb : Below w.heap.size w W) => empty_anyP d k W (hp.below hb) (hT.below hb ht0) (by have := hb.size; omega)
  obtain ⟨wo, wc, rfl, lw, mw, -⟩ := hW.open
  obtain ⟨ao, cap, hsl, -, -, -⟩ := hp.open
  by_cases hE : mtE d k ss = 0
  · have h32 := chk_len (node_ok hE).2
    replace hen := hen hE
    rw [hE] at hgd
    have hself := fun (a : Nat) (h0 : 0 < a) (h1 : a < ss.length) => em_self hE h0 h1
    have hend := fun (a : Nat) (h1 : a ≤ ss.length) (he : emB d k = true) => em_end hE h1 he
    generalize tabP ss d k = T at *
    generalize emB d k = B at *
    obtain ⟨L, hL⟩ : ∃ L, ss.length = L := ⟨_, rfl⟩
    rw [hL] at hgd hen hself hend h32 ⊢
    obtain ⟨kind, ⟨p, m⟩, neg, mi, ma, sl⟩ := d
    simp only at hsl
    subst hsl
    obtain ⟨kl, hkl⟩ : ∃ kl, k.len = kl := ⟨_, rfl⟩
    rw [hkl] at hgd hen hem ⊢
    unfold ndV at hgd hen hem ⊢
    simp only at hgd hen hem ⊢
    have HGD := Lib.hid hgd; have HEN := Lib.hid hen; have HEM := Lib.hid hem; have HSELF := Lib.hid hself; have HEND := Lib.hid hend
    clear hgd hen hem hself hend hp hW hT ht0 hE hL hkl lw mw
    have R0 := Lib.hid (World.alloc_heap_new w (.cells #[.int .i64 kind, .int .u32 (p.toNat : Int), .int .u32 (m.toNat : Int), .bool neg, .int .i64 mi, .int .i64 ma, .slice ao kl cap] 27))
    have hB0 : Below w.heap.size w (w.alloc (.cells #[.int .i64 kind, .int .u32 (p.toNat : Int), .int .u32 (m.toNat : Int), .bool neg, .int .i64 mi, .int .i64 ma, .slice ao kl cap] 27)) := by go_grown
    have HB0 := Lib.hid hB0
    clear hB0
    go_enter Tryd.func11, Tryd.ntmps11
    go_wp2_with fail
    generalize (w.alloc (.cells #[.int .i64 kind, .int .u32 (p.toNat : Int), .int .u32 (m.toNat : Int), .bool neg, .int .i64 mi, .int .i64 ma, .slice ao kl cap] 27)) = v0 at *
    go_at_call 38
    refine Gives.then (HGD.out _ HB0.out) ?_
    intro w1 hb1
    have HB1 := Lib.hid (HB0.out.trans (hb1.mono HB0.out.size))
    have R1 := Lib.hid ((hb1.block _ (Array.getElem?_eq_some_iff.1 R0.out).1).trans R0.out)
    have g0 := cell_block R1.out (o := 0) rfl; have g1 := cell_block R1.out (o := 1) rfl; have g2 := cell_block R1.out (o := 2) rfl; have g3 := cell_block R1.out (o := 3) rfl; have g4 := cell_block R1.out (o := 4) rfl; have g5 := cell_block R1.out (o := 5) rfl; have g6 := cell_block R1.out (o := 6) rfl
    clear hb1 R0 HB0 HGD
    go_wp2_with fail
    go_at_call 40
    refine (HEN.out _ HB1.out).mono ?_
    rintro e w3 ⟨lv, rfl, hmat, hb3⟩
    obtain ⟨lb, lc, rfl, hrow⟩ := hmat.open
    have HROW3 := Lib.hid hrow
    have HB3 := Lib.hid (HB1.out.trans (hb3.mono HB1.out.size))
    have hr3 : ∀ wr, Below w3.heap.size w3 wr → wr.heap[w.heap.size]? = some (.cells #[.int .i64 kind, .int .u32 (p.toNat : Int), .int .u32 (m.toNat : Int), .bool neg, .int .i64 mi, .int .i64 ma, .slice ao kl cap] 27) := fun wr hw => (hw.block _ (by have := (Array.getElem?_eq_some_iff.1 R1.out).1; have := hb3.size; omega)).trans ((hb3.block _ (Array.getElem?_eq_some_iff.1 R1.out).1).trans R1.out)
    have R3 := Lib.hid hr3
    clear g0 g1 g2 g3 g4 g5 g6 hmat hrow hb3 hr3 R1 HB1 HEN
    go_wp2_with fail
    go_loopw [7] (fun i wr => ∃ i' : Nat, 1 ≤ i' ∧ (i' ≤ L ∨ i' = 1) ∧ i = .int .i64 (i' : Int) ∧ Below w3.heap.size w3 wr) (fun i _ => L + 1 - (intOf i).toNat)
    case atStart => exact ⟨1, Nat.le_refl _, .inr rfl, rfl, Below.refl _ _⟩
    case round =>
    obtain ⟨i, hi1, hiL, rfl, hw⟩ := hrel
    have r3 := R3.out wr hw
    have g0 := cell_block r3 (o := 0) rfl; have g1 := cell_block r3 (o := 1) rfl; have g2 := cell_block r3 (o := 2) rfl; have g3 := cell_block r3 (o := 3) rfl; have g4 := cell_block r3 (o := 4) rfl; have g5 := cell_block r3 (o := 5) rfl; have g6 := cell_block r3 (o := 6) rfl
    clear r3
    have HW := Lib.hid hw
    clear hw
    by_cases hil : i < L
    · have hii : (i : Int) < (L : Int) := by omega
      have hii1 : (i : Int) < (L : Int) + 1 := by omega
      have hii2 : i < L + 1 := by omega
      obtain ⟨c, a1, a2⟩ := HROW3.out wr HW.out i (by omega)
      have a3 := a2 i (by omega)
      rw [HSELF.out i (by omega) hil] at a3
      clear a2 hiL
      go_wp2_with fail
      have y0 := cell_regrown g0; have y1 := cell_regrown g1; have y2 := cell_regrown g2; have y3 := cell_regrown g3; have y4 := cell_regrown g4; have y5 := cell_regrown g5; have y6 := cell_regrown g6; have y7 := cell_regrown a1; have y8 := cell_regrown a3
      have HBR := Lib.hid (HB3.out.trans (HW.out.mono HB3.out.size))
      refine wp_region_quiet_below (by kernel_rfl) (by kernel_rfl) ?_
      try simp only [List.append]
      repeat (go_big_quiet_step (first | (go_at_call 18; with_reducible exact Calls.regrown_of (HEM.out _ (HBR.out.trans ((below_regrown _ _ _).mono HBR.out.size))))))
      refine wpQuiet_nil ?_
      intro w11 hw11
      have HW11 := Lib.hid (HW.out.trans (show Below w3.heap.size wr w11 from by obtain ⟨q, rfl⟩ := hw11; exact (below_regrown _ _ _).mono HW.out.size))
      clear hw11 y0 y1 y2 y3 y4 y5 y6 y7 y8 g0 g1 g2 g3 g4 g5 g6 a1 a3
      go_wp2_with fail
      go_roundw
      case rel => exact ⟨i + 1, by omega, by omega, by go_num, HW11.out⟩
      case measure => simp [intOf]; omega
    · have hii : ¬ (i : Int) < (L : Int) := by omega
      have HBW := Lib.hid (HB3.out.trans (HW.out.mono HB3.out.size))
      clear hil hiL
      rcases B with _ | _
      · go_wp2_with (first | (go_at_call 18; refine Gives.then (HEM.out _ HBW.out) ?_; intro w8 hb8; have HB8 := Lib.hid (HBW.out.trans (hb8.mono HBW.out.size)); clear hb8) | (go_at_call 22; refine Gives.then (hwk.out _ HB8.out) ?_; intro w9 hb9))
        go_returns
        exact ⟨rfl, HB8.out.trans (hb9.mono HB8.out.size)⟩
      · have h0L : 0 < L + 1 := by omega
        have h0Li : (0 : Int) < (L : Int) + 1 := by omega
        have hLL : L < L + 1 := by omega
        have hLLi : (L : Int) < (L : Int) + 1 := by omega
        go_wp2_with (first | (go_at_call 18; refine Gives.then (HEM.out _ HBW.out) ?_; intro w8 hb8; have HW8 := Lib.hid (HW.out.trans (hb8.mono HW.out.size)); have HB8 := Lib.hid (HBW.out.trans (hb8.mono HBW.out.size)); obtain ⟨c, a1, a2⟩ := HROW3.out _ HW8.out 0 (by omega); have a3 := a2 0 (by omega); rw [HEND.out 0 (by omega) rfl] at a3; obtain ⟨c', b1, b2⟩ := HROW3.out _ HW8.out L (by omega); have b3 := b2 L (by omega); rw [HEND.out L (by omega) rfl] at b3; clear hb8 a2 b2) | (go_at_call 22; refine Gives.then (hwk.out _ HB8.out) ?_; intro w9 hb9))
        go_returns
        exact ⟨rfl, HB8.out.trans (hb9.mono HB8.out.size)⟩
  · have hdf : decide (mtE d k ss = 0) = false := decide_eq_false hE
    rw [hdf] at hgd
    obtain ⟨L, hL⟩ : ∃ L, ss.length = L := ⟨_, rfl⟩
    rw [hL] at hgd ⊢
    obtain ⟨kind, ⟨p, m⟩, neg, mi, ma, sl⟩ := d
    simp only at hsl
    subst hsl
    obtain ⟨kl, hkl⟩ : ∃ kl, k.len = kl := ⟨_, rfl⟩
    rw [hkl] at hgd ⊢
    unfold ndV at hgd ⊢
    simp only at hgd ⊢
    have HGD := Lib.hid hgd
    have hB0 : ∀ O : Obj, Below w.heap.size w (w.alloc O) := fun O => by go_grown
    have HB0 := Lib.hid hB0
    clear hgd hen hem hp hW hT ht0 hE hdf hL hkl lw mw hB0
    go_enter Tryd.func11, Tryd.ntmps11
    go_wp2_with (first | (go_at_call 38; refine Gives.then (HGD.out _ (HB0.out _)) ?_; intro w1 hb1; have HB1 := Lib.hid ((HB0.out (.cells #[.int .i64 kind, .int .u32 (p.toNat : Int), .int .u32 (m.toNat : Int), .bool neg, .int .i64 mi, .int .i64 ma, .slice ao kl cap] 27)).trans (hb1.mono (by rw [World.size_alloc]; omega))); clear hb1) | (go_at_call 22; refine Gives.then (hwk.out _ HB1.out) ?_; intro w9 hb9))
    go_returns
    exact ⟨rfl, HB1.out.trans (hb9.mono HB1.out.size)⟩
end Go.Proofs.YtmobilppakjihaaDoor
