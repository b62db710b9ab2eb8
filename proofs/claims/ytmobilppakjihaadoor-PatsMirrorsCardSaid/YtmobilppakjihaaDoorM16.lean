/-
  Lemmas that the theorem of this claim rests on: 3 texts, one behind the other.
-/
import Derived.Test.YtmobilppakjihaaDoorM15
set_option linter.unusedSimpArgs false
set_option linter.unusedVariables false
/-
  What a pattern matches (match).
-/
namespace Go.Proofs.YtmobilppakjihaaDoor
open Go.RowKit Go.Sort
theorem parts_ret2 {fn : Func} {c t : Tmp} (hr : fn.results = #[.cell c 74, .tmp t]) (tmps : Array Value) (w : World) (g : Nat) (T T' : Tb) (v : Value) (hp : tmps.getD c undef = .pointer (some ⟨g, 0, none⟩)) (hv : tmps.getD t undef = v) (hg : TbAt w g T) (h : ∀ a, a < 33 → T a = T' a) : (results fn tmps).run Tryd.prog w = .ok (.tuple #[.agg (tbR T'), v]) w := by
  rw [← tbR_congr h]
  have hp' : tmps[c]?.getD undef = .pointer (some ⟨g, 0, none⟩) := by simpa using hp
  have hv' : tmps[t]?.getD undef = v := by simpa using hv
  simp [results, hr, hp', hv', asAddr, hg.load]
def mtE (d : Nd) (k : Fo) (ss : List Snd) : Int := if pkE d k = 0 then chk ss else pkE d k
def mtT (d : Nd) (k : Fo) (ss : List Snd) : Tb := if mtE d k ss = 0 then tabP ss d k else zeroT
theorem chk_len {ss : List Snd} (h : chk ss = 0) : ss.length ≤ 32 := by
  unfold chk at h
  split at h
  · cases h
  · omega
theorem node_ok {d : Nd} {k : Fo} {ss : List Snd} (h : mtE d k ss = 0) : pkE d k = 0 ∧ chk ss = 0 := by
  unfold mtE at h
  split at h
  · exact ⟨by assumption, h⟩
  · exact absurd h (by assumption)
theorem alloc2_row {w : World} {O1 O2 : Obj} {b : Nat} {o : Obj} (h : w.heap[b]? = some o) : ((w.alloc O1).alloc O2).heap[b]? = some o := by
  have hb := (Array.getElem?_eq_some_iff.1 h).1
  exact (Below.heap_alloc _ O2 b (by rw [World.size_alloc]; omega)).trans ((Below.heap_alloc w O1 b hb).trans h)
set_option maxRecDepth 100000 in
set_option maxHeartbeats 4000000 in
theorem match_any (d : Nd) (k : Fo) (ss : List Snd) (sv : Value) (w : World) (hp : Pt w d k) (hW : Wd w sv ss) (hT : Tab64 w) (ht0 : 0 < w.heap.size) :
    Gives 49 #[ndV d, sv] w (.tuple #[.agg (tbR (mtT d k ss)), .int .i64 (mtE d k ss)]) := by
  unfold Gives
  have hck := fun (W : World) (hb : Below w.heap.size w W) => pcheck_any d k W (hp.below hb)
  have hcw := fun (W : World) (hb : Below w.heap.size w W) => pcheckWord_any ss sv W (hW.below hb)
  have hno := fun (h : mtE d k ss = 0) (W : World) (hb : Below w.heap.size w W) => nodeOf_all (k.size + 1) d k (by omega) W (hp.below hb) (pkE_good (node_ok h).1).1 (pkE_good (node_ok h).1).2.1 (by have := (pkE_good (node_ok h).1).2.2; omega)
  have hst : Hid (∀ W, Below w.heap.size w W → Tab64 W ∧ 0 < W.heap.size ∧ Wd W sv ss) := fun W hb => ⟨hT.below hb ht0, by have := hb.size; omega, hW.below hb⟩
  obtain ⟨wo, wc, rfl, -, -, -⟩ := hW.open
  obtain ⟨L, hL⟩ : ∃ L, ss.length = L := ⟨_, rfl⟩
  obtain ⟨ao, cap, hsl, -, -, -⟩ := hp.open
  obtain ⟨kind, ⟨p, m⟩, neg, mi, ma, sl⟩ := d
  obtain ⟨T, hTT⟩ : ∃ T, mtT ⟨kind, (p, m), neg, mi, ma, sl⟩ k ss = T := ⟨_, rfl⟩
  obtain ⟨E, hE⟩ : ∃ E, mtE ⟨kind, (p, m), neg, mi, ma, sl⟩ k ss = E := ⟨_, rfl⟩
  obtain ⟨E1, hE1⟩ : ∃ E1, pkE ⟨kind, (p, m), neg, mi, ma, sl⟩ k = E1 := ⟨_, rfl⟩
  obtain ⟨E2, hE2⟩ : ∃ E2, chk ss = E2 := ⟨_, rfl⟩
  have hEE : E = if E1 = 0 then E2 else E1 := by rw [← hE, ← hE1, ← hE2]; rfl
  have hT0 : E ≠ 0 → T = zeroT := fun h => by rw [← hTT, mtT, if_neg (by rw [hE]; exact h)]
  have hT1 : E = 0 → (fun ss => tabP ss ⟨kind, (p, m), neg, mi, ma, sl⟩ k) ss = T := fun h => by rw [← hTT, mtT, if_pos (by rw [hE]; exact h)]
  have h32 : E = 0 → L ≤ 32 := fun h => by rw [← hL]; exact chk_len (node_ok (hE.trans h)).2
  rw [hTT, hE]
  rw [hE1] at hck; rw [hE2] at hcw; rw [hE] at hno
  rw [hL] at hcw hst ⊢
  obtain ⟨F, hF⟩ : ∃ F : List Snd → Tb, (fun ss => tabP ss ⟨kind, (p, m), neg, mi, ma, sl⟩ k) = F := ⟨_, rfl⟩
  rw [hF] at hT1
  simp only [hF] at hno
  simp only at hsl
  subst hsl
  obtain ⟨kl, hkl⟩ : ∃ kl, k.len = kl := ⟨_, rfl⟩
  rw [hkl] at hck hno ⊢
  unfold ndV at hck hno ⊢
  simp only at hck hno ⊢
  have HCK := Lib.hid hck; have HCW := Lib.hid hcw; have HNO := Lib.hid hno; have HT0 := Lib.hid hT0; have HT1 := Lib.hid hT1; have H32 := Lib.hid h32; have HL := Lib.hid hL
  have HZ := Lib.hid tbR_zero
  clear hck hcw hno hp hW hT ht0 hTT hE hE1 hE2 hT0 hT1 h32 hL hF hkl
  go_enter Tryd.func49, Tryd.ntmps49
  go_wp2_with fail
  rw [← HZ.out]
  go_at_call 14
  refine Gives.then (HCK.out _ (by go_grown)) ?_
  intro w1 hb1
  have hB1 : Below w.heap.size w w1 := (((Below.refl _ w).alloc (Nat.le_refl _) (.cells #[.int .i64 kind, .int .u32 (p.toNat : Int), .int .u32 (m.toNat : Int), .bool neg, .int .i64 mi, .int .i64 ma, .slice ao kl cap] 27)).alloc (by rw [World.size_alloc]; omega) (.cells (tbR zeroT) 74)).trans (hb1.mono (by simp only [World.size_alloc]; omega))
  have t1 : TbAt w1 (w.heap.size + 1) zeroT := by
    have := (TbAt.new (w.alloc (.cells #[.int .i64 kind, .int .u32 (p.toNat : Int), .int .u32 (m.toNat : Int), .bool neg, .int .i64 mi, .int .i64 ma, .slice ao kl cap] 27)) zeroT).below hb1
    rwa [World.size_alloc] at this
  have r1 : w1.heap[w.heap.size]? = some (.cells #[.int .i64 kind, .int .u32 (p.toNat : Int), .int .u32 (m.toNat : Int), .bool neg, .int .i64 mi, .int .i64 ma, .slice ao kl cap] 27) := (hb1.block _ (by simp only [World.size_alloc]; omega)).trans ((Below.heap_alloc _ _ _ (by rw [World.size_alloc]; omega)).trans (World.alloc_heap_new w _))
  have T1 := Lib.hid t1; have HB1 := Lib.hid hB1; have R1 := Lib.hid r1
  clear hb1 t1 hB1 r1
  by_cases hE1 : E1 = 0
  · rw [if_pos hE1] at hEE
    subst hEE
    subst hE1
    by_cases hE : E = 0
    · subst hE
      have hT1' := HT1.out rfl
      subst hT1'
      go_wp2_with (first | (go_at_call 71; refine Gives.then (HCW.out _ HB1.out) ?_; intro w2 hb2; have T2 := Lib.hid (T1.out.below hb2); have HB2 := Lib.hid (HB1.out.trans (hb2.mono HB1.out.size)); have R2 := Lib.hid ((hb2.block _ (Array.getElem?_eq_some_iff.1 R1.out).1).trans R1.out); have g0 := cell_block R2.out (o := 0) rfl; have g1 := cell_block R2.out (o := 1) rfl; have g2 := cell_block R2.out (o := 2) rfl; have g3 := cell_block R2.out (o := 3) rfl; have g4 := cell_block R2.out (o := 4) rfl; have g5 := cell_block R2.out (o := 5) rfl; have g6 := cell_block R2.out (o := 6) rfl; clear hb2 T1 HB1 R1))
      go_at_call 72
      refine (HNO.out (by trivial) _ HB2.out).mono ?_
      rintro e w3 ⟨u, rfl, ⟨tu, pu, fu, rfl, hfn, hok, hhi, hgv⟩, hb3⟩
      have HB3 := Lib.hid (HB2.out.trans (hb3.mono HB2.out.size))
      have T3 := Lib.hid (T2.out.below hb3)
      have HFN := Lib.hid hfn
      have hgv2 : Gives fu #[pu, .slice wo L wc] w3 (.agg (tbR (F ss))) := by
        obtain ⟨s1, s2, s3⟩ := hst.out _ HB3.out
        exact hgv w3 (Nat.le_refl _) (fun b _ _ => rfl) s1 s2 ss _ (by rw [HL.out]; exact H32.out (by trivial)) s3
      have HGV := Lib.hid hgv2
      clear hfn hok hhi hgv hgv2 hb3 HB2 T2 R2 g0 g1 g2 g3 g4 g5 g6
      obtain ⟨n1, n2, n3⟩ := HFN.out
      clear HFN HCK HT0 HNO H32 HT1 hst
      go_wp2_with (first | ((with_reducible refine Gives.then HGV.out ?_); intro w4 hb4; have T4 := Lib.hid (T3.out.below hb4); have HB4 := Lib.hid (HB3.out.trans (hb4.mono HB3.out.size)); clear hb4 T3 HB3 HGV) | (refine wpList_st rfl (.tmp 4) (.tmp 23) rfl (w.heap.size + 1) _ _ rfl rfl T4.out ?_))
      refine bodyPost_ret (parts_ret2 rfl _ _ (w.heap.size + 1) _ _ _ rfl rfl (T4.out.setRow _) (fun a ha => rfl)) rfl ?_
      exact ⟨rfl, below_setRow HB4.out (by omega) _⟩
    · have hT0' := HT0.out hE
      subst hT0'
      go_wp2_with (first | (go_at_call 71; refine Gives.then (HCW.out _ HB1.out) ?_; intro w2 hb2; have T2 := Lib.hid (T1.out.below hb2); have HB2 := Lib.hid (HB1.out.trans (hb2.mono HB1.out.size)); clear hb2 T1 HB1 R1) | (rw [← HZ.out]; refine wpList_st rfl (.tmp 4) (.tmp 18) rfl (w.heap.size + 1) _ _ rfl rfl T2.out ?_))
      refine bodyPost_ret (parts_ret2 rfl _ _ (w.heap.size + 1) _ _ _ rfl rfl (T2.out.setRow _) (fun a ha => rfl)) rfl ?_
      exact ⟨rfl, below_setRow HB2.out (by omega) _⟩
  · rw [if_neg hE1] at hEE
    subst hEE
    have hT0' := HT0.out hE1
    subst hT0'
    go_wp2_with (rw [← HZ.out]; refine wpList_st rfl (.tmp 4) (.tmp 12) rfl (w.heap.size + 1) _ _ rfl rfl T1.out ?_)
    refine bodyPost_ret (parts_ret2 rfl _ _ (w.heap.size + 1) _ _ _ rfl rfl (T1.out.setRow _) (fun a ha => rfl)) rfl ?_
    exact ⟨rfl, below_setRow HB1.out (by omega) _⟩
end Go.Proofs.YtmobilppakjihaaDoor

/-
  What a pattern matches, for one who asks about a place (matchAt).
-/
namespace Go.Proofs.YtmobilppakjihaaDoor
open Go.RowKit Go.Sort
def maE (d : Nd) (k : Fo) (ss : List Snd) (at' : Int) : Int := if mtE d k ss = 0 then (if 0 ≤ at' ∧ at' ≤ ss.length then 0 else 3) else mtE d k ss
def maT (d : Nd) (k : Fo) (ss : List Snd) (at' : Int) : Tb := if maE d k ss at' = 0 then tabP ss d k else zeroT
theorem maE_ok {d : Nd} {k : Fo} {ss : List Snd} {at' : Int} (h : maE d k ss at' = 0) : mtE d k ss = 0 ∧ 0 ≤ at' ∧ at' ≤ ss.length := by
  unfold maE at h
  split at h
  · split at h
    · rename_i h1 h2; exact ⟨h1, h2⟩
    · cases h
  · exact absurd h (by assumption)
/-- The world behind a call of match: box, result and a fresh row. -/
theorem head_facts {w w1 : World} {O : Obj} (hb1 : Below ((w.alloc O).alloc (.cells (tbR zeroT) 74)).heap.size ((w.alloc O).alloc (.cells (tbR zeroT) 74)) w1) : w.heap.size + 2 ≤ w1.heap.size ∧ TbAt w1 (w.heap.size + 1) zeroT ∧ Below w.heap.size w w1 := by
  have h1 := hb1.size
  simp only [World.size_alloc] at h1
  refine ⟨h1, ?_, (((Below.refl _ w).alloc (Nat.le_refl _) O).alloc (by rw [World.size_alloc]; omega) _).trans (hb1.mono (by simp only [World.size_alloc]; omega))⟩
  have := (TbAt.new (w.alloc O) zeroT).below hb1
  rwa [World.size_alloc] at this
set_option maxRecDepth 100000 in
set_option maxHeartbeats 4000000 in
theorem matchAt_any (d : Nd) (k : Fo) (ss : List Snd) (sv : Value) (at' : Int) (w : World) (hp : Pt w d k) (hW : Wd w sv ss) (hT : Tab64 w) (ht0 : 0 < w.heap.size) :
    Gives 56 #[ndV d, sv, .int .i64 at'] w (.tuple #[.agg (tbR (maT d k ss at')), .int .i64 (maE d k ss at')]) := by
  unfold Gives
  have hma := fun (W : World) (hb : Below w.heap.size w W) => match_any d k ss sv W (hp.below hb) (hW.below hb) (hT.below hb ht0) (by have := hb.size; omega)
  obtain ⟨wo, wc, rfl, lw, mw, -⟩ := hW.open
  have hml := maxLen_lt (Nat.le_trans lw mw)
  obtain ⟨ao, cap, hsl, -, -, -⟩ := hp.open
  obtain ⟨T0, hT0⟩ : ∃ T0, mtT d k ss = T0 := ⟨_, rfl⟩
  obtain ⟨E0, hE0⟩ : ∃ E0, mtE d k ss = E0 := ⟨_, rfl⟩
  obtain ⟨T, hTT⟩ : ∃ T, maT d k ss at' = T := ⟨_, rfl⟩
  obtain ⟨E, hE⟩ : ∃ E, maE d k ss at' = E := ⟨_, rfl⟩
  have hEE : E = if E0 = 0 then (if 0 ≤ at' ∧ at' ≤ ss.length then 0 else 3) else E0 := by rw [← hE, ← hE0]; rfl
  have hTa : E = 0 → T = T0 := fun h => by
    rw [← hTT, maT, if_pos (hE.trans h), ← hT0, mtT, if_pos (maE_ok (hE.trans h)).1]
  have hTb : E ≠ 0 → T = zeroT := fun h => by rw [← hTT, maT, if_neg (by rw [hE]; exact h)]
  have hTc : E0 ≠ 0 → T0 = zeroT := fun h => by rw [← hT0, mtT, if_neg (by rw [hE0]; exact h)]
  rw [hE, hTT]
  rw [hT0, hE0] at hma
  obtain ⟨L, hL⟩ : ∃ L, ss.length = L := ⟨_, rfl⟩
  rw [hL] at hma hml hEE ⊢
  obtain ⟨kind, ⟨p, m⟩, neg, mi, ma, sl⟩ := d
  simp only at hsl
  subst hsl
  obtain ⟨kl, hkl⟩ : ∃ kl, k.len = kl := ⟨_, rfl⟩
  rw [hkl] at hma ⊢
  unfold ndV at hma ⊢
  simp only at hma ⊢
  have HMA := Lib.hid hma
  have HZ := Lib.hid tbR_zero
  have HTA := Lib.hid hTa; have HTB := Lib.hid hTb; have HTC := Lib.hid hTc
  clear hma hp hW hT ht0 hT0 hE0 hTT hE hL hkl hTa hTb hTc lw mw
  go_enter Tryd.func56, Tryd.ntmps56
  go_wp2_with fail
  rw [← HZ.out]
  go_at_call 49
  refine Gives.then (HMA.out _ (by go_grown)) ?_
  intro w1 hb1
  obtain ⟨hz1, t1, hB1⟩ := head_facts hb1
  have T1 := Lib.hid t1; have HB1 := Lib.hid hB1
  have P8 := Lib.hid ((TbAt.new w1 zeroT).setRow T0)
  have P6 := Lib.hid (((T1.out.past (.cells (tbR zeroT) 74)).setRow_other (g := w1.heap.size) (by omega) (tbR T0)))
  have HB2 := Lib.hid (below_setRow (g := w1.heap.size) (HB1.out.alloc HB1.out.size (.cells (tbR zeroT) 74)) (by omega) (tbR T0))
  clear hb1 t1 hB1 HMA
  by_cases hE0 : E0 = 0
  · rw [if_pos hE0] at hEE
    subst hE0
    by_cases hr : 0 ≤ at' ∧ at' ≤ (L : Int)
    · rw [if_pos hr] at hEE
      subst hEE
      have hTT := HTA.out rfl
      subst hTT
      obtain ⟨hr1, hr2⟩ := hr
      clear HTA HTB HTC
      go_wp2_with (first | (rw [← HZ.out]; refine wpList_st rfl (.tmp 8) (.tmp 14) rfl w1.heap.size zeroT _ rfl rfl (TbAt.new w1 zeroT) ?_) | (refine wpList_ld rfl (.tmp 8) rfl w1.heap.size _ rfl P8.out ?_) | (refine wpList_st rfl (.tmp 6) (.tmp 29) rfl (w.heap.size + 1) zeroT _ rfl rfl P6.out ?_))
      refine bodyPost_ret (parts_ret2 rfl _ _ (w.heap.size + 1) _ _ _ rfl rfl (P6.out.setRow _) (fun a ha => rfl)) rfl ?_
      exact ⟨rfl, below_setRow HB2.out (by omega) _⟩
    · rw [if_neg hr] at hEE
      subst hEE
      have hTT := HTB.out (by decide)
      subst hTT
      clear HTA HTB HTC
      by_cases hneg : at' < 0
      · clear hr
        go_wp2_with (first | (rw [← HZ.out]; refine wpList_st rfl (.tmp 8) (.tmp 14) rfl w1.heap.size zeroT _ rfl rfl (TbAt.new w1 zeroT) ?_) | (rw [← HZ.out]; refine wpList_st rfl (.tmp 6) (.tmp 28) rfl (w.heap.size + 1) zeroT _ rfl rfl P6.out ?_))
        refine bodyPost_ret (parts_ret2 rfl _ _ (w.heap.size + 1) _ _ _ rfl rfl (P6.out.setRow _) (fun a ha => rfl)) rfl ?_
        exact ⟨rfl, below_setRow HB2.out (by omega) _⟩
      · have hgt : (L : Int) < at' := by omega
        clear hr
        go_wp2_with (first | (rw [← HZ.out]; refine wpList_st rfl (.tmp 8) (.tmp 14) rfl w1.heap.size zeroT _ rfl rfl (TbAt.new w1 zeroT) ?_) | (rw [← HZ.out]; refine wpList_st rfl (.tmp 6) (.tmp 28) rfl (w.heap.size + 1) zeroT _ rfl rfl P6.out ?_))
        refine bodyPost_ret (parts_ret2 rfl _ _ (w.heap.size + 1) _ _ _ rfl rfl (P6.out.setRow _) (fun a ha => rfl)) rfl ?_
        exact ⟨rfl, below_setRow HB2.out (by omega) _⟩
  · rw [if_neg hE0] at hEE
    subst hEE
    have hTT := HTB.out hE0
    subst hTT
    have hTT := HTC.out hE0
    subst hTT
    clear HTA HTB HTC
    go_wp2_with (first | (rw [← HZ.out]; refine wpList_st rfl (.tmp 8) (.tmp 14) rfl w1.heap.size zeroT _ rfl rfl (TbAt.new w1 zeroT) ?_) | (refine wpList_ld rfl (.tmp 8) rfl w1.heap.size _ rfl P8.out ?_) | (refine wpList_st rfl (.tmp 6) (.tmp 29) rfl (w.heap.size + 1) zeroT _ rfl rfl P6.out ?_))
    refine bodyPost_ret (parts_ret2 rfl _ _ (w.heap.size + 1) _ _ _ rfl rfl (P6.out.setRow _) (fun a ha => rfl)) rfl ?_
    exact ⟨rfl, below_setRow HB2.out (by omega) _⟩
end Go.Proofs.YtmobilppakjihaaDoor

/-
  Whether a pattern matches a whole word (Matches).
-/
namespace Go.Proofs.YtmobilppakjihaaDoor
open Go.RowKit Go.Sort
theorem setRow_size (w : World) (g : Nat) (cs : Array Value) : (w.setRow g cs).heap.size = w.heap.size := by
  simp [World.setRow]
def mtsB (d : Nd) (k : Fo) (ss : List Snd) : Bool := decide (mtE d k ss = 0) && (tabP ss d k 0).getLsbD ss.length
set_option maxRecDepth 100000 in
set_option maxHeartbeats 4000000 in
theorem matches_any (d : Nd) (k : Fo) (ss : List Snd) (sv : Value) (w : World) (hp : Pt w d k) (hW : Wd w sv ss) (hT : Tab64 w) (ht0 : 0 < w.heap.size) :
    Gives 29 #[ndV d, sv] w (.tuple #[.bool (mtsB d k ss), .int .i64 (mtE d k ss)]) := by
  unfold Gives
  have hma := fun (W : World) (hb : Below w.heap.size w W) => match_any d k ss sv W (hp.below hb) (hW.below hb) (hT.below hb ht0) (by have := hb.size; omega)
  obtain ⟨wo, wc, rfl, lw, mw, -⟩ := hW.open
  have hml := maxLen_lt (Nat.le_trans lw mw)
  obtain ⟨ao, cap, hsl, -, -, -⟩ := hp.open
  obtain ⟨T, hT0⟩ : ∃ T, mtT d k ss = T := ⟨_, rfl⟩
  obtain ⟨B, hB⟩ : ∃ B, mtsB d k ss = B := ⟨_, rfl⟩
  obtain ⟨E, hE⟩ : ∃ E, mtE d k ss = E := ⟨_, rfl⟩
  have hBB : B = (decide (E = 0) && (T 0).getLsbD ss.length) := by
    rw [← hB, mtsB, ← hE, ← hT0, mtT]
    split
    · rfl
    · rename_i h; simp [h]
  have h32 : E = 0 → ss.length ≤ 32 := fun h => chk_len (node_ok (hE.trans h)).2
  rw [hE, hB]
  rw [hT0, hE] at hma
  clear hT0 hB hE
  obtain ⟨L, hL⟩ : ∃ L, ss.length = L := ⟨_, rfl⟩
  rw [hL] at hma hml hBB h32 ⊢
  clear hL
  obtain ⟨kind, ⟨p, m⟩, neg, mi, ma, sl⟩ := d
  simp only at hsl
  subst hsl
  obtain ⟨kl, hkl⟩ : ∃ kl, k.len = kl := ⟨_, rfl⟩
  rw [hkl] at hma ⊢
  unfold ndV at hma ⊢
  simp only at hma ⊢
  have HMA := Lib.hid hma
  have HZ := Lib.hid tbR_zero
  clear hma hp hW hT hkl lw mw
  go_enter Tryd.func29, Tryd.ntmps29
  go_wp2_with fail
  go_at_call 49
  refine Gives.then (HMA.out _ (by go_grown)) ?_
  intro w1 hb1
  have hz1 : w.heap.size + 1 ≤ w1.heap.size := by have := hb1.size; rwa [World.size_alloc] at this
  have HB1 := Lib.hid (((Below.refl _ w).alloc (Nat.le_refl _) (.cells #[.int .i64 kind, .int .u32 (p.toNat : Int), .int .u32 (m.toNat : Int), .bool neg, .int .i64 mi, .int .i64 ma, .slice ao kl cap] 27)).trans (hb1.mono (by rw [World.size_alloc]; omega)))
  have P8 := Lib.hid ((TbAt.new w1 zeroT).setRow T)
  have HB2 := Lib.hid (below_setRow (g := w1.heap.size) (HB1.out.alloc HB1.out.size (.cells (tbR zeroT) 74)) (by omega) (tbR T))
  have hsz2 : ((w1.alloc (.cells (tbR zeroT) 74)).setRow w1.heap.size (tbR T)).heap.size = w1.heap.size + 1 := by rw [setRow_size, World.size_alloc]
  clear hb1 HMA
  by_cases hE : E = 0
  · subst hE
    have h32' := h32 rfl
    have HBB := Lib.hid (show B = (T 0).getLsbD L by simpa using hBB)
    have c0 := P8.out.cell (a := 0) (by omega)
    have hh := fun W : World => has_any (T 0) L (by omega) W
    have HH := Lib.hid hh
    clear hBB h32 hh
    go_wp2_with (first | (rw [← HZ.out]; refine wpList_st rfl (.tmp 6) (.tmp 12) rfl w1.heap.size zeroT _ rfl rfl (TbAt.new w1 zeroT) ?_) | (go_at_call 50; refine (HH.out _).mono ?_; rintro e w3 ⟨rfl, rfl⟩))
    go_returns
    exact ⟨by rw [HBB.out]; rfl, HB2.out⟩
  · have hB' : B = false := by rw [hBB]; simp [hE]
    subst hB'
    clear hBB h32
    go_wp2_with (first | (rw [← HZ.out]; refine wpList_st rfl (.tmp 6) (.tmp 12) rfl w1.heap.size zeroT _ rfl rfl (TbAt.new w1 zeroT) ?_))
    go_returns
    exact ⟨rfl, HB2.out⟩
end Go.Proofs.YtmobilppakjihaaDoor
