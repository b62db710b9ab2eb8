/-
  Lemmas that the theorem of this claim rests on: 2 texts, one behind the other.
-/
import Derived.Test.YtmobilppakjihaaDoorM25
import Derived.Test.YtmobilppakjihaaDoorM22
import Derived.Test.YtmobilppakjihaaDoorM19
import Derived.Test.YtmobilppakjihaaDoorM1
import Derived.Test.YtmobilppakjihaaDoorM9
set_option linter.unusedSimpArgs false
set_option linter.unusedVariables false
/-
  The specification's errors, and where what is matched ends and begins (both, Ends, Begins).
-/
namespace Go.Proofs.YtmobilppakjihaaDoor
open Go.RowKit Go.Sort
theorem fl64_filter (r : BitVec 64) : ∀ (f j : Nat), j + f ≤ 64 → (fl64 r f j).map (·.val) = (List.range' j f).filter fun b => r.getLsbD b
  | 0, j, _ => rfl
  | f + 1, j, h => by
    have ih := fl64_filter r f (j + 1) (by omega)
    have e : (Fin.ofNat 64 j).val = j := Nat.mod_eq_of_lt (by omega)
    unfold fl64
    rw [List.range'_succ, List.filter_cons]
    split
    · rename_i hb
      rw [List.map_cons, ih, e]
    · rename_i hb
      rw [ih]
def selE (T : Tb) (a n : Nat) : List Nat := (List.range n).filter fun b => (T a).getLsbD b
theorem selE_step (T : Tb) (a n : Nat) : selE T a (n + 1) = selE T a n ++ (if (T a).getLsbD n then [n] else []) := by
  unfold selE
  rw [List.range_succ, List.filter_append]
  congr 1
  by_cases h : (T a).getLsbD n <;> simp [h]
theorem selE_len (T : Tb) (a n : Nat) : (selE T a n).length ≤ n := by
  have := List.length_filter_le (fun b => (T a).getLsbD b) (List.range n)
  simpa [selE] using this
theorem selE_stable {T : Tb} {a L : Nat} (h : ∀ b, L < b → (T a).getLsbD b = false) : ∀ n, L + 1 ≤ n → selE T a n = selE T a (L + 1) := by
  intro n hn
  induction n with
  | zero => omega
  | succ n ih =>
    by_cases hx : n = L
    · rw [hx]
    · rw [selE_step, h n (by omega), ih (by omega)]
      simp
theorem selE_end {T : Tb} {a L : Nat} (hl : L ≤ 32) (hT : OkT L T) : selE T a (L + 1) = endL T a := by
  have h1 : endL T a = selE T a 64 := by
    unfold endL elems64 selE
    rw [fl64_filter _ 64 0 (by omega), List.range_eq_range']
  rw [h1]
  refine (selE_stable (fun b hb => ?_) 64 (by omega)).symm
  rcases h : (T a).getLsbD b with _ | _
  · rfl
  · have := hT a b h
    omega
theorem begL_end {T : Tb} {e L : Nat} (hl : L ≤ 32) (hT : OkT L T) : begL T e (L + 1) = begL T e 33 := by
  refine (begL_stable (fun a ha => ?_) 33 (by omega)).symm
  rcases h : (T a).getLsbD e with _ | _
  · rfl
  · have := hT a e h
    omega
set_option maxRecDepth 100000 in
set_option maxHeartbeats 2000000 in
theorem rboth_any (d : Nd) (k : Fo) (ss : List Snd) (sv : Value) (w : World) (hp : Pt w d k) (hW : Wd w sv ss) : Gives 59 #[ndV d, sv] w (.int .i64 (mtE d k ss)) := by
  unfold Gives
  have hck := fun (W : World) (hb : Below w.heap.size w W) => rpcheck_any d k W (hp.below hb)
  have hcw := fun (W : World) (hb : Below w.heap.size w W) => rcheck_any ss sv W (hW.below hb)
  obtain ⟨wo, wc, rfl, lw, mw, -⟩ := hW.open
  obtain ⟨ao, cap, hsl, -, -, -⟩ := hp.open
  unfold mtE
  obtain ⟨E1, hE1⟩ : ∃ E1, pkE d k = E1 := ⟨_, rfl⟩
  obtain ⟨E2, hE2⟩ : ∃ E2, chk ss = E2 := ⟨_, rfl⟩
  rw [hE1] at hck ⊢
  rw [hE2] at hcw ⊢
  obtain ⟨L, hL⟩ : ∃ L, ss.length = L := ⟨_, rfl⟩
  rw [hL] at hcw ⊢
  obtain ⟨kind, ⟨p, m⟩, neg, mi, ma, sl⟩ := d
  simp only at hsl
  subst hsl
  obtain ⟨kl, hkl⟩ : ∃ kl, k.len = kl := ⟨_, rfl⟩
  rw [hkl] at hck ⊢
  unfold ndV at hck ⊢
  simp only at hck ⊢
  have HCK := Lib.hid hck; have HCW := Lib.hid hcw
  have HB0 := Lib.hid (show Below w.heap.size w (w.alloc (.cells #[.int .i64 kind, .int .u32 (p.toNat : Int), .int .u32 (m.toNat : Int), .bool neg, .int .i64 mi, .int .i64 ma, .slice ao kl cap] 27)) by go_grown)
  clear hck hcw hp hW lw mw hL hkl hE1 hE2
  by_cases h1 : E1 = 0
  · subst h1
    rw [if_pos rfl]
    go_enter Tryd.func59, Tryd.ntmps59
    go_wp2_with (first | (go_at_call 15; refine Gives.then (HCK.out _ HB0.out) ?_; intro w1 hb1; have HB1 := Lib.hid (HB0.out.trans (hb1.mono HB0.out.size)); clear hb1) | (go_at_call 82; refine Gives.then (HCW.out _ HB1.out) ?_; intro w2 hb2; have HB2 := Lib.hid (HB1.out.trans (hb2.mono HB1.out.size)); clear hb2))
    go_returns
    exact ⟨rfl, HB2.out⟩
  · rw [if_neg h1]
    have h1i : (E1 == 0) = false := by simpa using h1
    clear h1
    go_enter Tryd.func59, Tryd.ntmps59
    go_wp2_with (go_at_call 15; refine Gives.then (HCK.out _ HB0.out) ?_; intro w1 hb1; have HB1 := Lib.hid (HB0.out.trans (hb1.mono HB0.out.size)); clear hb1)
    go_returns
    exact ⟨rfl, HB1.out⟩
set_option maxRecDepth 100000 in
set_option maxHeartbeats 4000000 in
theorem rends_any (d : Nd) (k : Fo) (ss : List Snd) (sv : Value) (at' : Int) (w : World) (hp : Pt w d k) (hW : Wd w sv ss) :
    Calls Tryd.prog 24 #[ndV d, sv, .int .i64 at'] w fun e w' => ∃ v, e = .returned (.tuple #[v, .int .i64 (maE d k ss at')]) ∧ OwnI w' w.heap.size v (enL d k ss at') ∧ Below w.heap.size w w' := by
  have hbt := fun (W : World) (hb : Below w.heap.size w W) => rboth_any d k ss sv W (hp.below hb) (hW.below hb)
  have htb := fun (hE : mtE d k ss = 0) (W : World) (hb : Below w.heap.size w W) => rtable_any d k ss sv W (hp.below hb) (hW.below hb) hE
  obtain ⟨wo, wc, rfl, lw, mw, -⟩ := hW.open
  have hml := maxLen_lt (Nat.le_trans lw mw)
  obtain ⟨ao, cap, hsl, -, -, -⟩ := hp.open
  have h32 := fun (hE : mtE d k ss = 0) => chk_len (node_ok hE).2
  have hok := fun (h : ss.length ≤ 32) => OkT.pat h d k
  obtain ⟨T, hT0⟩ : ∃ T, tabP ss d k = T := ⟨_, rfl⟩
  obtain ⟨R, hR⟩ : ∃ R, enL d k ss at' = R := ⟨_, rfl⟩
  obtain ⟨E, hE⟩ : ∃ E, mtE d k ss = E := ⟨_, rfl⟩
  have hR1 : ∀ a : Nat, at' = a → E = 0 → a ≤ ss.length → R = selE T a (ss.length + 1) := fun a ha h h2 => by
    have hl := h32 (hE.trans h)
    have h3 : maE d k ss at' = 0 := by unfold maE; rw [if_pos (hE.trans h), if_pos ⟨by omega, by omega⟩]
    rw [← hR, enL, if_pos h3, hT0, ha, Int.toNat_natCast]
    exact (selE_end hl (by rw [← hT0]; exact hok hl)).symm
  have hR2 : maE d k ss at' ≠ 0 → R = [] := fun h => by rw [← hR, enL, if_neg h]
  unfold maE at hR2 ⊢
  rw [hR]
  rw [hT0] at htb hok
  rw [hE] at hbt h32 htb hR2 ⊢
  obtain ⟨L, hL⟩ : ∃ L, ss.length = L := ⟨_, rfl⟩
  rw [hL] at hbt htb hml h32 hok hR1 hR2 ⊢
  clear hT0 hR hE hL
  obtain ⟨kind, ⟨p, m⟩, neg, mi, ma, sl⟩ := d
  simp only at hsl
  subst hsl
  obtain ⟨kl, hkl⟩ : ∃ kl, k.len = kl := ⟨_, rfl⟩
  rw [hkl] at hbt htb ⊢
  unfold ndV at hbt htb ⊢
  simp only at hbt htb ⊢
  have HBT := Lib.hid hbt; have HTB := Lib.hid htb
  clear hbt htb hp hW hkl lw mw hok
  have R0 := Lib.hid (World.alloc_heap_new w (.cells #[.int .i64 kind, .int .u32 (p.toNat : Int), .int .u32 (m.toNat : Int), .bool neg, .int .i64 mi, .int .i64 ma, .slice ao kl cap] 27))
  have HB0 := Lib.hid (show Below w.heap.size w (w.alloc (.cells #[.int .i64 kind, .int .u32 (p.toNat : Int), .int .u32 (m.toNat : Int), .bool neg, .int .i64 mi, .int .i64 ma, .slice ao kl cap] 27)) by go_grown)
  by_cases hE : E = 0
  · subst hE
    have h32 := h32 rfl
    replace HTB := Lib.hid (HTB.out rfl)
    simp only [if_true] at hR2 ⊢
    by_cases hneg : at' < 0
    · rw [if_neg (by omega)] at hR2 ⊢
      obtain rfl := hR2 (by decide)
      clear hR1
      go_enter Tryd.func24, Tryd.ntmps24
      go_wp2_with fail
      generalize (w.alloc (.cells #[.int .i64 kind, .int .u32 (p.toNat : Int), .int .u32 (m.toNat : Int), .bool neg, .int .i64 mi, .int .i64 ma, .slice ao kl cap] 27)) = v0 at *
      go_at_call 59
      refine Gives.then (HBT.out _ HB0.out) ?_
      intro w1 hb1
      have HB1 := Lib.hid (HB0.out.trans (hb1.mono HB0.out.size))
      have R1 := Lib.hid ((hb1.block _ (Array.getElem?_eq_some_iff.1 R0.out).1).trans R0.out)
      have g0 := cell_block R1.out (o := 0) rfl; have g1 := cell_block R1.out (o := 1) rfl; have g2 := cell_block R1.out (o := 2) rfl; have g3 := cell_block R1.out (o := 3) rfl; have g4 := cell_block R1.out (o := 4) rfl; have g5 := cell_block R1.out (o := 5) rfl; have g6 := cell_block R1.out (o := 6) rfl
      clear hb1 R0 HB0
      go_wp2_with fail
      go_returns
      exact ⟨_, rfl, OwnI.nil _ _, HB1.out⟩
    · obtain ⟨a, rfl⟩ := Int.eq_ofNat_of_zero_le (show 0 ≤ at' by omega)
      by_cases hal : a ≤ L
      · rw [if_pos ⟨by omega, by omega⟩]
        obtain rfl := hR1 a rfl rfl hal
        clear hR1 hR2
        have hneg1 : ¬ (a : Int) < 0 := by omega
        have hal1 : ¬ (L : Int) < (a : Int) := by omega
        have hal2 : (a : Int) < (L : Int) + 1 := by omega
        go_enter Tryd.func24, Tryd.ntmps24
        go_wp2_with fail
        generalize (w.alloc (.cells #[.int .i64 kind, .int .u32 (p.toNat : Int), .int .u32 (m.toNat : Int), .bool neg, .int .i64 mi, .int .i64 ma, .slice ao kl cap] 27)) = v0 at *
        go_at_call 59
        refine Gives.then (HBT.out _ HB0.out) ?_
        intro w1 hb1
        have HB1 := Lib.hid (HB0.out.trans (hb1.mono HB0.out.size))
        have R1 := Lib.hid ((hb1.block _ (Array.getElem?_eq_some_iff.1 R0.out).1).trans R0.out)
        have g0 := cell_block R1.out (o := 0) rfl; have g1 := cell_block R1.out (o := 1) rfl; have g2 := cell_block R1.out (o := 2) rfl; have g3 := cell_block R1.out (o := 3) rfl; have g4 := cell_block R1.out (o := 4) rfl; have g5 := cell_block R1.out (o := 5) rfl; have g6 := cell_block R1.out (o := 6) rfl
        clear hb1 R0 HB0
        go_wp2_with fail
        go_at_call 51
        refine (HTB.out _ HB1.out).mono ?_
        rintro e w2 ⟨v, rfl, ht, hb2⟩
        obtain ⟨g, rfl, hrow⟩ := ht
        have HR := Lib.hid (fun wr (hw : Below w2.heap.size w2 wr) => hrow.below hw)
        have HB2 := Lib.hid (HB1.out.trans (hb2.mono HB1.out.size))
        clear hrow hb2 HTB HBT HB1 R1 g0 g1 g2 g3 g4 g5 g6
        go_wp2_with fail
        go_loopw [10, 11] (fun u i wr => ∃ j : Nat, j ≤ L + 1 ∧ i = .int .i64 (j : Int) ∧ OwnI wr w2.heap.size u (selE T a j) ∧ Below w2.heap.size w2 wr) (fun _ i _ => L + 1 - (intOf i).toNat)
        case atStart => exact ⟨0, by omega, rfl, OwnI.nil _ _, Below.refl _ _⟩
        case round =>
          obtain ⟨j, hj, rfl, ho, hw⟩ := hrel
          obtain ⟨oa, oc, hov⟩ := ho.slice
          obtain ⟨n, hn⟩ : ∃ n, (selE T a j).length = n := ⟨_, rfl⟩
          rw [hn] at hov
          subst hov
          have hml2 := selE_len T a j
          rw [hn] at hml2
          by_cases hlt : j < L + 1
          · have hji : (j : Int) ≤ (L : Int) := by omega
            have hji2 : (j : Int) < (L : Int) + 1 := by omega
            have c0 := (HR.out wr hw).cell (a := a) (by omega)
            have hst := selE_step T a j
            have hbit := has_nat (T a) j
            have HO := Lib.hid ho; have HW := Lib.hid hw; have HN := Lib.hid hn
            clear ho hw hn HR
            rcases hb : (T a).getLsbD j with _ | _
            · rw [hb] at hst hbit
              have HST := Lib.hid hst
              clear hst hb
              go_wp2_with fail
              go_roundw
              case rel => exact ⟨j + 1, by omega, by go_num, by rw [HST.out]; simpa using HO.out, HW.out⟩
              case measure => simp [intOf] <;> omega
            · rw [hb] at hst hbit
              have HST := Lib.hid hst
              clear hst hb
              have HO2 := Lib.hid (HO.out.below ((Below.refl _ wr).alloc (Nat.le_refl _) (.cells #[.int .i64 (j : Int)] 3)))
              have HW2 := Lib.hid (HW.out.alloc HW.out.size (.cells #[.int .i64 (j : Int)] 3))
              go_wp2_with (at_builtin; refine wpList_appI rfl (.tmp 43) (.tmp 45) rfl w2.heap.size wr.heap.size (.slice oa n oc) (selE T a j) j rfl rfl (cell_block (World.alloc_heap_new wr _) rfl) HO2.out (by have h2 := HN.out; omega) (by have := HW.out.size; rw [World.size_alloc]; omega) ?_; intro v3 w3 ho3 hg3; have HW3 := Lib.hid (HW2.out.grown hg3 HW2.out.size (fun q e => by have := HO2.out.row q e; omega)); have HO3 := Lib.hid ho3; clear ho3 hg3)
              go_roundw
              case rel => exact ⟨j + 1, by omega, by go_num, by rw [HST.out]; exact HO3.out, HW3.out⟩
              case measure => simp [intOf] <;> omega
          · obtain rfl : j = L + 1 := by omega
            have hji : ¬ (((L + 1 : Nat) : Int) ≤ (L : Int)) := by omega
            have HO := Lib.hid ho; have HW := Lib.hid (HB2.out.trans (hw.mono HB2.out.size))
            clear ho hw hlt hn hml2 HR
            go_wp2_with fail
            go_returns
            exact ⟨_, rfl, HO.out.mono HB2.out.size, HW.out⟩
      · rw [if_neg (by omega)] at hR2 ⊢
        obtain rfl := hR2 (by decide)
        clear hR1
        have hneg1 : ¬ (a : Int) < 0 := by omega
        have hal1 : (L : Int) < (a : Int) := by omega
        go_enter Tryd.func24, Tryd.ntmps24
        go_wp2_with fail
        generalize (w.alloc (.cells #[.int .i64 kind, .int .u32 (p.toNat : Int), .int .u32 (m.toNat : Int), .bool neg, .int .i64 mi, .int .i64 ma, .slice ao kl cap] 27)) = v0 at *
        go_at_call 59
        refine Gives.then (HBT.out _ HB0.out) ?_
        intro w1 hb1
        have HB1 := Lib.hid (HB0.out.trans (hb1.mono HB0.out.size))
        have R1 := Lib.hid ((hb1.block _ (Array.getElem?_eq_some_iff.1 R0.out).1).trans R0.out)
        have g0 := cell_block R1.out (o := 0) rfl; have g1 := cell_block R1.out (o := 1) rfl; have g2 := cell_block R1.out (o := 2) rfl; have g3 := cell_block R1.out (o := 3) rfl; have g4 := cell_block R1.out (o := 4) rfl; have g5 := cell_block R1.out (o := 5) rfl; have g6 := cell_block R1.out (o := 6) rfl
        clear hb1 R0 HB0
        go_wp2_with fail
        go_returns
        exact ⟨_, rfl, OwnI.nil _ _, HB1.out⟩
  · rw [if_neg hE] at hR2 ⊢
    obtain rfl := hR2 hE
    have hEi : (E != 0) = true := by simpa using hE
    clear hR1 hE HTB
    go_enter Tryd.func24, Tryd.ntmps24
    go_wp2_with fail
    generalize (w.alloc (.cells #[.int .i64 kind, .int .u32 (p.toNat : Int), .int .u32 (m.toNat : Int), .bool neg, .int .i64 mi, .int .i64 ma, .slice ao kl cap] 27)) = v0 at *
    go_at_call 59
    refine Gives.then (HBT.out _ HB0.out) ?_
    intro w1 hb1
    have HB1 := Lib.hid (HB0.out.trans (hb1.mono HB0.out.size))
    have R1 := Lib.hid ((hb1.block _ (Array.getElem?_eq_some_iff.1 R0.out).1).trans R0.out)
    have g0 := cell_block R1.out (o := 0) rfl; have g1 := cell_block R1.out (o := 1) rfl; have g2 := cell_block R1.out (o := 2) rfl; have g3 := cell_block R1.out (o := 3) rfl; have g4 := cell_block R1.out (o := 4) rfl; have g5 := cell_block R1.out (o := 5) rfl; have g6 := cell_block R1.out (o := 6) rfl
    clear hb1 R0 HB0
    go_wp2_with fail
    go_returns
    exact ⟨_, rfl, OwnI.nil _ _, HB1.out⟩
set_option maxRecDepth 100000 in
set_option maxHeartbeats 4000000 in
theorem rbegins_any (d : Nd) (k : Fo) (ss : List Snd) (sv : Value) (at' : Int) (w : World) (hp : Pt w d k) (hW : Wd w sv ss) :
    Calls Tryd.prog 26 #[ndV d, sv, .int .i64 at'] w fun e w' => ∃ v, e = .returned (.tuple #[v, .int .i64 (maE d k ss at')]) ∧ OwnI w' w.heap.size v (bgL d k ss at') ∧ Below w.heap.size w w' := by
  have hbt := fun (W : World) (hb : Below w.heap.size w W) => rboth_any d k ss sv W (hp.below hb) (hW.below hb)
  have htb := fun (hE : mtE d k ss = 0) (W : World) (hb : Below w.heap.size w W) => rtable_any d k ss sv W (hp.below hb) (hW.below hb) hE
  obtain ⟨wo, wc, rfl, lw, mw, -⟩ := hW.open
  have hml := maxLen_lt (Nat.le_trans lw mw)
  obtain ⟨ao, cap, hsl, -, -, -⟩ := hp.open
  have h32 := fun (hE : mtE d k ss = 0) => chk_len (node_ok hE).2
  have hok := fun (h : ss.length ≤ 32) => OkT.pat h d k
  obtain ⟨T, hT0⟩ : ∃ T, tabP ss d k = T := ⟨_, rfl⟩
  obtain ⟨R, hR⟩ : ∃ R, bgL d k ss at' = R := ⟨_, rfl⟩
  obtain ⟨E, hE⟩ : ∃ E, mtE d k ss = E := ⟨_, rfl⟩
  have hR1 : ∀ a : Nat, at' = a → E = 0 → a ≤ ss.length → R = begL T a (ss.length + 1) := fun a ha h h2 => by
    have hl := h32 (hE.trans h)
    have h3 : maE d k ss at' = 0 := by unfold maE; rw [if_pos (hE.trans h), if_pos ⟨by omega, by omega⟩]
    rw [← hR, bgL, if_pos h3, hT0, ha, Int.toNat_natCast]
    exact (begL_end hl (by rw [← hT0]; exact hok hl)).symm
  have hR2 : maE d k ss at' ≠ 0 → R = [] := fun h => by rw [← hR, bgL, if_neg h]
  unfold maE at hR2 ⊢
  rw [hR]
  rw [hT0] at htb hok
  rw [hE] at hbt h32 htb hR2 ⊢
  obtain ⟨L, hL⟩ : ∃ L, ss.length = L := ⟨_, rfl⟩
  rw [hL] at hbt htb hml h32 hok hR1 hR2 ⊢
  clear hT0 hR hE hL
  obtain ⟨kind, ⟨p, m⟩, neg, mi, ma, sl⟩ := d
  simp only at hsl
  subst hsl
  obtain ⟨kl, hkl⟩ : ∃ kl, k.len = kl := ⟨_, rfl⟩
  rw [hkl] at hbt htb ⊢
  unfold ndV at hbt htb ⊢
  simp only at hbt htb ⊢
  have HBT := Lib.hid hbt; have HTB := Lib.hid htb
  clear hbt htb hp hW hkl lw mw hok
  have R0 := Lib.hid (World.alloc_heap_new w (.cells #[.int .i64 kind, .int .u32 (p.toNat : Int), .int .u32 (m.toNat : Int), .bool neg, .int .i64 mi, .int .i64 ma, .slice ao kl cap] 27))
  have HB0 := Lib.hid (show Below w.heap.size w (w.alloc (.cells #[.int .i64 kind, .int .u32 (p.toNat : Int), .int .u32 (m.toNat : Int), .bool neg, .int .i64 mi, .int .i64 ma, .slice ao kl cap] 27)) by go_grown)
  by_cases hE : E = 0
  · subst hE
    have h32 := h32 rfl
    replace HTB := Lib.hid (HTB.out rfl)
    simp only [if_true] at hR2 ⊢
    by_cases hneg : at' < 0
    · rw [if_neg (by omega)] at hR2 ⊢
      obtain rfl := hR2 (by decide)
      clear hR1
      go_enter Tryd.func26, Tryd.ntmps26
      go_wp2_with fail
      generalize (w.alloc (.cells #[.int .i64 kind, .int .u32 (p.toNat : Int), .int .u32 (m.toNat : Int), .bool neg, .int .i64 mi, .int .i64 ma, .slice ao kl cap] 27)) = v0 at *
      go_at_call 59
      refine Gives.then (HBT.out _ HB0.out) ?_
      intro w1 hb1
      have HB1 := Lib.hid (HB0.out.trans (hb1.mono HB0.out.size))
      have R1 := Lib.hid ((hb1.block _ (Array.getElem?_eq_some_iff.1 R0.out).1).trans R0.out)
      have g0 := cell_block R1.out (o := 0) rfl; have g1 := cell_block R1.out (o := 1) rfl; have g2 := cell_block R1.out (o := 2) rfl; have g3 := cell_block R1.out (o := 3) rfl; have g4 := cell_block R1.out (o := 4) rfl; have g5 := cell_block R1.out (o := 5) rfl; have g6 := cell_block R1.out (o := 6) rfl
      clear hb1 R0 HB0
      go_wp2_with fail
      go_returns
      exact ⟨_, rfl, OwnI.nil _ _, HB1.out⟩
    · obtain ⟨a, rfl⟩ := Int.eq_ofNat_of_zero_le (show 0 ≤ at' by omega)
      by_cases hal : a ≤ L
      · rw [if_pos ⟨by omega, by omega⟩]
        obtain rfl := hR1 a rfl rfl hal
        clear hR1 hR2
        have hneg1 : ¬ (a : Int) < 0 := by omega
        have hal1 : ¬ (L : Int) < (a : Int) := by omega
        have hal2 : (a : Int) < (L : Int) + 1 := by omega
        go_enter Tryd.func26, Tryd.ntmps26
        go_wp2_with fail
        generalize (w.alloc (.cells #[.int .i64 kind, .int .u32 (p.toNat : Int), .int .u32 (m.toNat : Int), .bool neg, .int .i64 mi, .int .i64 ma, .slice ao kl cap] 27)) = v0 at *
        go_at_call 59
        refine Gives.then (HBT.out _ HB0.out) ?_
        intro w1 hb1
        have HB1 := Lib.hid (HB0.out.trans (hb1.mono HB0.out.size))
        have R1 := Lib.hid ((hb1.block _ (Array.getElem?_eq_some_iff.1 R0.out).1).trans R0.out)
        have g0 := cell_block R1.out (o := 0) rfl; have g1 := cell_block R1.out (o := 1) rfl; have g2 := cell_block R1.out (o := 2) rfl; have g3 := cell_block R1.out (o := 3) rfl; have g4 := cell_block R1.out (o := 4) rfl; have g5 := cell_block R1.out (o := 5) rfl; have g6 := cell_block R1.out (o := 6) rfl
        clear hb1 R0 HB0
        go_wp2_with fail
        go_at_call 51
        refine (HTB.out _ HB1.out).mono ?_
        rintro e w2 ⟨v, rfl, ht, hb2⟩
        obtain ⟨g, rfl, hrow⟩ := ht
        have HR := Lib.hid (fun wr (hw : Below w2.heap.size w2 wr) => hrow.below hw)
        have HB2 := Lib.hid (HB1.out.trans (hb2.mono HB1.out.size))
        clear hrow hb2 HTB HBT HB1 R1 g0 g1 g2 g3 g4 g5 g6
        go_wp2_with fail
        go_loopw [10, 11] (fun u i wr => ∃ j : Nat, j ≤ L + 1 ∧ i = .int .i64 (j : Int) ∧ OwnI wr w2.heap.size u (begL T a j) ∧ Below w2.heap.size w2 wr) (fun _ i _ => L + 1 - (intOf i).toNat)
        case atStart => exact ⟨0, by omega, rfl, OwnI.nil _ _, Below.refl _ _⟩
        case round =>
          obtain ⟨j, hj, rfl, ho, hw⟩ := hrel
          obtain ⟨oa, oc, hov⟩ := ho.slice
          obtain ⟨n, hn⟩ : ∃ n, (begL T a j).length = n := ⟨_, rfl⟩
          rw [hn] at hov
          subst hov
          have hml2 := begL_len T a j
          rw [hn] at hml2
          by_cases hlt : j < L + 1
          · have hji : (j : Int) ≤ (L : Int) := by omega
            have hji2 : (j : Int) < (L : Int) + 1 := by omega
            have c0 := (HR.out wr hw).cell (a := j) (by omega)
            have hst := begL_step T a j
            have hbit := has_nat (T j) a
            have HO := Lib.hid ho; have HW := Lib.hid hw; have HN := Lib.hid hn
            clear ho hw hn HR
            rcases hb : (T j).getLsbD a with _ | _
            · rw [hb] at hst hbit
              have HST := Lib.hid hst
              clear hst hb
              go_wp2_with fail
              go_roundw
              case rel => exact ⟨j + 1, by omega, by go_num, by rw [HST.out]; simpa using HO.out, HW.out⟩
              case measure => simp [intOf] <;> omega
            · rw [hb] at hst hbit
              have HST := Lib.hid hst
              clear hst hb
              have HO2 := Lib.hid (HO.out.below ((Below.refl _ wr).alloc (Nat.le_refl _) (.cells #[.int .i64 (j : Int)] 3)))
              have HW2 := Lib.hid (HW.out.alloc HW.out.size (.cells #[.int .i64 (j : Int)] 3))
              go_wp2_with (at_builtin; refine wpList_appI rfl (.tmp 43) (.tmp 45) rfl w2.heap.size wr.heap.size (.slice oa n oc) (begL T a j) j rfl rfl (cell_block (World.alloc_heap_new wr _) rfl) HO2.out (by have h2 := HN.out; omega) (by have := HW.out.size; rw [World.size_alloc]; omega) ?_; intro v3 w3 ho3 hg3; have HW3 := Lib.hid (HW2.out.grown hg3 HW2.out.size (fun q e => by have := HO2.out.row q e; omega)); have HO3 := Lib.hid ho3; clear ho3 hg3)
              go_roundw
              case rel => exact ⟨j + 1, by omega, by go_num, by rw [HST.out]; exact HO3.out, HW3.out⟩
              case measure => simp [intOf] <;> omega
          · obtain rfl : j = L + 1 := by omega
            have hji : ¬ (((L + 1 : Nat) : Int) ≤ (L : Int)) := by omega
            have HO := Lib.hid ho; have HW := Lib.hid (HB2.out.trans (hw.mono HB2.out.size))
            clear ho hw hlt hn hml2 HR
            go_wp2_with fail
            go_returns
            exact ⟨_, rfl, HO.out.mono HB2.out.size, HW.out⟩
      · rw [if_neg (by omega)] at hR2 ⊢
        obtain rfl := hR2 (by decide)
        clear hR1
        have hneg1 : ¬ (a : Int) < 0 := by omega
        have hal1 : (L : Int) < (a : Int) := by omega
        go_enter Tryd.func26, Tryd.ntmps26
        go_wp2_with fail
        generalize (w.alloc (.cells #[.int .i64 kind, .int .u32 (p.toNat : Int), .int .u32 (m.toNat : Int), .bool neg, .int .i64 mi, .int .i64 ma, .slice ao kl cap] 27)) = v0 at *
        go_at_call 59
        refine Gives.then (HBT.out _ HB0.out) ?_
        intro w1 hb1
        have HB1 := Lib.hid (HB0.out.trans (hb1.mono HB0.out.size))
        have R1 := Lib.hid ((hb1.block _ (Array.getElem?_eq_some_iff.1 R0.out).1).trans R0.out)
        have g0 := cell_block R1.out (o := 0) rfl; have g1 := cell_block R1.out (o := 1) rfl; have g2 := cell_block R1.out (o := 2) rfl; have g3 := cell_block R1.out (o := 3) rfl; have g4 := cell_block R1.out (o := 4) rfl; have g5 := cell_block R1.out (o := 5) rfl; have g6 := cell_block R1.out (o := 6) rfl
        clear hb1 R0 HB0
        go_wp2_with fail
        go_returns
        exact ⟨_, rfl, OwnI.nil _ _, HB1.out⟩
  · rw [if_neg hE] at hR2 ⊢
    obtain rfl := hR2 hE
    have hEi : (E != 0) = true := by simpa using hE
    clear hR1 hE HTB
    go_enter Tryd.func26, Tryd.ntmps26
    go_wp2_with fail
    generalize (w.alloc (.cells #[.int .i64 kind, .int .u32 (p.toNat : Int), .int .u32 (m.toNat : Int), .bool neg, .int .i64 mi, .int .i64 ma, .slice ao kl cap] 27)) = v0 at *
    go_at_call 59
    refine Gives.then (HBT.out _ HB0.out) ?_
    intro w1 hb1
    have HB1 := Lib.hid (HB0.out.trans (hb1.mono HB0.out.size))
    have R1 := Lib.hid ((hb1.block _ (Array.getElem?_eq_some_iff.1 R0.out).1).trans R0.out)
    have g0 := cell_block R1.out (o := 0) rfl; have g1 := cell_block R1.out (o := 1) rfl; have g2 := cell_block R1.out (o := 2) rfl; have g3 := cell_block R1.out (o := 3) rfl; have g4 := cell_block R1.out (o := 4) rfl; have g5 := cell_block R1.out (o := 5) rfl; have g6 := cell_block R1.out (o := 6) rfl
    clear hb1 R0 HB0
    go_wp2_with fail
    go_returns
    exact ⟨_, rfl, OwnI.nil _ _, HB1.out⟩
end Go.Proofs.YtmobilppakjihaaDoor

/-
  Whether a whole word is matched, and the first part that is (Matches, Find).
-/
namespace Go.Proofs.YtmobilppakjihaaDoor
open Go.RowKit Go.Sort
set_option maxRecDepth 100000 in
set_option maxHeartbeats 2000000 in
theorem rmatches_any (d : Nd) (k : Fo) (ss : List Snd) (sv : Value) (w : World) (hp : Pt w d k) (hW : Wd w sv ss) :
    Gives 30 #[ndV d, sv] w (.tuple #[.bool (mtsB d k ss), .int .i64 (mtE d k ss)]) := by
  unfold Gives
  have hbt := fun (W : World) (hb : Below w.heap.size w W) => rboth_any d k ss sv W (hp.below hb) (hW.below hb)
  have htb := fun (hE : mtE d k ss = 0) (W : World) (hb : Below w.heap.size w W) => rtable_any d k ss sv W (hp.below hb) (hW.below hb) hE
  obtain ⟨wo, wc, rfl, lw, mw, -⟩ := hW.open
  have hml := maxLen_lt (Nat.le_trans lw mw)
  obtain ⟨ao, cap, hsl, -, -, -⟩ := hp.open
  have h32 := fun (hE : mtE d k ss = 0) => chk_len (node_ok hE).2
  have hok := fun (h : ss.length ≤ 32) => OkT.pat h d k
  obtain ⟨T, hT0⟩ : ∃ T, tabP ss d k = T := ⟨_, rfl⟩
  obtain ⟨R, hR⟩ : ∃ R, mtsB d k ss = R := ⟨_, rfl⟩
  obtain ⟨E, hE⟩ : ∃ E, mtE d k ss = E := ⟨_, rfl⟩
  have hR1 : R = (decide (E = 0) && (T 0).getLsbD ss.length) := by rw [← hR, mtsB, hE, hT0]
  rw [hR]
  rw [hT0] at htb hok
  rw [hE] at hbt h32 htb ⊢
  obtain ⟨L, hL⟩ : ∃ L, ss.length = L := ⟨_, rfl⟩
  rw [hL] at hbt htb hml h32 hok hR1 ⊢
  clear hT0 hR hE hL
  obtain ⟨kind, ⟨p, m⟩, neg, mi, ma, sl⟩ := d
  simp only at hsl
  subst hsl
  obtain ⟨kl, hkl⟩ : ∃ kl, k.len = kl := ⟨_, rfl⟩
  rw [hkl] at hbt htb ⊢
  unfold ndV at hbt htb ⊢
  simp only at hbt htb ⊢
  have HBT := Lib.hid hbt; have HTB := Lib.hid htb
  clear hbt htb hp hW hkl lw mw
  have R0 := Lib.hid (World.alloc_heap_new w (.cells #[.int .i64 kind, .int .u32 (p.toNat : Int), .int .u32 (m.toNat : Int), .bool neg, .int .i64 mi, .int .i64 ma, .slice ao kl cap] 27))
  have HB0 := Lib.hid (show Below w.heap.size w (w.alloc (.cells #[.int .i64 kind, .int .u32 (p.toNat : Int), .int .u32 (m.toNat : Int), .bool neg, .int .i64 mi, .int .i64 ma, .slice ao kl cap] 27)) by go_grown)
  by_cases hE : E = 0
  · subst hE
    have h32 := h32 rfl
    replace HTB := Lib.hid (HTB.out rfl)
    have hR2 : R = (T 0).getLsbD L := by rw [hR1]; simp
    have hbit := has_nat (T 0) L
    rw [← hR2] at hbit
    have h0i : (0 : Int) < (L : Int) + 1 := by omega
    have h0n : 0 < L + 1 := by omega
    clear hR1 hR2 hok
    go_enter Tryd.func30, Tryd.ntmps30
    go_wp2_with fail
    generalize (w.alloc (.cells #[.int .i64 kind, .int .u32 (p.toNat : Int), .int .u32 (m.toNat : Int), .bool neg, .int .i64 mi, .int .i64 ma, .slice ao kl cap] 27)) = v0 at *
    go_at_call 59
    refine Gives.then (HBT.out _ HB0.out) ?_
    intro w1 hb1
    have HB1 := Lib.hid (HB0.out.trans (hb1.mono HB0.out.size))
    have R1 := Lib.hid ((hb1.block _ (Array.getElem?_eq_some_iff.1 R0.out).1).trans R0.out)
    have g0 := cell_block R1.out (o := 0) rfl; have g1 := cell_block R1.out (o := 1) rfl; have g2 := cell_block R1.out (o := 2) rfl; have g3 := cell_block R1.out (o := 3) rfl; have g4 := cell_block R1.out (o := 4) rfl; have g5 := cell_block R1.out (o := 5) rfl; have g6 := cell_block R1.out (o := 6) rfl
    clear hb1 R0 HB0
    go_wp2_with fail
    go_at_call 51
    refine (HTB.out _ HB1.out).mono ?_
    rintro e w2 ⟨v, rfl, ht, hb2⟩
    obtain ⟨g, rfl, hrow⟩ := ht
    have c0 := hrow.cell (a := 0) (by omega)
    have HB2 := Lib.hid (HB1.out.trans (hb2.mono HB1.out.size))
    clear hrow hb2 HTB HBT HB1 R1 g0 g1 g2 g3 g4 g5 g6
    go_wp2_with fail
    go_returns
    exact ⟨rfl, HB2.out⟩
  · have hEi : (E != 0) = true := by simpa using hE
    have hR2 : R = false := by rw [hR1]; simp [hE]
    subst hR2
    clear hR1 hE HTB hok
    go_enter Tryd.func30, Tryd.ntmps30
    go_wp2_with fail
    generalize (w.alloc (.cells #[.int .i64 kind, .int .u32 (p.toNat : Int), .int .u32 (m.toNat : Int), .bool neg, .int .i64 mi, .int .i64 ma, .slice ao kl cap] 27)) = v0 at *
    go_at_call 59
    refine Gives.then (HBT.out _ HB0.out) ?_
    intro w1 hb1
    have HB1 := Lib.hid (HB0.out.trans (hb1.mono HB0.out.size))
    have R1 := Lib.hid ((hb1.block _ (Array.getElem?_eq_some_iff.1 R0.out).1).trans R0.out)
    have g0 := cell_block R1.out (o := 0) rfl; have g1 := cell_block R1.out (o := 1) rfl; have g2 := cell_block R1.out (o := 2) rfl; have g3 := cell_block R1.out (o := 3) rfl; have g4 := cell_block R1.out (o := 4) rfl; have g5 := cell_block R1.out (o := 5) rfl; have g6 := cell_block R1.out (o := 6) rfl
    clear hb1 R0 HB0
    go_wp2_with fail
    go_returns
    exact ⟨rfl, HB1.out⟩
def fdV (R : Nat × Nat × Bool) (E : Int) : Value := .tuple #[.int .i64 (R.1 : Int), .int .i64 (R.2.1 : Int), .bool R.2.2, .int .i64 E]
theorem fdR_hit {n : Nat} {T : Tb} (hT : OkT n T) {a0 a c : Nat} (h1 : a0 ≤ a) (h2 : a ≤ n) (h3 : ∀ j, a0 ≤ j → j < a → (T j).toNat = 0) (h4 : (T a).getLsbD c = true) (h5 : ∀ b, c < b → b ≤ n → (T a).getLsbD b = false) : fdR T a0 (n + 1) = (a, c, true) := by
  have hne : (T a).toNat ≠ 0 := fun h => by rw [bit_zero h c] at h4; cases h4
  obtain ⟨l1, l2⟩ := log_bit hne
  have l3 := l2 c h4
  have l4 := hT a _ l1
  have l5 : ¬ c < Nat.log2 (T a).toNat := fun h => by
    have := h5 _ h l4.2
    rw [l1] at this; cases this
  have l6 : Nat.log2 (T a).toNat = c := by omega
  unfold fdR
  rw [fdI_some (n := n + 1) (by omega) h1 hne h3]
  show (a, Nat.log2 (T a).toNat, true) = _
  rw [l6]
theorem zero_of {n : Nat} {T : Tb} (hT : OkT n T) {a : Nat} (h : ∀ b, a ≤ b → b ≤ n → (T a).getLsbD b = false) : (T a).toNat = 0 := by
  rcases Nat.eq_zero_or_pos (T a).toNat with h0 | h0
  · exact h0
  · obtain ⟨l1, -⟩ := log_bit (s := T a) (by omega)
    have l2 := hT a _ l1
    rw [h _ l2.1 l2.2] at l1; cases l1
set_option maxRecDepth 100000 in
set_option maxHeartbeats 4000000 in
theorem rfind_any (d : Nd) (k : Fo) (ss : List Snd) (sv : Value) (at' : Int) (w : World) (hp : Pt w d k) (hW : Wd w sv ss) :
    Gives 32 #[ndV d, sv, .int .i64 at'] w (.tuple #[.int .i64 ((fiR d k ss at').1 : Int), .int .i64 ((fiR d k ss at').2.1 : Int), .bool (fiR d k ss at').2.2, .int .i64 (maE d k ss at')]) := by
  unfold Gives
  have hbt := fun (W : World) (hb : Below w.heap.size w W) => rboth_any d k ss sv W (hp.below hb) (hW.below hb)
  have htb := fun (hE : mtE d k ss = 0) (W : World) (hb : Below w.heap.size w W) => rtable_any d k ss sv W (hp.below hb) (hW.below hb) hE
  obtain ⟨wo, wc, rfl, lw, mw, -⟩ := hW.open
  have hml := maxLen_lt (Nat.le_trans lw mw)
  obtain ⟨ao, cap, hsl, -, -, -⟩ := hp.open
  have h32 := fun (hE : mtE d k ss = 0) => chk_len (node_ok hE).2
  have hok := fun (h : ss.length ≤ 32) => OkT.pat h d k
  obtain ⟨T, hT0⟩ : ∃ T, tabP ss d k = T := ⟨_, rfl⟩
  obtain ⟨R, hR⟩ : ∃ R, fiR d k ss at' = R := ⟨_, rfl⟩
  obtain ⟨E, hE⟩ : ∃ E, mtE d k ss = E := ⟨_, rfl⟩
  have hR1 : ∀ a : Nat, at' = a → E = 0 → a ≤ ss.length → R = fdR T a (ss.length + 1) := fun a ha h h2 => by
    have h3 : maE d k ss at' = 0 := by unfold maE; rw [if_pos (hE.trans h), if_pos ⟨by omega, by omega⟩]
    rw [← hR, fiR, if_pos h3, hT0, ha, Int.toNat_natCast]
  have hR2 : maE d k ss at' ≠ 0 → R = (0, 0, false) := fun h => by rw [← hR, fiR, if_neg h]
  unfold maE at hR2 ⊢
  rw [hR]
  rw [hT0] at htb hok
  rw [hE] at hbt h32 htb hR2 ⊢
  obtain ⟨L, hL⟩ : ∃ L, ss.length = L := ⟨_, rfl⟩
  rw [hL] at hbt htb hml h32 hok hR1 hR2 ⊢
  clear hT0 hR hE hL
  obtain ⟨kind, ⟨p, m⟩, neg, mi, ma, sl⟩ := d
  simp only at hsl
  subst hsl
  obtain ⟨kl, hkl⟩ : ∃ kl, k.len = kl := ⟨_, rfl⟩
  rw [hkl] at hbt htb ⊢
  unfold ndV at hbt htb ⊢
  simp only at hbt htb ⊢
  have HBT := Lib.hid hbt; have HTB := Lib.hid htb
  clear hbt htb hp hW hkl lw mw
  have R0 := Lib.hid (World.alloc_heap_new w (.cells #[.int .i64 kind, .int .u32 (p.toNat : Int), .int .u32 (m.toNat : Int), .bool neg, .int .i64 mi, .int .i64 ma, .slice ao kl cap] 27))
  have HB0 := Lib.hid (show Below w.heap.size w (w.alloc (.cells #[.int .i64 kind, .int .u32 (p.toNat : Int), .int .u32 (m.toNat : Int), .bool neg, .int .i64 mi, .int .i64 ma, .slice ao kl cap] 27)) by go_grown)
  by_cases hE : E = 0
  · subst hE
    have h32 := h32 rfl
    have hok := hok h32
    replace HTB := Lib.hid (HTB.out rfl)
    simp only [if_true] at hR2 ⊢
    by_cases hneg : at' < 0
    · rw [if_neg (by omega)] at hR2 ⊢
      obtain rfl := hR2 (by decide)
      clear hR1 hok
      go_enter Tryd.func32, Tryd.ntmps32
      go_wp2_with fail
      generalize (w.alloc (.cells #[.int .i64 kind, .int .u32 (p.toNat : Int), .int .u32 (m.toNat : Int), .bool neg, .int .i64 mi, .int .i64 ma, .slice ao kl cap] 27)) = v0 at *
      go_at_call 59
      refine Gives.then (HBT.out _ HB0.out) ?_
      intro w1 hb1
      have HB1 := Lib.hid (HB0.out.trans (hb1.mono HB0.out.size))
      have R1 := Lib.hid ((hb1.block _ (Array.getElem?_eq_some_iff.1 R0.out).1).trans R0.out)
      have g0 := cell_block R1.out (o := 0) rfl; have g1 := cell_block R1.out (o := 1) rfl; have g2 := cell_block R1.out (o := 2) rfl; have g3 := cell_block R1.out (o := 3) rfl; have g4 := cell_block R1.out (o := 4) rfl; have g5 := cell_block R1.out (o := 5) rfl; have g6 := cell_block R1.out (o := 6) rfl
      clear hb1 R0 HB0
      go_wp2_with fail
      go_returns
      exact ⟨rfl, HB1.out⟩
    · obtain ⟨a0, rfl⟩ := Int.eq_ofNat_of_zero_le (show 0 ≤ at' by omega)
      by_cases hal : a0 ≤ L
      · rw [if_pos ⟨by omega, by omega⟩]
        have hR := hR1 a0 rfl rfl hal
        clear hR1 hR2
        have hneg1 : ¬ (a0 : Int) < 0 := by omega
        have hal1 : ¬ (L : Int) < (a0 : Int) := by omega
        have HOK := Lib.hid hok; have HRR := Lib.hid hR
        clear hok hR
        go_enter Tryd.func32, Tryd.ntmps32
        go_wp2_with fail
        generalize (w.alloc (.cells #[.int .i64 kind, .int .u32 (p.toNat : Int), .int .u32 (m.toNat : Int), .bool neg, .int .i64 mi, .int .i64 ma, .slice ao kl cap] 27)) = v0 at *
        go_at_call 59
        refine Gives.then (HBT.out _ HB0.out) ?_
        intro w1 hb1
        have HB1 := Lib.hid (HB0.out.trans (hb1.mono HB0.out.size))
        have R1 := Lib.hid ((hb1.block _ (Array.getElem?_eq_some_iff.1 R0.out).1).trans R0.out)
        have g0 := cell_block R1.out (o := 0) rfl; have g1 := cell_block R1.out (o := 1) rfl; have g2 := cell_block R1.out (o := 2) rfl; have g3 := cell_block R1.out (o := 3) rfl; have g4 := cell_block R1.out (o := 4) rfl; have g5 := cell_block R1.out (o := 5) rfl; have g6 := cell_block R1.out (o := 6) rfl
        clear hb1 R0 HB0
        go_wp2_with fail
        go_at_call 51
        refine (HTB.out _ HB1.out).mono ?_
        rintro e w2 ⟨v, rfl, ht, hb2⟩
        obtain ⟨g, rfl, hrow⟩ := ht
        have HR := Lib.hid (fun wr (hw : Below w2.heap.size w2 wr) => hrow.below hw)
        have HB2 := Lib.hid (HB1.out.trans (hb2.mono HB1.out.size))
        clear hrow hb2 HTB HBT HB1 R1 g0 g1 g2 g3 g4 g5 g6
        go_wp2_with fail
        go_loopw [12] (fun i wr => ∃ a : Nat, a0 ≤ a ∧ a ≤ L + 1 ∧ i = .int .i64 (a : Int) ∧ (∀ j, a0 ≤ j → j < a → (T j).toNat = 0) ∧ Below w2.heap.size w2 wr) (fun i _ => L + 1 - (intOf i).toNat)
        case atStart => exact ⟨a0, Nat.le_refl _, by omega, rfl, fun j h1 h2 => by omega, Below.refl _ _⟩
        case round =>
          obtain ⟨a, ha0, ha, rfl, hno, hw⟩ := hrel
          have HW := Lib.hid hw; have HNO := Lib.hid hno
          clear hw hno
          by_cases hlt : a < L + 1
          · have hji : (a : Int) ≤ (L : Int) := by omega
            have hji2 : (a : Int) < (L : Int) + 1 := by omega
            obtain ⟨W4, hW4⟩ : ∃ W4, W4 = wr := ⟨_, rfl⟩
            subst hW4
            go_wp2_with fail
            go_loopw [13] (fun i wr => ∃ b : Int, (a : Int) - 1 ≤ b ∧ b ≤ (L : Int) ∧ i = .int .i64 b ∧ (∀ c : Nat, b < (c : Int) → c ≤ L → (T a).getLsbD c = false) ∧ Below w2.heap.size w2 wr) (fun i _ => (intOf i + 1).toNat)
            case atStart => exact ⟨(L : Int), by omega, by omega, rfl, fun c h1 h2 => by omega, HW.out⟩
            case round =>
            clear HW
            obtain ⟨b, hb1, hb2, rfl, hno2, hw⟩ := hrel
            have HW := Lib.hid hw; have HNO2 := Lib.hid hno2
            clear hw hno2
            by_cases hba : (a : Int) ≤ b
            · obtain ⟨c, rfl⟩ := Int.eq_ofNat_of_zero_le (show 0 ≤ b by omega)
              have c0 := (HR.out wr HW.out).cell (a := a) (by omega)
              have hbit := has_nat (T a) c
              rcases hb : (T a).getLsbD c with _ | _
              · rw [hb] at hbit
                have HBT := Lib.hid hb
                clear hb HR
                go_wp2_with fail
                go_roundw
                case rel => exact ⟨(c : Int) - 1, by omega, by omega, by go_num, fun c' h1 h2 => by (by_cases hcc : c' = c; exact hcc ▸ HBT.out; exact HNO2.out c' (by omega) h2), HW.out⟩
                case measure => simp [intOf] <;> omega
              · rw [hb] at hbit
                have hres : R = (a, c, true) := by rw [HRR.out]; exact fdR_hit HOK.out ha0 (by omega) HNO.out hb (fun b' h1 h2 => HNO2.out b' (by omega) h2)
                subst hres
                have HFIN := Lib.hid (HB2.out.trans (HW.out.mono HB2.out.size))
                clear hb HR HRR
                go_wp2_with fail
                go_returns
                exact ⟨rfl, HFIN.out⟩
            · have hz := zero_of HOK.out (a := a) (fun b' h1 h2 => HNO2.out b' (by omega) h2)
              have HZ := Lib.hid hz
              clear hz HR
              go_wp2_with fail
              go_roundw
              case rel => exact ⟨a + 1, by omega, by omega, by go_num, fun j h1 h2 => by (by_cases hja : j = a; exact hja ▸ HZ.out; exact HNO.out j h1 (by omega)), HW.out⟩
              case measure => simp [intOf] <;> omega
          · obtain rfl : a = L + 1 := by omega
            have hji : ¬ (((L + 1 : Nat) : Int) ≤ (L : Int)) := by omega
            have hres : R = (0, 0, false) := by rw [HRR.out]; unfold fdR; rw [fdI_none HNO.out]
            subst hres
            have HFIN := Lib.hid (HB2.out.trans (HW.out.mono HB2.out.size))
            clear hlt HR HRR
            go_wp2_with fail
            go_returns
            exact ⟨rfl, HFIN.out⟩
      · rw [if_neg (by omega)] at hR2 ⊢
        obtain rfl := hR2 (by decide)
        clear hR1 hok
        have hneg1 : ¬ (a0 : Int) < 0 := by omega
        have hal1 : (L : Int) < (a0 : Int) := by omega
        go_enter Tryd.func32, Tryd.ntmps32
        go_wp2_with fail
        generalize (w.alloc (.cells #[.int .i64 kind, .int .u32 (p.toNat : Int), .int .u32 (m.toNat : Int), .bool neg, .int .i64 mi, .int .i64 ma, .slice ao kl cap] 27)) = v0 at *
        go_at_call 59
        refine Gives.then (HBT.out _ HB0.out) ?_
        intro w1 hb1
        have HB1 := Lib.hid (HB0.out.trans (hb1.mono HB0.out.size))
        have R1 := Lib.hid ((hb1.block _ (Array.getElem?_eq_some_iff.1 R0.out).1).trans R0.out)
        have g0 := cell_block R1.out (o := 0) rfl; have g1 := cell_block R1.out (o := 1) rfl; have g2 := cell_block R1.out (o := 2) rfl; have g3 := cell_block R1.out (o := 3) rfl; have g4 := cell_block R1.out (o := 4) rfl; have g5 := cell_block R1.out (o := 5) rfl; have g6 := cell_block R1.out (o := 6) rfl
        clear hb1 R0 HB0
        go_wp2_with fail
        go_returns
        exact ⟨rfl, HB1.out⟩
  · rw [if_neg hE] at hR2 ⊢
    obtain rfl := hR2 hE
    have hEi : (E != 0) = true := by simpa using hE
    clear hR1 hE HTB hok
    go_enter Tryd.func32, Tryd.ntmps32
    go_wp2_with fail
    generalize (w.alloc (.cells #[.int .i64 kind, .int .u32 (p.toNat : Int), .int .u32 (m.toNat : Int), .bool neg, .int .i64 mi, .int .i64 ma, .slice ao kl cap] 27)) = v0 at *
    go_at_call 59
    refine Gives.then (HBT.out _ HB0.out) ?_
    intro w1 hb1
    have HB1 := Lib.hid (HB0.out.trans (hb1.mono HB0.out.size))
    have R1 := Lib.hid ((hb1.block _ (Array.getElem?_eq_some_iff.1 R0.out).1).trans R0.out)
    have g0 := cell_block R1.out (o := 0) rfl; have g1 := cell_block R1.out (o := 1) rfl; have g2 := cell_block R1.out (o := 2) rfl; have g3 := cell_block R1.out (o := 3) rfl; have g4 := cell_block R1.out (o := 4) rfl; have g5 := cell_block R1.out (o := 5) rfl; have g6 := cell_block R1.out (o := 6) rfl
    clear hb1 R0 HB0
    go_wp2_with fail
    go_returns
    exact ⟨rfl, HB1.out⟩
end Go.Proofs.YtmobilppakjihaaDoor
