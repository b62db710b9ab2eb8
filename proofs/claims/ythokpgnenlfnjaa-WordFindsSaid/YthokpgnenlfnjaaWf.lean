/-
  WordFinds, walked.
-/
import Derived.Test.YthokpgnenlfnjaaHx
import Derived.Test.YthokpgnenlfnjaaWi
import Derived.BigQuiet
namespace Go.Proofs.Ythokpgnenlfnjaa
open Go.RowKit Go.Sort
theorem find_at (xs ys : List Snd) : ∀ (n k : Nat), (findFrom xs ys n k = -1 ∧ ∀ j, k ≤ j → j < k + n → sub xs j (j + ys.length) ≠ ys) ∨ ∃ N : Nat, findFrom xs ys n k = (N : Int) ∧ k ≤ N ∧ N < k + n ∧ sub xs N (N + ys.length) = ys ∧ ∀ j, k ≤ j → j < N → sub xs j (j + ys.length) ≠ ys
  | 0, k => .inl ⟨rfl, fun j h1 h2 => by omega⟩
  | n + 1, k => by
    have e : findFrom xs ys (n + 1) k = if sub xs k (k + ys.length) = ys then (k : Int) else findFrom xs ys n (k + 1) := rfl
    by_cases h : sub xs k (k + ys.length) = ys
    · rw [if_pos h] at e
      exact .inr ⟨k, e, Nat.le_refl _, by omega, h, fun j h1 h2 => by omega⟩
    · rw [if_neg h] at e
      rcases find_at xs ys n (k + 1) with ⟨h1, h2⟩ | ⟨N, h1, h2, h3, h4, h5⟩
      · refine .inl ⟨e.trans h1, fun j a b => ?_⟩
        by_cases hj : j = k
        · subst hj; exact h
        · exact h2 j (by omega) (by omega)
      · refine .inr ⟨N, e.trans h1, by omega, by omega, h4, fun j a b => ?_⟩
        by_cases hj : j = k
        · subst hj; exact h
        · exact h5 j (by omega) b
/-- Where a word is found: not before, and there. -/
theorem find_spec (xs ys : List Snd) (n : Int) (hn : findS xs ys = n) : -1 ≤ n ∧ (∀ k : Nat, k + ys.length ≤ xs.length → sub xs k (k + ys.length) = ys → 0 ≤ n ∧ n ≤ k) ∧ (0 ≤ n → n + ys.length ≤ xs.length ∧ sub xs n.toNat (n.toNat + ys.length) = ys) := by
  subst hn
  rcases find_at xs ys (xs.length + 1 - ys.length) 0 with ⟨h1, h2⟩ | ⟨N, h1, h2, h3, h4, h5⟩
  · have e : findS xs ys = -1 := h1
    rw [e]
    exact ⟨by omega, fun k hk hs => absurd hs (h2 k (by omega) (by omega)), fun h => by omega⟩
  · have e : findS xs ys = (N : Int) := h1
    rw [e]
    refine ⟨by omega, fun k hk hs => ⟨by omega, ?_⟩, fun _ => ⟨by omega, h4⟩⟩
    by_cases hkn : k < N
    · exact absurd hs (h5 k (by omega) hkn)
    · omega
theorem sub_sublist (xs : List Snd) (A B : Nat) : (sub xs A B).Sublist xs := (List.take_sublist _ _).trans (List.drop_sublist _ _)
set_option maxRecDepth 100000 in
set_option maxHeartbeats 4000000 in
theorem findsMem_any (xs ys : List Snd) (b off cap : Nat) (u : Value) (p q : Nat) (hp : p < 256) (hq : q < 256) (w : World) (hc : xs.length ≤ cap) (hm : cap ≤ maxLen) (lb : b < w.heap.size) (h3 : ∀ i (h : i < xs.length), w.cell? ⟨b, off + i * 2, none⟩ = some (.int .u32 (xs[i].1.toNat : Int)) ∧ w.cell? ⟨b, off + i * 2 + 1, none⟩ = some (.int .u32 (xs[i].2.toNat : Int)))
    (hu : Wd w u ys) (h1 : xs.length ≤ 100) (h2 : ys.length ≤ 100) : Gives 10 #[.slice (some ⟨b, off, none⟩) xs.length cap, u, .int .u8 p, .int .u8 q] w (.bool true) := by
  unfold Gives
  have DA : Hid (Wd w (.slice (some ⟨b, off, none⟩) xs.length cap) xs) := Lib.hid (.inr ⟨b, off, cap, rfl, hc, hm, lb, h3⟩)
  have DB := Lib.hid hu
  obtain ⟨bo, bc, rfl, kb, mb, -⟩ := hu.open
  have l2 := maxLen_lt (Nat.le_trans kb mb)
  clear hu kb mb
  have hw := Below.refl w.heap.size w
  have M1 := Lib.hid hm; have H3 := Lib.hid h3
  have l1 : cap ≤ 9223372036854775807 := hm
  clear hm h3
  obtain ⟨n, hFe⟩ : ∃ n, findS xs ys = n := ⟨_, rfl⟩
  have hF := find_spec xs ys n hFe
  have HE := Lib.hid hFe
  have HF := Lib.hid hF
  have n0 : -1 ≤ n := hF.1
  have n1 : n + ys.length ≤ xs.length ∨ n < 0 := by
    by_cases h : 0 ≤ n
    · exact .inl (hF.2.2 h).1
    · exact .inr (by omega)
  clear hF hFe
  have e1 : decide (n < -1) = false := decide_eq_false (by omega)
  have HQ := Lib.hid n1
  by_cases hn : 0 ≤ n
  · obtain ⟨A, hA⟩ : ∃ A : Nat, (p : Int) % ((xs.length : Int) + 1) = (A : Int) := ⟨p % (xs.length + 1), by simp⟩
    have hAl : A ≤ xs.length := by have := Int.emod_lt_of_pos (p : Int) (show (0 : Int) < (xs.length : Int) + 1 by omega); omega
    obtain ⟨B, hB⟩ : ∃ B : Nat, (q : Int) % ((xs.length : Int) + 1) = (B : Int) := ⟨q % (xs.length + 1), by simp⟩
    have hBl : B ≤ xs.length := by have := Int.emod_lt_of_pos (q : Int) (show (0 : Int) < (xs.length : Int) + 1 by omega); omega
    have z1 : ¬ ((xs.length : Int) + 1 = 0) := by omega
    have z2 : (((xs.length : Int) + 1) == 0) = false := by rw [Bool.eq_false_iff]; intro e; exact z1 (beq_iff_eq.1 e)
    have e2 : decide ((xs.length : Int) < n + ys.length) = false := decide_eq_false (by omega)
    have e3 : decide (0 ≤ n) = true := decide_eq_true hn
    have hn3 : n ≤ 100 := by omega
    have hiy : insS ys xs = true := insS_yes (by have := sub_sublist xs n.toNat (n.toNat + ys.length); rw [(HF.out.2.2 hn).2] at this; exact this)
    have HIY := Lib.hid hiy
    have HYN : Hid (ys.length ≤ 1000000000) := Lib.hid (by omega)
    clear n1 hiy
    go_enter Try.func10, Try.ntmps10
    go_wp2_with (go_at_call 31; with_reducible refine Gives.then (Gives.eq (find_any _ _ _ _ _ (by omega) (DA.out.below hw) (DB.out.below hw)) rfl (by rw [HE.out])) ?_; intro w1 hb; have hw := hw.trans (hb.mono hw.size); clear hb)
    go_loopw [10] (fun i wr => ∃ k : Nat, i = .int .i64 (k : Int) ∧ k ≤ xs.length + 1 ∧ Below w.heap.size w wr) (fun i _ => xs.length + 1 - (intOf i).toNat)
    case atStart => exact ⟨0, rfl, by omega, hw⟩
    case round =>
      clear hw
      obtain ⟨k, rfl, hk, hw⟩ := hrel
      by_cases hlt : k + ys.length ≤ xs.length
      · have hsl : sub xs k (k + ys.length) = ys → 0 ≤ n ∧ n ≤ k := HF.out.2.1 k hlt
        have hsn : n = k → sub xs k (k + ys.length) = ys := fun e => by have := (HF.out.2.2 hn).2; rw [e] at this; exact this
        have e : k + ys.length - k = ys.length := by omega
        have hs := fun W (hb : Below w.heap.size w W) => (Wd.sub (A := k) (B := k + ys.length) hc M1.out lb H3.out hlt).below hb
        have hs0 := fun (hc0 : cap = k) W (hb : Below w.heap.size w W) => (Wd.sub0 (off := off) (A := k) (B := k + ys.length) (by omega) lb hlt).below hb
        rw [e] at hs hs0
        have HS := Lib.hid hs; have HS0 := Lib.hid hs0
        clear hs hs0 e
        rcases hS : decide (sub xs k (k + ys.length) = ys) with _ | _
        · have hne : ¬ sub xs k (k + ys.length) = ys := of_decide_eq_false hS
          have hnk : (((k : Int)) == n) = false := by
            rw [Bool.eq_false_iff]; intro e; exact hne (hsn (beq_iff_eq.1 e).symm)
          have hck : ¬ cap = k := fun hck => hne (by
            have y0 : ys = [] := List.eq_nil_of_length_eq_zero (by omega)
            have s0 : (sub xs k (k + ys.length)).length = 0 := by rw [sub_length hlt]; omega
            rw [List.eq_nil_of_length_eq_zero s0, y0])
          have HD := Lib.hid hS
          clear hS hne hsn hsl HS0
          go_wp2_with (go_at_call 42; with_reducible refine Gives.then (Gives.eq (same_any _ _ _ _ _ (HS.out _ hw) (DB.out.below hw)) rfl (by rw [HD.out])) ?_; intro w1 hb; have hw := hw.trans (hb.mono hw.size); clear hb)
          go_roundw
          case rel => exact ⟨k + 1, by go_num, by omega, hw⟩
          case measure => simp [intOf]; omega
        · have hle := hsl (of_decide_eq_true hS)
          have d1 : decide (n < 0) = false := decide_eq_false (by omega)
          have d2 : decide ((k : Int) < n) = false := decide_eq_false (by omega)
          have HD := Lib.hid hS
          clear hS hsn hsl hle
          rcases hnk : ((k : Int) == n) with _ | _
          · by_cases hck : cap = k
            · have HS := Lib.hid (HS0.out hck)
              clear HS0
              subst hck
              go_wp2_with (go_at_call 42; with_reducible refine Gives.then (Gives.eq (same_any _ _ _ _ _ (HS.out _ hw) (DB.out.below hw)) rfl (by rw [HD.out])) ?_; intro w1 hb; have hw := hw.trans (hb.mono hw.size); clear hb)
              go_roundw
              case rel => exact ⟨cap + 1, by go_num, by omega, hw⟩
              case measure => simp [intOf]; omega
            · clear HS0
              go_wp2_with (go_at_call 42; with_reducible refine Gives.then (Gives.eq (same_any _ _ _ _ _ (HS.out _ hw) (DB.out.below hw)) rfl (by rw [HD.out])) ?_; intro w1 hb; have hw := hw.trans (hb.mono hw.size); clear hb)
              go_roundw
              case rel => exact ⟨k + 1, by go_num, by omega, hw⟩
              case measure => simp [intOf]; omega
          · by_cases hck : cap = k
            · have HS := Lib.hid (HS0.out hck)
              clear HS0
              subst hck
              go_wp2_with (go_at_call 42; with_reducible refine Gives.then (Gives.eq (same_any _ _ _ _ _ (HS.out _ hw) (DB.out.below hw)) rfl (by rw [HD.out])) ?_; intro w1 hb; have hw := hw.trans (hb.mono hw.size); clear hb)
              go_roundw
              case rel => exact ⟨cap + 1, by go_num, by omega, hw⟩
              case measure => simp [intOf]; omega
            · clear HS0
              go_wp2_with (go_at_call 42; with_reducible refine Gives.then (Gives.eq (same_any _ _ _ _ _ (HS.out _ hw) (DB.out.below hw)) rfl (by rw [HD.out])) ?_; intro w1 hb; have hw := hw.trans (hb.mono hw.size); clear hb)
              go_roundw
              case rel => exact ⟨k + 1, by go_num, by omega, hw⟩
              case measure => simp [intOf]; omega
      · have hlt2 := hlt
        by_cases hab : B < A
        · have hab1 : decide ((B : Int) < (A : Int)) = true := decide_eq_true (by omega)
          go_wp2_with fail
          go_quiet (fail)
          have hw1 : Below w.heap.size w (wr.drewN nq) := ⟨hw.os, hw.tape, hw.output, hw.size, hw.block⟩
          clear hw
          generalize wr.drewN nq = wd at *
          have hw := hw1
          clear hw1 hlt hlt2 hk
          have hhl : A ≤ xs.length := by omega
          have hlh : B ≤ A := by omega
          have hsl := sub_length (A := B) hhl
          obtain ⟨m, hm⟩ : ∃ m, findS xs (sub xs B A) = m := ⟨_, rfl⟩
          have hms := (find_spec xs _ m hm).2.1 B (by omega) (by rw [hsl, show B + (A - B) = A from by omega])
          have q1 : decide (0 ≤ m) = true := decide_eq_true hms.1
          have q2 : decide (m ≤ (B : Int)) = true := decide_eq_true hms.2
          have hi1 := insS_yes (sub_sublist xs B A)
          have hsn : (sub xs B A).length ≤ 1000000000 := by omega
          have hs := fun W (hb : Below w.heap.size w W) => (Wd.sub (A := B) (B := A) hc M1.out lb H3.out hhl).below hb
          have hs0 := fun (hc0 : cap = B) W (hb : Below w.heap.size w W) => (Wd.sub0 (off := off) (A := B) (B := A) (by omega) lb hhl).below hb
          have HM := Lib.hid hm; have HI := Lib.hid hi1; have HSN := Lib.hid hsn
          clear hm hi1 hms hsl hsn
          have q3 : decide (n < 0) = false := decide_eq_false (by omega)
          by_cases hck : cap = B
          · have HS := Lib.hid (hs0 hck)
            clear hs hs0
            subst hck
            go_wp2_with (first | (go_at_call 31; with_reducible refine Gives.then (Gives.eq (find_any _ _ _ _ _ (by omega) (DA.out.below hw) (HS.out _ hw)) rfl (by rw [HM.out])) ?_; intro w1 hb; have hw := hw.trans (hb.mono hw.size); clear hb) | (go_at_call 33; with_reducible refine Gives.then (Gives.eq (inside_any _ _ _ _ _ HSN.out (HS.out _ hw) (DA.out.below hw)) rfl (by rw [HI.out])) ?_; intro w1 hb; have hw := hw.trans (hb.mono hw.size); clear hb) | (go_at_call 33; with_reducible refine Gives.then (Gives.eq (inside_any _ _ _ _ _ HYN.out (DB.out.below hw) (DA.out.below hw)) rfl (by rw [HIY.out])) ?_; intro w1 hb; have hw := hw.trans (hb.mono hw.size); clear hb) | (go_at_call 15; with_reducible refine Gives.then (works_any _) ?_; intro w1 hb; have hw := hw.trans (hb.mono hw.size); clear hb))
            go_returns
            exact ⟨by first | rfl | (simp; done), hw⟩
          · have HS := Lib.hid hs
            clear hs hs0
            go_wp2_with (first | (go_at_call 31; with_reducible refine Gives.then (Gives.eq (find_any _ _ _ _ _ (by omega) (DA.out.below hw) (HS.out _ hw)) rfl (by rw [HM.out])) ?_; intro w1 hb; have hw := hw.trans (hb.mono hw.size); clear hb) | (go_at_call 33; with_reducible refine Gives.then (Gives.eq (inside_any _ _ _ _ _ HSN.out (HS.out _ hw) (DA.out.below hw)) rfl (by rw [HI.out])) ?_; intro w1 hb; have hw := hw.trans (hb.mono hw.size); clear hb) | (go_at_call 33; with_reducible refine Gives.then (Gives.eq (inside_any _ _ _ _ _ HYN.out (DB.out.below hw) (DA.out.below hw)) rfl (by rw [HIY.out])) ?_; intro w1 hb; have hw := hw.trans (hb.mono hw.size); clear hb) | (go_at_call 15; with_reducible refine Gives.then (works_any _) ?_; intro w1 hb; have hw := hw.trans (hb.mono hw.size); clear hb))
            go_returns
            exact ⟨by first | rfl | (simp; done), hw⟩
        · have hab1 : decide ((B : Int) < (A : Int)) = false := decide_eq_false (by omega)
          go_wp2_with fail
          go_quiet (fail)
          have hw1 : Below w.heap.size w (wr.drewN nq) := ⟨hw.os, hw.tape, hw.output, hw.size, hw.block⟩
          clear hw
          generalize wr.drewN nq = wd at *
          have hw := hw1
          clear hw1 hlt hlt2 hk
          have hhl : B ≤ xs.length := by omega
          have hlh : A ≤ B := by omega
          have hsl := sub_length (A := A) hhl
          obtain ⟨m, hm⟩ : ∃ m, findS xs (sub xs A B) = m := ⟨_, rfl⟩
          have hms := (find_spec xs _ m hm).2.1 A (by omega) (by rw [hsl, show A + (B - A) = B from by omega])
          have q1 : decide (0 ≤ m) = true := decide_eq_true hms.1
          have q2 : decide (m ≤ (A : Int)) = true := decide_eq_true hms.2
          have hi1 := insS_yes (sub_sublist xs A B)
          have hsn : (sub xs A B).length ≤ 1000000000 := by omega
          have hs := fun W (hb : Below w.heap.size w W) => (Wd.sub (A := A) (B := B) hc M1.out lb H3.out hhl).below hb
          have hs0 := fun (hc0 : cap = A) W (hb : Below w.heap.size w W) => (Wd.sub0 (off := off) (A := A) (B := B) (by omega) lb hhl).below hb
          have HM := Lib.hid hm; have HI := Lib.hid hi1; have HSN := Lib.hid hsn
          clear hm hi1 hms hsl hsn
          have q3 : decide (n < 0) = false := decide_eq_false (by omega)
          by_cases hck : cap = A
          · have HS := Lib.hid (hs0 hck)
            clear hs hs0
            subst hck
            go_wp2_with (first | (go_at_call 31; with_reducible refine Gives.then (Gives.eq (find_any _ _ _ _ _ (by omega) (DA.out.below hw) (HS.out _ hw)) rfl (by rw [HM.out])) ?_; intro w1 hb; have hw := hw.trans (hb.mono hw.size); clear hb) | (go_at_call 33; with_reducible refine Gives.then (Gives.eq (inside_any _ _ _ _ _ HSN.out (HS.out _ hw) (DA.out.below hw)) rfl (by rw [HI.out])) ?_; intro w1 hb; have hw := hw.trans (hb.mono hw.size); clear hb) | (go_at_call 33; with_reducible refine Gives.then (Gives.eq (inside_any _ _ _ _ _ HYN.out (DB.out.below hw) (DA.out.below hw)) rfl (by rw [HIY.out])) ?_; intro w1 hb; have hw := hw.trans (hb.mono hw.size); clear hb) | (go_at_call 15; with_reducible refine Gives.then (works_any _) ?_; intro w1 hb; have hw := hw.trans (hb.mono hw.size); clear hb))
            go_returns
            exact ⟨by first | rfl | (simp; done), hw⟩
          · have HS := Lib.hid hs
            clear hs hs0
            go_wp2_with (first | (go_at_call 31; with_reducible refine Gives.then (Gives.eq (find_any _ _ _ _ _ (by omega) (DA.out.below hw) (HS.out _ hw)) rfl (by rw [HM.out])) ?_; intro w1 hb; have hw := hw.trans (hb.mono hw.size); clear hb) | (go_at_call 33; with_reducible refine Gives.then (Gives.eq (inside_any _ _ _ _ _ HSN.out (HS.out _ hw) (DA.out.below hw)) rfl (by rw [HI.out])) ?_; intro w1 hb; have hw := hw.trans (hb.mono hw.size); clear hb) | (go_at_call 33; with_reducible refine Gives.then (Gives.eq (inside_any _ _ _ _ _ HYN.out (DB.out.below hw) (DA.out.below hw)) rfl (by rw [HIY.out])) ?_; intro w1 hb; have hw := hw.trans (hb.mono hw.size); clear hb) | (go_at_call 15; with_reducible refine Gives.then (works_any _) ?_; intro w1 hb; have hw := hw.trans (hb.mono hw.size); clear hb))
            go_returns
            exact ⟨by first | rfl | (simp; done), hw⟩
  · obtain ⟨A, hA⟩ : ∃ A : Nat, (p : Int) % ((xs.length : Int) + 1) = (A : Int) := ⟨p % (xs.length + 1), by simp⟩
    have hAl : A ≤ xs.length := by have := Int.emod_lt_of_pos (p : Int) (show (0 : Int) < (xs.length : Int) + 1 by omega); omega
    obtain ⟨B, hB⟩ : ∃ B : Nat, (q : Int) % ((xs.length : Int) + 1) = (B : Int) := ⟨q % (xs.length + 1), by simp⟩
    have hBl : B ≤ xs.length := by have := Int.emod_lt_of_pos (q : Int) (show (0 : Int) < (xs.length : Int) + 1 by omega); omega
    have z1 : ¬ ((xs.length : Int) + 1 = 0) := by omega
    have z2 : (((xs.length : Int) + 1) == 0) = false := by rw [Bool.eq_false_iff]; intro e; exact z1 (beq_iff_eq.1 e)
    have e3 : decide (0 ≤ n) = false := decide_eq_false hn
    clear n1
    go_enter Try.func10, Try.ntmps10
    go_wp2_with (go_at_call 31; with_reducible refine Gives.then (Gives.eq (find_any _ _ _ _ _ (by omega) (DA.out.below hw) (DB.out.below hw)) rfl (by rw [HE.out])) ?_; intro w1 hb; have hw := hw.trans (hb.mono hw.size); clear hb)
    go_loopw [10] (fun i wr => ∃ k : Nat, i = .int .i64 (k : Int) ∧ k ≤ xs.length + 1 ∧ Below w.heap.size w wr) (fun i _ => xs.length + 1 - (intOf i).toNat)
    case atStart => exact ⟨0, rfl, by omega, hw⟩
    case round =>
      clear hw
      obtain ⟨k, rfl, hk, hw⟩ := hrel
      by_cases hlt : k + ys.length ≤ xs.length
      · have hsl : sub xs k (k + ys.length) = ys → 0 ≤ n ∧ n ≤ k := HF.out.2.1 k hlt
        have e : k + ys.length - k = ys.length := by omega
        have hs := fun W (hb : Below w.heap.size w W) => (Wd.sub (A := k) (B := k + ys.length) hc M1.out lb H3.out hlt).below hb
        have hs0 := fun (hc0 : cap = k) W (hb : Below w.heap.size w W) => (Wd.sub0 (off := off) (A := k) (B := k + ys.length) (by omega) lb hlt).below hb
        rw [e] at hs hs0
        have HS := Lib.hid hs; have HS0 := Lib.hid hs0
        clear hs hs0 e
        rcases hS : decide (sub xs k (k + ys.length) = ys) with _ | _
        · have hne : ¬ sub xs k (k + ys.length) = ys := of_decide_eq_false hS
          have hnk : (((k : Int)) == n) = false := by
            rw [Bool.eq_false_iff]; intro e; have := beq_iff_eq.1 e; omega
          have hck : ¬ cap = k := fun hck => hne (by
            have y0 : ys = [] := List.eq_nil_of_length_eq_zero (by omega)
            have s0 : (sub xs k (k + ys.length)).length = 0 := by rw [sub_length hlt]; omega
            rw [List.eq_nil_of_length_eq_zero s0, y0])
          have HD := Lib.hid hS
          clear hS hne hsl HS0
          go_wp2_with (go_at_call 42; with_reducible refine Gives.then (Gives.eq (same_any _ _ _ _ _ (HS.out _ hw) (DB.out.below hw)) rfl (by rw [HD.out])) ?_; intro w1 hb; have hw := hw.trans (hb.mono hw.size); clear hb)
          go_roundw
          case rel => exact ⟨k + 1, by go_num, by omega, hw⟩
          case measure => simp [intOf]; omega
        · exact absurd (hsl (of_decide_eq_true hS)).1 (by omega)
      · have hlt2 := hlt
        by_cases hab : B < A
        · have hab1 : decide ((B : Int) < (A : Int)) = true := decide_eq_true (by omega)
          go_wp2_with fail
          go_quiet (fail)
          have hw1 : Below w.heap.size w (wr.drewN nq) := ⟨hw.os, hw.tape, hw.output, hw.size, hw.block⟩
          clear hw
          generalize wr.drewN nq = wd at *
          have hw := hw1
          clear hw1 hlt hlt2 hk
          have hhl : A ≤ xs.length := by omega
          have hlh : B ≤ A := by omega
          have hsl := sub_length (A := B) hhl
          obtain ⟨m, hm⟩ : ∃ m, findS xs (sub xs B A) = m := ⟨_, rfl⟩
          have hms := (find_spec xs _ m hm).2.1 B (by omega) (by rw [hsl, show B + (A - B) = A from by omega])
          have q1 : decide (0 ≤ m) = true := decide_eq_true hms.1
          have q2 : decide (m ≤ (B : Int)) = true := decide_eq_true hms.2
          have hi1 := insS_yes (sub_sublist xs B A)
          have hsn : (sub xs B A).length ≤ 1000000000 := by omega
          have hs := fun W (hb : Below w.heap.size w W) => (Wd.sub (A := B) (B := A) hc M1.out lb H3.out hhl).below hb
          have hs0 := fun (hc0 : cap = B) W (hb : Below w.heap.size w W) => (Wd.sub0 (off := off) (A := B) (B := A) (by omega) lb hhl).below hb
          have HM := Lib.hid hm; have HI := Lib.hid hi1; have HSN := Lib.hid hsn
          clear hm hi1 hms hsl hsn
          have q3 : decide (n < 0) = true := decide_eq_true (by omega)
          by_cases hck : cap = B
          · have HS := Lib.hid (hs0 hck)
            clear hs hs0
            subst hck
            go_wp2_with (first | (go_at_call 31; with_reducible refine Gives.then (Gives.eq (find_any _ _ _ _ _ (by omega) (DA.out.below hw) (HS.out _ hw)) rfl (by rw [HM.out])) ?_; intro w1 hb; have hw := hw.trans (hb.mono hw.size); clear hb) | (go_at_call 33; with_reducible refine Gives.then (Gives.eq (inside_any _ _ _ _ _ HSN.out (HS.out _ hw) (DA.out.below hw)) rfl (by rw [HI.out])) ?_; intro w1 hb; have hw := hw.trans (hb.mono hw.size); clear hb) | (go_at_call 15; with_reducible refine Gives.then (works_any _) ?_; intro w1 hb; have hw := hw.trans (hb.mono hw.size); clear hb))
            go_returns
            exact ⟨by first | rfl | (simp; done), hw⟩
          · have HS := Lib.hid hs
            clear hs hs0
            go_wp2_with (first | (go_at_call 31; with_reducible refine Gives.then (Gives.eq (find_any _ _ _ _ _ (by omega) (DA.out.below hw) (HS.out _ hw)) rfl (by rw [HM.out])) ?_; intro w1 hb; have hw := hw.trans (hb.mono hw.size); clear hb) | (go_at_call 33; with_reducible refine Gives.then (Gives.eq (inside_any _ _ _ _ _ HSN.out (HS.out _ hw) (DA.out.below hw)) rfl (by rw [HI.out])) ?_; intro w1 hb; have hw := hw.trans (hb.mono hw.size); clear hb) | (go_at_call 15; with_reducible refine Gives.then (works_any _) ?_; intro w1 hb; have hw := hw.trans (hb.mono hw.size); clear hb))
            go_returns
            exact ⟨by first | rfl | (simp; done), hw⟩
        · have hab1 : decide ((B : Int) < (A : Int)) = false := decide_eq_false (by omega)
          go_wp2_with fail
          go_quiet (fail)
          have hw1 : Below w.heap.size w (wr.drewN nq) := ⟨hw.os, hw.tape, hw.output, hw.size, hw.block⟩
          clear hw
          generalize wr.drewN nq = wd at *
          have hw := hw1
          clear hw1 hlt hlt2 hk
          have hhl : B ≤ xs.length := by omega
          have hlh : A ≤ B := by omega
          have hsl := sub_length (A := A) hhl
          obtain ⟨m, hm⟩ : ∃ m, findS xs (sub xs A B) = m := ⟨_, rfl⟩
          have hms := (find_spec xs _ m hm).2.1 A (by omega) (by rw [hsl, show A + (B - A) = B from by omega])
          have q1 : decide (0 ≤ m) = true := decide_eq_true hms.1
          have q2 : decide (m ≤ (A : Int)) = true := decide_eq_true hms.2
          have hi1 := insS_yes (sub_sublist xs A B)
          have hsn : (sub xs A B).length ≤ 1000000000 := by omega
          have hs := fun W (hb : Below w.heap.size w W) => (Wd.sub (A := A) (B := B) hc M1.out lb H3.out hhl).below hb
          have hs0 := fun (hc0 : cap = A) W (hb : Below w.heap.size w W) => (Wd.sub0 (off := off) (A := A) (B := B) (by omega) lb hhl).below hb
          have HM := Lib.hid hm; have HI := Lib.hid hi1; have HSN := Lib.hid hsn
          clear hm hi1 hms hsl hsn
          have q3 : decide (n < 0) = true := decide_eq_true (by omega)
          by_cases hck : cap = A
          · have HS := Lib.hid (hs0 hck)
            clear hs hs0
            subst hck
            go_wp2_with (first | (go_at_call 31; with_reducible refine Gives.then (Gives.eq (find_any _ _ _ _ _ (by omega) (DA.out.below hw) (HS.out _ hw)) rfl (by rw [HM.out])) ?_; intro w1 hb; have hw := hw.trans (hb.mono hw.size); clear hb) | (go_at_call 33; with_reducible refine Gives.then (Gives.eq (inside_any _ _ _ _ _ HSN.out (HS.out _ hw) (DA.out.below hw)) rfl (by rw [HI.out])) ?_; intro w1 hb; have hw := hw.trans (hb.mono hw.size); clear hb) | (go_at_call 15; with_reducible refine Gives.then (works_any _) ?_; intro w1 hb; have hw := hw.trans (hb.mono hw.size); clear hb))
            go_returns
            exact ⟨by first | rfl | (simp; done), hw⟩
          · have HS := Lib.hid hs
            clear hs hs0
            go_wp2_with (first | (go_at_call 31; with_reducible refine Gives.then (Gives.eq (find_any _ _ _ _ _ (by omega) (DA.out.below hw) (HS.out _ hw)) rfl (by rw [HM.out])) ?_; intro w1 hb; have hw := hw.trans (hb.mono hw.size); clear hb) | (go_at_call 33; with_reducible refine Gives.then (Gives.eq (inside_any _ _ _ _ _ HSN.out (HS.out _ hw) (DA.out.below hw)) rfl (by rw [HI.out])) ?_; intro w1 hb; have hw := hw.trans (hb.mono hw.size); clear hb) | (go_at_call 15; with_reducible refine Gives.then (works_any _) ?_; intro w1 hb; have hw := hw.trans (hb.mono hw.size); clear hb))
            go_returns
            exact ⟨by first | rfl | (simp; done), hw⟩
theorem sub_nil0 : sub ([] : List Snd) 0 0 = [] := rfl
end Go.Proofs.Ythokpgnenlfnjaa
