/-
  The specification's IsFeat and IsSymbol.
-/
import Derived.Test.YtmgikhldkebjbaaGb
namespace Go.Proofs.Ytmgikhldkebjbaa
open Go.RowKit Go.Sort
theorem big_num (n : Nat) (hn : n = 64 ∨ n = 63 ∨ n = 33 ∨ n = 38 ∨ n = 42 ∨ n = 36 ∨ n = 37) (w : World) : Calls Try.prog 73 #[.int .u8 (n : Int)] w fun e w' => e = .returned (.bool true) ∧ w = w' := by
  rcases hn with rfl | rfl | rfl | rfl | rfl | rfl | rfl
  all_goals (
    go_enter Try.func73, Try.ntmps73
    go_wp2
    go_returns
    exact ⟨rfl, rfl⟩)
theorem big_cap (n : Nat) (h1 : 65 ≤ n) (h2 : n ≤ 90) (w : World) : Calls Try.prog 73 #[.int .u8 (n : Int)] w fun e w' => e = .returned (.bool true) ∧ w = w' := by
  have d1 : decide ((65 : Int) ≤ (n : Int)) = true := decide_eq_true (by omega)
  have d2 : decide ((n : Int) ≤ 90) = true := decide_eq_true (by omega)
  have d3 : decide (65 ≤ n) = true := decide_eq_true (by omega)
  have d4 : decide (n ≤ 90) = true := decide_eq_true (by omega)
  clear h1 h2
  go_enter Try.func73, Try.ntmps73
  go_wp2
  go_returns
  exact ⟨rfl, rfl⟩
theorem int_ne {n k : Nat} (h : n ≠ k) : ((n : Int) == (k : Int)) = false := by rw [Bool.eq_false_iff]; intro e; exact h (by have := beq_iff_eq.1 e; omega)
theorem big_none (n : Nat) (h : ¬ (65 ≤ n ∧ n ≤ 90)) (hn : ¬ (n = 64 ∨ n = 63 ∨ n = 33 ∨ n = 38 ∨ n = 42 ∨ n = 36 ∨ n = 37)) (w : World) : Calls Try.prog 73 #[.int .u8 (n : Int)] w fun e w' => e = .returned (.bool false) ∧ w = w' := by
  have e1 : ((n : Int) == 64) = false := int_ne (k := 64) (by omega)
  have e2 : ((n : Int) == 63) = false := int_ne (k := 63) (by omega)
  have e3 : ((n : Int) == 33) = false := int_ne (k := 33) (by omega)
  have e4 : ((n : Int) == 38) = false := int_ne (k := 38) (by omega)
  have e5 : ((n : Int) == 42) = false := int_ne (k := 42) (by omega)
  have e6 : ((n : Int) == 36) = false := int_ne (k := 36) (by omega)
  have e7 : ((n : Int) == 37) = false := int_ne (k := 37) (by omega)
  by_cases h1 : 65 ≤ n
  · have d1 : decide ((65 : Int) ≤ (n : Int)) = true := decide_eq_true (by omega)
    have d2 : decide ((n : Int) ≤ 90) = false := decide_eq_false (by omega)
    have d3 : decide (65 ≤ n) = true := decide_eq_true (by omega)
    have d4 : decide (n ≤ 90) = false := decide_eq_false (by omega)
    clear h1 h hn
    go_enter Try.func73, Try.ntmps73
    go_wp2
    go_returns
    exact ⟨rfl, rfl⟩
  · have d1 : decide ((65 : Int) ≤ (n : Int)) = false := decide_eq_false (by omega)
    have d3 : decide (65 ≤ n) = false := decide_eq_false (by omega)
    clear h1 h hn
    go_enter Try.func73, Try.ntmps73
    go_wp2
    go_returns
    exact ⟨rfl, rfl⟩
theorem big_any (c : UInt8) (w : World) : Calls Try.prog 73 #[.int .u8 c.toNat] w fun e w' => e = .returned (.bool (bigB c)) ∧ w = w' := by
  unfold bigB
  generalize c.toNat = n
  by_cases h : 65 ≤ n ∧ n ≤ 90
  · have e : ((decide (65 ≤ n) && decide (n ≤ 90)) || n == 64 || n == 63 || n == 33 || n == 38 || n == 42 || n == 36 || n == 37) = true := by simp [h.1, h.2]
    rw [e]; exact big_cap n h.1 h.2 w
  · by_cases hn : n = 64 ∨ n = 63 ∨ n = 33 ∨ n = 38 ∨ n = 42 ∨ n = 36 ∨ n = 37
    · have e : ((decide (65 ≤ n) && decide (n ≤ 90)) || n == 64 || n == 63 || n == 33 || n == 38 || n == 42 || n == 36 || n == 37) = true := by rcases hn with rfl | rfl | rfl | rfl | rfl | rfl | rfl <;> rfl
      rw [e]; exact big_num n hn w
    · have e : ((decide (65 ≤ n) && decide (n ≤ 90)) || n == 64 || n == 63 || n == 33 || n == 38 || n == 42 || n == 36 || n == 37) = false := by
        rw [Bool.eq_false_iff]
        intro e
        simp only [Bool.or_eq_true, Bool.and_eq_true, decide_eq_true_eq, beq_iff_eq] at e
        omega
      rw [e]; exact big_none n h hn w
theorem isFeat_short {t : ByteArray} (h : t.size = 0) : isFeat t = false := by unfold isFeat; rw [cons_none h]; rfl
theorem isFeat_long {t : ByteArray} (h : ¬ t.size ≤ 16) : isFeat t = false := by unfold isFeat; rw [cons_long h]; rfl
theorem isFeat_first {t : ByteArray} {c : UInt8} (hc : t.data.toList.getD 0 0 = c) (h : lowB c = false) : isFeat t = false := by unfold isFeat; rw [hc, low_in, h, Bool.and_false]
theorem isFeat_of {t : ByteArray} {c : UInt8} (h0 : 0 < t.size) (h1 : t.size ≤ 16) (hc : t.data.toList.getD 0 0 = c) (h : lowB c = true) : isFeat t = t.data.toList.all letB := by
  have e : isIn sSmallDigits = letB := funext let_in
  unfold isFeat cons; rw [hc, low_in, h, decide_eq_true h0, decide_eq_true h1, e, Bool.and_true, Bool.true_and, Bool.true_and]
theorem isSym_of {t : ByteArray} (h0 : 0 < t.size) (h1 : t.size ≤ 4) : isSym t = t.data.toList.all fun c => letB c || bigB c := by
  have e : isIn sAll = fun c => letB c || bigB c := funext all_in
  unfold isSym cons; rw [decide_eq_true h0, decide_eq_true h1, e, Bool.true_and, Bool.true_and]
set_option maxRecDepth 100000 in
set_option maxHeartbeats 4000000 in
theorem rIsFeat_any (t : ByteArray) (ht : t.size ≤ 9223372036854775807) (w : World) : Gives 69 #[.string t] w (.bool (isFeat t)) := by
  unfold Gives
  have hw := Below.refl w.heap.size w
  by_cases h0 : t.size = 0
  · rw [isFeat_short h0]
    have g1 : decide ((t.size : Int) < 1) = true := decide_eq_true (by omega)
    have g2 : decide (t.size < 1) = true := decide_eq_true (by omega)
    clear h0
    go_enter Try.func69, Try.ntmps69
    go_wp2
    go_returns
    exact ⟨rfl, hw⟩
  · have g1 : decide ((t.size : Int) < 1) = false := decide_eq_false (by omega)
    have g2 : decide (t.size < 1) = false := decide_eq_false (by omega)
    have h0' : 0 < t.size := by omega
    by_cases h1 : t.size ≤ 16
    · have g3 : decide ((16 : Int) < (t.size : Int)) = false := decide_eq_false (by omega)
      have g4 : decide (16 < t.size) = false := decide_eq_false (by omega)
      have hl : 0 < t.data.toList.length := by rw [Array.length_toList]; exact h0'
      obtain ⟨c, hcc⟩ : ∃ c, t.data.toList[0] = c := ⟨_, rfl⟩
      have hb : ∀ h, t[0]'h = c := by intro h; exact hcc
      have hh : t.data.toList.getD 0 0 = c := by
        rw [List.getD_eq_getElem?_getD, List.getElem?_eq_getElem hl, hcc]; rfl
      by_cases hlow : lowB c = true
      · have hF := isFeat_of h0' h1 hh hlow
        rw [hF]
        have hc1 : 97 ≤ c.toNat ∧ c.toNat ≤ 122 := by
          unfold lowB at hlow
          rw [Bool.and_eq_true, decide_eq_true_iff, decide_eq_true_iff] at hlow
          exact hlow
        have g5 : decide ((c.toNat : Int) < 97) = false := decide_eq_false (by omega)
        have g6 : decide (c.toNat < 97) = false := decide_eq_false (by omega)
        have g7 : decide ((122 : Int) < (c.toNat : Int)) = false := decide_eq_false (by omega)
        have g8 : decide (122 < c.toNat) = false := decide_eq_false (by omega)
        generalize hC : t.data.toList.all letB = C
        have hno : ∀ k (hk : k < t.data.toList.length), letB (t.data.toList[k]) = false → false = C := fun k hk h => by
          rw [← hC]; symm
          rw [List.all_eq_false]
          exact ⟨_, List.getElem_mem hk, by rw [h]; decide⟩
        have hL : t.data.toList.length = t.size := by rw [Array.length_toList]; rfl
        have HNO := Lib.hid hno; have HL := Lib.hid hL; have HC := Lib.hid hC
        clear hno hL hC hF hlow hc1 hcc hh hl
        go_enter Try.func69, Try.ntmps69
        go_wp2_with fail
        go_loopw [3] (fun i wr => ∃ k : Nat, k ≤ t.size ∧ i = .int .i64 (k : Int) ∧ ((t.data.toList).take k).all letB = true ∧ w = wr) (fun i _ => t.size - (intOf i).toNat)
        case atStart => exact ⟨0, by omega, rfl, by simp, rfl⟩
        case round =>
          obtain ⟨k, hk, rfl, hall, rfl⟩ := hrel
          have HALL := Lib.hid hall
          clear hall hb
          by_cases hlt : k < t.size
          · have hkl : k < t.data.toList.length := by rw [HL.out]; exact hlt
            obtain ⟨d, hd⟩ : ∃ d, t.data.toList[k] = d := ⟨_, rfl⟩
            have hb : ∀ h, t[k]'h = d := by intro h; exact hd
            have hlet := letter_any d w
            rcases hx : letB d with _ | _
            · have HN := Lib.hid (HNO.out k hkl (by rw [hd]; exact hx))
              rw [hx] at hlet
              have HM := Lib.hid hlet
              clear hlet hx hd hkl
              go_wp2_with (go_at_call 72; (with_reducible refine HM.out.mono ?_); rintro e w1 ⟨rfl, rfl⟩)
              go_returns
              exact ⟨by rw [← HN.out]; rfl, hw⟩
            · have HN := Lib.hid (all_take hkl HALL.out (by rw [hd]; exact hx))
              rw [hx] at hlet
              have HM := Lib.hid hlet
              clear hlet hx hd hkl
              go_wp2_with (go_at_call 72; (with_reducible refine HM.out.mono ?_); rintro e w1 ⟨rfl, rfl⟩)
              go_roundw
              case rel => exact ⟨k + 1, by omega, by go_num, HN.out, by trivial⟩
              case measure => simp [intOf]; omega
          · obtain rfl : k = t.size := by omega
            have HN := Lib.hid (show true = C from by have := HALL.out; rw [List.take_of_length_le (by rw [HL.out]; exact Nat.le_refl _), HC.out] at this; exact this.symm)
            go_wp2_with fail
            go_returns
            exact ⟨by rw [← HN.out]; rfl, hw⟩
      · have hlow : lowB c = false := by simpa using hlow
        rw [isFeat_first hh hlow]
        unfold lowB at hlow
        by_cases h97 : 97 ≤ c.toNat
        · have h122 : ¬ c.toNat ≤ 122 := fun h => by rw [decide_eq_true h97, decide_eq_true h] at hlow; cases hlow
          have g5 : decide ((c.toNat : Int) < 97) = false := decide_eq_false (by omega)
          have g6 : decide (c.toNat < 97) = false := decide_eq_false (by omega)
          have g7 : decide ((122 : Int) < (c.toNat : Int)) = true := decide_eq_true (by omega)
          have g8 : decide (122 < c.toNat) = true := decide_eq_true (by omega)
          clear hlow hcc hh hl h97 h122
          go_enter Try.func69, Try.ntmps69
          go_wp2
          go_returns
          exact ⟨rfl, hw⟩
        · have g5 : decide ((c.toNat : Int) < 97) = true := decide_eq_true (by omega)
          have g6 : decide (c.toNat < 97) = true := decide_eq_true (by omega)
          clear hlow hcc hh hl h97
          go_enter Try.func69, Try.ntmps69
          go_wp2
          go_returns
          exact ⟨rfl, hw⟩
    · rw [isFeat_long h1]
      have g3 : decide ((16 : Int) < (t.size : Int)) = true := decide_eq_true (by omega)
      have g4 : decide (16 < t.size) = true := decide_eq_true (by omega)
      clear h1 h0 h0'
      go_enter Try.func69, Try.ntmps69
      go_wp2
      go_returns
      exact ⟨rfl, hw⟩
theorem isSym_short {t : ByteArray} (h : t.size = 0) : isSym t = false := by unfold isSym; rw [cons_none h]
theorem isSym_long {t : ByteArray} (h : ¬ t.size ≤ 4) : isSym t = false := by unfold isSym; rw [cons_long h]
set_option maxRecDepth 100000 in
set_option maxHeartbeats 4000000 in
theorem rIsSym_any (t : ByteArray) (ht : t.size ≤ 9223372036854775807) (w : World) : Gives 48 #[.string t] w (.bool (isSym t)) := by
  unfold Gives
  have hw := Below.refl w.heap.size w
  by_cases h0 : t.size = 0
  · rw [isSym_short h0]
    have g1 : decide ((t.size : Int) < 1) = true := decide_eq_true (by omega)
    have g2 : decide (t.size < 1) = true := decide_eq_true (by omega)
    clear h0
    go_enter Try.func48, Try.ntmps48
    go_wp2
    go_returns
    exact ⟨rfl, hw⟩
  · have g1 : decide ((t.size : Int) < 1) = false := decide_eq_false (by omega)
    have g2 : decide (t.size < 1) = false := decide_eq_false (by omega)
    have h0' : 0 < t.size := by omega
    by_cases h1 : t.size ≤ 4
    · have g3 : decide ((4 : Int) < (t.size : Int)) = false := decide_eq_false (by omega)
      have g4 : decide (4 < t.size) = false := decide_eq_false (by omega)
      have hF := isSym_of h0' h1
      rw [hF]
      generalize hC : t.data.toList.all (fun c => letB c || bigB c) = C
      have hno : ∀ k (hk : k < t.data.toList.length), (letB (t.data.toList[k]) || bigB (t.data.toList[k])) = false → false = C := fun k hk h => by
        rw [← hC]; symm
        rw [List.all_eq_false]
        exact ⟨_, List.getElem_mem hk, by rw [h]; decide⟩
      have hL : t.data.toList.length = t.size := by rw [Array.length_toList]; rfl
      have HNO := Lib.hid hno; have HL := Lib.hid hL; have HC := Lib.hid hC
      clear hno hL hC hF
      go_enter Try.func48, Try.ntmps48
      go_wp2_with fail
      go_loopw [3] (fun i wr => ∃ k : Nat, k ≤ t.size ∧ i = .int .i64 (k : Int) ∧ ((t.data.toList).take k).all (fun c => letB c || bigB c) = true ∧ w = wr) (fun i _ => t.size - (intOf i).toNat)
      case atStart => exact ⟨0, by omega, rfl, by simp, rfl⟩
      case round =>
        obtain ⟨k, hk, rfl, hall, rfl⟩ := hrel
        have HALL := Lib.hid hall
        clear hall
        by_cases hlt : k < t.size
        · have hkl : k < t.data.toList.length := by rw [HL.out]; exact hlt
          obtain ⟨d, hd⟩ : ∃ d, t.data.toList[k] = d := ⟨_, rfl⟩
          have hb : ∀ h, t[k]'h = d := by intro h; exact hd
          have hlet := letter_any d w
          have hbig := big_any d w
          have hnn := fun h => HNO.out k hkl h
          have hyy := fun h => all_take (p := fun c => letB c || bigB c) hkl HALL.out h
          rw [hd] at hnn hyy
          generalize letB d = x1 at *
          generalize bigB d = x2 at *
          have HM := Lib.hid hlet; have HG := Lib.hid hbig; have HN := Lib.hid hnn; have HY := Lib.hid hyy
          clear hlet hbig hd hkl hnn hyy
          cases x1
          · cases x2
            · go_wp2_with (first | (go_at_call 72; (with_reducible refine HM.out.mono ?_); rintro e w1 ⟨rfl, rfl⟩) | (go_at_call 73; (with_reducible refine HG.out.mono ?_); rintro e w1 ⟨rfl, rfl⟩))
              go_returns
              exact ⟨by rw [← HN.out rfl]; rfl, hw⟩
            · go_wp2_with (first | (go_at_call 72; (with_reducible refine HM.out.mono ?_); rintro e w1 ⟨rfl, rfl⟩) | (go_at_call 73; (with_reducible refine HG.out.mono ?_); rintro e w1 ⟨rfl, rfl⟩))
              go_roundw
              case rel => exact ⟨k + 1, by omega, by go_num, HY.out rfl, by trivial⟩
              case measure => simp [intOf]; omega
          · go_wp2_with (first | (go_at_call 72; (with_reducible refine HM.out.mono ?_); rintro e w1 ⟨rfl, rfl⟩) | (go_at_call 73; (with_reducible refine HG.out.mono ?_); rintro e w1 ⟨rfl, rfl⟩))
            go_roundw
            case rel => exact ⟨k + 1, by omega, by go_num, HY.out rfl, by trivial⟩
            case measure => simp [intOf]; omega
        · obtain rfl : k = t.size := by omega
          have HN := Lib.hid (show true = C from by have := HALL.out; rw [List.take_of_length_le (by rw [HL.out]; exact Nat.le_refl _), HC.out] at this; exact this.symm)
          go_wp2_with fail
          go_returns
          exact ⟨by rw [← HN.out]; rfl, hw⟩
    · rw [isSym_long h1]
      have g3 : decide ((4 : Int) < (t.size : Int)) = true := decide_eq_true (by omega)
      have g4 : decide (4 < t.size) = true := decide_eq_true (by omega)
      clear h1 h0 h0'
      go_enter Try.func48, Try.ntmps48
      go_wp2
      go_returns
      exact ⟨rfl, hw⟩
end Go.Proofs.Ytmgikhldkebjbaa
