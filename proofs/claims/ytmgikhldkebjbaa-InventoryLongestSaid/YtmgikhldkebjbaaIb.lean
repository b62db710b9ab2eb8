/-
  Names of features, and symbols: which texts they are (consists, isFeatName, isSymbol).
-/
import Derived.Test.YtmgikhldkebjbaaIa
import Derived.Deep.RegionHeld3
import Derived.RangeFuncRecord
namespace Go.Proofs.Ytmgikhldkebjbaa
open Go.RowKit Go.Sort
theorem bytes_empty {t : ByteArray} (h : t.size = 0) : t = ⟨#[]⟩ := by
  cases t with
  | mk d =>
    congr
    exact Array.eq_empty_of_size_eq_zero h
theorem cons_long {t s : ByteArray} {most : Nat} (h : ¬ t.size ≤ most) : cons t most s = false := by simp [cons, h]
theorem cons_none {t s : ByteArray} {most : Nat} (h : t.size = 0) : cons t most s = false := by simp [cons, h]
theorem all_take {p : UInt8 → Bool} {L : List UInt8} {k : Nat} (hk : k < L.length) (h : (L.take k).all p = true) (hc : p L[k] = true) : (L.take (k + 1)).all p = true := by
  rw [List.take_succ_eq_append_getElem hk, List.all_append, h]; simp [hc]
set_option maxRecDepth 100000 in
set_option maxHeartbeats 4000000 in
theorem consists_any (t s : ByteArray) (most B : Nat) (ht : t.size ≤ 9223372036854775807) (hmost : most ≤ 1000) (w : World) (hB : w.cell? ⟨B, 0, none⟩ = some (.string s)) (lb : B < w.heap.size) : Gives 70 #[.string t, .int .i64 (most : Int), .func (.func 83) #[] #[.pointer (some ⟨B, 0, none⟩)]] w (.bool (cons t most s)) := by
  unfold Gives
  by_cases h0 : t.size = 0
  · rw [cons_none h0]
    have e0 : t.toList.isEmpty = true := by rw [Lib.toList_data, bytes_empty h0]; rfl
    clear h0
    go_enter Try.func70, Try.ntmps70
    go_wp2_with fail
    go_returns
    exact ⟨rfl, Below.refl _ _⟩
  · have e0 : t.toList.isEmpty = false := by
      rw [Lib.toList_data, List.isEmpty_eq_false_iff]
      intro e
      refine h0 ?_
      have h2 : t.data.toList.length = 0 := by rw [e]; rfl
      rw [Array.length_toList] at h2
      exact h2
    by_cases h1 : t.size ≤ most
    · generalize hC : cons t most s = C
      have hno : ∀ k (hk : k < t.data.toList.length), (isIn s (t.data.toList[k])) = false → false = C := fun k hk h => by
        rw [← hC, cons]
        symm
        rw [Bool.and_eq_false_iff]
        refine .inr ?_
        rw [List.all_eq_false]
        exact ⟨_, List.getElem_mem hk, by rw [h]; decide⟩
      have hyes : (t.data.toList).all (isIn s) = true → true = C := fun h => by
        rw [← hC, cons, h, decide_eq_true (by omega : 0 < t.size), decide_eq_true h1]; rfl
      have HNO := Lib.hid hno; have HYES := Lib.hid hyes
      have hL : t.data.toList.length = t.size := by rw [Array.length_toList]; rfl
      have e1 : decide (most < t.size) = false := decide_eq_false (by omega)
      have HL := Lib.hid hL
      clear hC hno hyes hL
      go_enter Try.func70, Try.ntmps70
      go_wp2_with fail
      go_loopw [18] (fun i wr => ∃ k : Nat, k ≤ t.size ∧ i = .int .i64 (k : Int) ∧ ((t.data.toList).take k).all (isIn s) = true ∧ Below w.heap.size w wr) (fun i _ => t.size - (intOf i).toNat)
      case atStart => exact ⟨0, by omega, rfl, by simp, Below.refl _ _⟩
      case round =>
        obtain ⟨k, hk, rfl, hall, hw⟩ := hrel
        have HALL := Lib.hid hall
        clear hall
        by_cases hlt : k < t.size
        · have hkl : k < t.data.toList.length := by rw [HL.out]; exact hlt
          obtain ⟨c, hc⟩ : ∃ c, t.data.toList[k] = c := ⟨_, rfl⟩
          have hb : ∀ h, t[k]'h = c := by intro h; exact hc
          have hB1 := (hw.cell (p := ⟨B, 0, none⟩) lb).trans hB
          have hm := may_any s c B wr hB1
          have HC := Lib.hid hc
          clear hc
          rcases hx : isIn s c with _ | _
          · have HN := Lib.hid (HNO.out k hkl (by rw [HC.out]; exact hx))
            rw [hx] at hm
            have HM := Lib.hid hm
            clear hm hx HC hkl
            go_wp2_with (go_at_call 83; (with_reducible refine Gives.then HM.out ?_); intro w1 hb1; have hw := hw.trans (hb1.mono hw.size); clear hb1)
            go_returns
            exact ⟨by rw [← HN.out]; rfl, hw⟩
          · have HN := Lib.hid (all_take hkl HALL.out (by rw [HC.out]; exact hx))
            rw [hx] at hm
            have HM := Lib.hid hm
            clear hm hx HC hkl
            go_wp2_with (go_at_call 83; (with_reducible refine Gives.then HM.out ?_); intro w1 hb1; have hw := hw.trans (hb1.mono hw.size); clear hb1)
            go_roundw
            case rel => exact ⟨k + 1, by omega, by go_num, HN.out, hw⟩
            case measure => simp [intOf]; omega
        · obtain rfl : k = t.size := by omega
          have HN := Lib.hid (HYES.out (by have := HALL.out; rwa [List.take_of_length_le (by rw [HL.out]; exact Nat.le_refl _)] at this))
          go_wp2_with fail
          go_returns
          exact ⟨by rw [← HN.out]; rfl, hw⟩
    · rw [cons_long h1]
      have e1 : decide (most < t.size) = true := decide_eq_true (by omega)
      go_enter Try.func70, Try.ntmps70
      go_wp2_with fail
      go_returns
      exact ⟨rfl, Below.refl _ _⟩
def sSmall : ByteArray := ⟨#[97, 98, 99, 100, 101, 102, 103, 104, 105, 106, 107, 108, 109, 110, 111, 112, 113, 114, 115, 116, 117, 118, 119, 120, 121, 122]⟩
def sSmallDigits : ByteArray := ⟨#[97, 98, 99, 100, 101, 102, 103, 104, 105, 106, 107, 108, 109, 110, 111, 112, 113, 114, 115, 116, 117, 118, 119, 120, 121, 122, 48, 49, 50, 51, 52, 53, 54, 55, 56, 57]⟩
def sAll : ByteArray := ⟨#[97, 98, 99, 100, 101, 102, 103, 104, 105, 106, 107, 108, 109, 110, 111, 112, 113, 114, 115, 116, 117, 118, 119, 120, 121, 122, 65, 66, 67, 68, 69, 70, 71, 72, 73, 74, 75, 76, 77, 78, 79, 80, 81, 82, 83, 84, 85, 86, 87, 88, 89, 90, 48, 49, 50, 51, 52, 53, 54, 55, 56, 57, 64, 63, 33, 38, 42, 36, 37]⟩
/-- Which texts are symbols. -/
def isSym (t : ByteArray) : Bool := cons t 4 sAll
set_option maxRecDepth 100000 in
set_option maxHeartbeats 4000000 in
theorem isSymbol_any (t : ByteArray) (ht : t.size ≤ 9223372036854775807) (w : World) : Gives 46 #[.string t] w (.bool (isSym t)) := by
  unfold Gives
  have hA := among_any sAll w
  have hC := consists_any t sAll 4 w.heap.size ht (by decide) (w.alloc (.cells #[.string sAll] 9)) (cell_block (World.alloc_heap_new w _) rfl) (by rw [World.size_alloc]; omega)
  unfold isSym
  generalize cons t 4 sAll = C at *
  have HA := Lib.hid hA; have HC := Lib.hid hC
  clear hA hC
  have hw : Below w.heap.size w (w.alloc (.cells #[.string sAll] 9)) := (Below.refl _ w).alloc (Nat.le_refl _) _
  have HW := Lib.hid hw
  clear hw
  go_enter Try.func46, Try.ntmps46
  go_wp2_with fail
  go_at_call 71
  refine HA.out.mono ?_
  rintro e w1 ⟨rfl, rfl⟩
  go_wp2_with fail
  go_at_call 70
  refine Gives.then HC.out ?_
  intro w2 hb
  have hw := HW.out.trans (hb.mono HW.out.size)
  clear hb
  go_wp2_with fail
  go_returns
  exact ⟨rfl, hw⟩
end Go.Proofs.Ytmgikhldkebjbaa
