/-
  The specification's Reverse.
-/
import Derived.Test.YthokpgnenlfnjaaRv
import Derived.Test.YthokpgnenlfnjaaZa
namespace Go.Proofs.Ythokpgnenlfnjaa
open Go.RowKit Go.Sort
theorem rev_take {xs : List Snd} {k : Nat} (hk : k < xs.length) : xs.reverse.take (k + 1) = xs.reverse.take k ++ [xs[xs.length - 1 - k]'(by omega)] := by
  rw [List.take_succ_eq_append_getElem (by rw [List.length_reverse]; exact hk), List.getElem_reverse]
set_option maxHeartbeats 2000000 in
set_option maxRecDepth 100000 in
theorem rreverse_any (xs : List Snd) (v : Value) (w : World) (h : Wd w v xs) : GetsE 22 #[v] w (chk xs) (revS xs) := by
  unfold GetsE
  have hC := rcheck_any xs v w h
  obtain ⟨ao, cap, rfl, -, -, H1⟩ := h.open
  clear h
  have H1 := Lib.hid H1
  by_cases hc : chk xs = 0
  · have h32 := chk_short hc
    rw [revS, if_pos hc]
    rw [hc] at hC ⊢
    have HC := Lib.hid hC
    clear hC hc
    go_enter Try.func22, Try.ntmps22
    go_wp2_with (go_at_call 25; with_reducible refine Gives.then HC.out ?_; intro w1 hb1)
    go_loopw [6, 5] (fun i s wr => ∃ k : Nat, k ≤ xs.length ∧ i = .int .i64 ((xs.length : Int) - 1 - (k : Int)) ∧ Own wr w.heap.size s (xs.reverse.take k) ∧ Below w.heap.size w wr ∧ w.heap.size ≤ wr.heap.size) (fun i _ _ => (intOf i + 1).toNat)
    case atStart => exact ⟨0, by omega, by simp, by rw [List.take_zero]; exact Own.nil _ _, hb1, hb1.size⟩
    case round =>
      obtain ⟨k, hk, rfl, ho, hw, hsz⟩ := hrel
      by_cases hlt : k < xs.length
      · have hq := rev_take hlt
        obtain ⟨j, hj⟩ : ∃ j, xs.length - 1 - k = j := ⟨_, rfl⟩
        have hji : (xs.length : Int) - 1 - (k : Int) = (j : Int) := by omega
        have hjl : j < xs.length := by omega
        have hq : xs.reverse.take (k + 1) = xs.reverse.take k ++ [xs[j]] := by rw [hq]; congr 2; simp only [hj]
        rw [hji]
        obtain ⟨bb, off, rfl, lb, d0, d1⟩ := H1.out j hjl
        have d0 := (hw.cell (p := ⟨bb, off + j * 2, none⟩) lb).trans d0
        have d1 := (hw.cell (p := ⟨bb, off + j * 2 + 1, none⟩) lb).trans d1
        have hkl : (xs.reverse.take k).length = k := by rw [List.length_take, List.length_reverse]; omega
        generalize hx : xs[j] = x at *
        obtain ⟨x1, x2⟩ := x
        have HO := Lib.hid ho; have HQ := Lib.hid hq; have HKL := Lib.hid hkl
        have HJ : Hid (((j : Int) - 1 = (xs.length : Int) - 1 - ((k + 1 : Nat) : Int))) := Lib.hid (by omega)
        simp only at d0 d1
        clear ho hq hx H1 hkl hji hj
        have ho1 := HO.out.below ((Below.refl _ wr).alloc (Nat.le_refl _) (.cells #[.int .u32 x1.toNat, .int .u32 x2.toNat] 32 (0, 0)))
        have hw1 := hw.alloc hsz (.cells #[.int .u32 x1.toNat, .int .u32 x2.toNat] 32 (0, 0))
        have HO1 := Lib.hid ho1
        clear ho1
        go_wp2_with (at_builtin; refine wpList_app rfl (.tmp 19) (.tmp 24) 22 Try.underlying22 rfl w.heap.size _ _ _ _ rfl rfl HO1.out (one_new wr _ _ x1 x2 rfl rfl) (by have := HKL.out; simp; omega) (by rw [World.size_alloc]; omega) ?_; intro v' w2 ho2 hk2 hz2)
        go_roundw
        case rel => exact ⟨k + 1, by omega, by rw [← HJ.out], by rw [HQ.out]; exact ho2, hk2 _ _ (Nat.le_refl _) hw1, by have := (hk2 _ _ (Nat.le_refl _) hw1).size; omega⟩
        case measure => simp [intOf] <;> omega
      · obtain rfl : k = xs.length := by omega
        have e : (xs.length : Int) - 1 - (xs.length : Int) = -1 := by omega
        rw [List.take_of_length_le (by rw [List.length_reverse]; exact Nat.le_refl _)] at ho
        rw [e]
        have HO := Lib.hid ho.wd
        clear ho H1
        go_wp2_with fail
        go_ret2
        exact ⟨_, rfl, HO.out, hw⟩
  · have hr : revS xs = [] := if_neg hc
    rw [hr]
    generalize chk xs = c at *
    have hc1 : (c == 0) = false := by simpa using hc
    have HC := Lib.hid hC
    clear hC hr hc H1
    go_enter Try.func22, Try.ntmps22
    go_wp2_with (go_at_call 25; with_reducible refine Gives.then HC.out ?_; intro w1 hb1)
    go_ret2
    exact ⟨_, rfl, Wd.nil _, hb1⟩
end Go.Proofs.Ythokpgnenlfnjaa
