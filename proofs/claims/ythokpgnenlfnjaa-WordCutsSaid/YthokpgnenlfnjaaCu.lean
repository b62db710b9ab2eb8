/-
  WordCuts: what its walk needs.
-/
import Derived.Test.YthokpgnenlfnjaaCt
import Derived.Test.YthokpgnenlfnjaaCq
import Derived.Test.YthokpgnenlfnjaaWp
import Derived.Test.YthokpgnenlfnjaaRv
namespace Go.Proofs.Ythokpgnenlfnjaa
open Go.RowKit Go.Sort
/-- The call returns an error, and a slice of a new block that holds these sounds. -/
abbrev GetsF (f : Nat) (args : Array Value) (w : World) (e : Int) (ss : List Snd) : Prop := Calls Try.prog f args w fun z w' => ∃ v, z = .returned (.tuple #[v, .int .i64 e]) ∧ Wd w' v ss ∧ (∀ k, v.ownBlock = some k → w.heap.size ≤ k) ∧ Below w.heap.size w w'
set_option maxHeartbeats 1000000 in
theorem reverse_from (ss : List Snd) (v : Value) (w : World) (h : Wd w v ss) : GetsF 21 #[v] w (chk ss) (revS ss) := by
  unfold GetsF
  have hC := check_any ss v w h
  have DH := Lib.hid h
  obtain ⟨ao, cap, rfl, -, -, -⟩ := h.open
  clear h
  by_cases hc : chk ss = 0
  · have hl := chk_short hc
    have hr : revS ss = ss.reverse := if_pos hc
    rw [hr]
    rw [hc] at hC ⊢
    have HC := Lib.hid hC; have HL : Hid (ss.length ≤ 1000000000) := Lib.hid (by omega)
    have HL2 : Hid (ss.length ≤ 1000000000000) := Lib.hid (by omega)
    clear hC hl hr hc
    go_enter Try.func21, Try.ntmps21
    go_wp2_with fail
    go_at_call 24
    with_reducible refine Gives.then HC.out ?_
    intro w1 hb1
    go_wp2_with fail
    go_at_call 47
    with_reducible refine Makes.then (clone_any ss _ _ HL2.out (DH.out.below hb1)) ?_
    intro v2 w2 ho2 hb2
    have hw2 := hb1.trans (hb2.mono hb1.size)
    have ho := own_in ho2 hb1
    have HO := Lib.hid ho
    obtain ⟨a2, c2, hv, -, -, -⟩ := ho2.wd.open
    subst hv
    clear ho2 hb2 ho
    go_wp2_with fail
    go_at_call 50
    refine (reverse_own ss _ _ _ HO.out HL.out).mono ?_
    rintro e w3 ⟨rfl, hd, hk⟩
    have hw3 := hk _ hw2
    have HD := Lib.hid hd
    clear hd hk hw2
    go_wp2_with fail
    go_ret2
    exact ⟨_, rfl, HD.out, fun k hk => Own.row HO.out k hk, hw3⟩
  · have hr : revS ss = [] := if_neg hc
    rw [hr]
    generalize chk ss = c at *
    have hc1 : (c == 0) = false := by simpa using hc
    have HC := Lib.hid hC
    clear hC hr hc
    go_enter Try.func21, Try.ntmps21
    go_wp2_with (go_at_call 24; with_reducible refine Gives.then HC.out ?_; intro w1 hb1)
    go_ret2
    exact ⟨.slice none 0 0, rfl, Wd.nil _, fun k hk => by simp [Value.ownBlock] at hk, hb1⟩
set_option maxHeartbeats 2000000 in
set_option maxRecDepth 100000 in
theorem rreverse_from (xs : List Snd) (v : Value) (w : World) (h : Wd w v xs) : GetsF 22 #[v] w (chk xs) (revS xs) := by
  unfold GetsF
  have hC := rcheck_any xs v w h
  obtain ⟨ao, cap, rfl, -, -, H1⟩ := h.open
  clear h
  have H1 := Lib.hid H1
  by_cases hc : chk xs = 0
  · have h32 := chk_short hc
    rw [revS, if_pos hc]
    rw [hc] at hC ⊢
    have HC := Lib.hid hC
    clear hC hc
    go_enter Try.func22, Try.ntmps22
    go_wp2_with (go_at_call 25; with_reducible refine Gives.then HC.out ?_; intro w1 hb1)
    go_loopw [6, 5] (fun i s wr => ∃ k : Nat, k ≤ xs.length ∧ i = .int .i64 ((xs.length : Int) - 1 - (k : Int)) ∧ Own wr w.heap.size s (xs.reverse.take k) ∧ Below w.heap.size w wr ∧ w.heap.size ≤ wr.heap.size) (fun i _ _ => (intOf i + 1).toNat)
    case atStart => exact ⟨0, by omega, by simp, by rw [List.take_zero]; exact Own.nil _ _, hb1, hb1.size⟩
    case round =>
      obtain ⟨k, hk, rfl, ho, hw, hsz⟩ := hrel
      by_cases hlt : k < xs.length
      · have hq := rev_take hlt
        obtain ⟨j, hj⟩ : ∃ j, xs.length - 1 - k = j := ⟨_, rfl⟩
        have hji : (xs.length : Int) - 1 - (k : Int) = (j : Int) := by omega
        have hjl : j < xs.length := by omega
        have hq : xs.reverse.take (k + 1) = xs.reverse.take k ++ [xs[j]] := by rw [hq]; congr 2; simp only [hj]
        rw [hji]
        obtain ⟨bb, off, rfl, lb, d0, d1⟩ := H1.out j hjl
        have d0 := (hw.cell (p := ⟨bb, off + j * 2, none⟩) lb).trans d0
        have d1 := (hw.cell (p := ⟨bb, off + j * 2 + 1, none⟩) lb).trans d1
        have hkl : (xs.reverse.take k).length = k := by rw [List.length_take, List.length_reverse]; omega
        generalize hx : xs[j] = x at *
        obtain ⟨x1, x2⟩ := x
        have HO := Lib.hid ho; have HQ := Lib.hid hq; have HKL := Lib.hid hkl
        have HJ : Hid (((j : Int) - 1 = (xs.length : Int) - 1 - ((k + 1 : Nat) : Int))) := Lib.hid (by omega)
        simp only at d0 d1
        clear ho hq hx H1 hkl hji hj
        have ho1 := HO.out.below ((Below.refl _ wr).alloc (Nat.le_refl _) (.cells #[.int .u32 x1.toNat, .int .u32 x2.toNat] 32 (0, 0)))
        have hw1 := hw.alloc hsz (.cells #[.int .u32 x1.toNat, .int .u32 x2.toNat] 32 (0, 0))
        have HO1 := Lib.hid ho1
        clear ho1
        go_wp2_with (at_builtin; refine wpList_app rfl (.tmp 19) (.tmp 24) 22 Try.underlying22 rfl w.heap.size _ _ _ _ rfl rfl HO1.out (one_new wr _ _ x1 x2 rfl rfl) (by have := HKL.out; simp; omega) (by rw [World.size_alloc]; omega) ?_; intro v' w2 ho2 hk2 hz2)
        go_roundw
        case rel => exact ⟨k + 1, by omega, by rw [← HJ.out], by rw [HQ.out]; exact ho2, hk2 _ _ (Nat.le_refl _) hw1, by have := (hk2 _ _ (Nat.le_refl _) hw1).size; omega⟩
        case measure => simp [intOf] <;> omega
      · obtain rfl : k = xs.length := by omega
        have e : (xs.length : Int) - 1 - (xs.length : Int) = -1 := by omega
        rw [List.take_of_length_le (by rw [List.length_reverse]; exact Nat.le_refl _)] at ho
        rw [e]
        have HO := Lib.hid ho.wd
        have HRW := Lib.hid (Own.row ho)
        clear ho H1
        go_wp2_with fail
        go_ret2
        exact ⟨_, rfl, HO.out, fun k hk => HRW.out k hk, hw⟩
  · have hr : revS xs = [] := if_neg hc
    rw [hr]
    generalize chk xs = c at *
    have hc1 : (c == 0) = false := by simpa using hc
    have HC := Lib.hid hC
    clear hC hr hc H1
    go_enter Try.func22, Try.ntmps22
    go_wp2_with (go_at_call 25; with_reducible refine Gives.then HC.out ?_; intro w1 hb1)
    go_ret2
    exact ⟨.slice none 0 0, rfl, Wd.nil _, fun k hk => by simp [Value.ownBlock] at hk, hb1⟩
theorem Wd.grown {w w' : World} {v : Value} {ss : List Snd} {g : Nat} (h : Wd w v ss) (hg : w.grownBy w' (some g)) (hne : v.ownBlock ≠ some g) : Wd w' v ss := by
  rcases h with h | ⟨b, off, cap, rfl, hc, hm, h2, h3⟩
  · exact .inl h
  · have hb : w'.heap[b]? = w.heap[b]? := hg.block b h2 (fun e => hne e)
    exact .inr ⟨b, off, cap, rfl, hc, hm, by have := hg.size; omega, fun i hi => ⟨(World.cell?_of_block (a := ⟨b, off + i * 2, none⟩) hb).trans (h3 i hi).1, (World.cell?_of_block (a := ⟨b, off + i * 2 + 1, none⟩) hb).trans (h3 i hi).2⟩⟩
/-- A row that has been written over. -/
def CRow (w : World) (g n : Nat) : Prop := ∃ cur, w.heap[g]? = some (.cells cur 32 (0, 0)) ∧ n ≤ cur.size
theorem CRow.cell {w : World} {g n o : Nat} (h : CRow w g n) (ho : o < n) : (∃ u, w.cell? ⟨g, o, none⟩ = some u) ∧ w.frozen? ⟨g, o, none⟩ = false := by
  obtain ⟨cur, hh, hs⟩ := h
  exact ⟨⟨cur[o]'(by omega), cell_block hh (Array.getElem?_eq_getElem (by omega))⟩, frozen_block hh⟩
theorem CRow.set {w : World} {g n o : Nat} (u : Value) (h : CRow w g n) : CRow (w.setCell ⟨g, o, none⟩ u) g n := by
  obtain ⟨cur, hh, hs⟩ := h
  refine ⟨cur.setIfInBounds o u, ?_, by simpa using hs⟩
  show (w.heap.modify g _)[g]? = _
  rw [Array.getElem?_modify, if_pos rfl, hh]; rfl
theorem grown_set {w w' : World} {g o : Nat} (u : Value) (h : w.grownBy w' (some g)) : w.grownBy (w'.setCell ⟨g, o, none⟩ u) (some g) := by
  refine ⟨h.os, h.tape, h.output, by rw [World.size_setCell]; exact h.size, fun k hk hne => ?_⟩
  rw [← h.block k hk hne]
  show (w'.heap.modify g _)[k]? = _
  rw [Array.getElem?_modify, if_neg (fun e => hne (by rw [e]))]
end Go.Proofs.Ythokpgnenlfnjaa
