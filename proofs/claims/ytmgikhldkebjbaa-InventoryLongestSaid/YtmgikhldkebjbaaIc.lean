/-
  Names of features.
-/
import Derived.Test.YtmgikhldkebjbaaIb
import Derived.Deep.RegionLaw
namespace Go.Proofs.Ytmgikhldkebjbaa
open Go.RowKit Go.Sort
/-- Which texts are names of features. -/
def isFeat (t : ByteArray) : Bool := cons t 16 sSmallDigits && isIn sSmall (t.data.toList.getD 0 0)
theorem cons_pos {t s : ByteArray} {m : Nat} (h : cons t m s = true) : 0 < t.size := by
  unfold cons at h
  simp only [Bool.and_eq_true, decide_eq_true_eq] at h
  exact h.1.1
theorem chB {w W w1 : World} (h : Below w.heap.size w W) (hb : Below W.heap.size W w1) : Below w.heap.size w w1 := h.trans (hb.mono h.size)
set_option maxRecDepth 100000 in
set_option maxHeartbeats 8000000 in
theorem isFeatName_any (t : ByteArray) (ht : t.size ≤ 9223372036854775807) (w : World) : Gives 68 #[.string t] w (.bool (isFeat t)) := by
  unfold Gives
  have HT := Lib.hid ht
  rcases hc : cons t 16 sSmallDigits with _ | _
  · have hR : isFeat t = false := by rw [isFeat, hc]; rfl
    rw [hR]
    have HC := Lib.hid hc
    clear hc hR ht
    go_enter Try.func68, Try.ntmps68
    go_wp2_with fail
    first
      | (go_region_law (first
          | (go_simp; go_at_call 71; refine (among_any sSmallDigits _).mono ?_; rintro e w1 ⟨rfl, rfl⟩)
          | (go_simp; go_at_call 71; refine (among_any sSmall _).mono ?_; rintro e w2 ⟨rfl, rfl⟩; have hB2 := hB1.alloc hB1.size (.cells #[.string sSmall] 9))
          | (go_simp; go_at_call 70; refine Gives.then (Gives.eq (consists_any t sSmallDigits 16 w.heap.size HT.out (by decide) _ (cell_block (World.alloc_heap_new w _) rfl) (by show w.heap.size < (w.alloc _).heap.size; rw [World.size_alloc]; exact Nat.lt_succ_self _)) rfl (by rw [HC.out])) ?_; intro w1 hb; have hB1 : Below w.heap.size w w1 := chB (by go_grown) hb)))
      | fail
    all_goals (
      try go_wp2
      go_returns
      exact ⟨rfl, hB1⟩)
  · have h0 := cons_pos hc
    have hl : 0 < t.data.toList.length := by rw [Array.length_toList]; exact h0
    obtain ⟨c, hcc⟩ : ∃ c, t.data.toList[0] = c := ⟨_, rfl⟩
    have hb : ∀ h, t[0]'h = c := by intro h; exact hcc
    have hh : t.data.toList.getD 0 0 = c := by
      rw [List.getD_eq_getElem?_getD, List.getElem?_eq_getElem hl, hcc]; rfl
    have hR : isFeat t = isIn sSmall c := by rw [isFeat, hc, hh]; rfl
    rw [hR]
    have HC := Lib.hid hc
    clear hc hR ht hcc hh hl
    rcases hx : isIn sSmall c with _ | _
    all_goals (
      have HX := Lib.hid hx
      clear hx
      go_enter Try.func68, Try.ntmps68
      go_wp2_with fail
      go_region_held3 (fun w' => Below w.heap.size w w' ∧ w.heap.size ≤ w'.heap.size)
        (((try go_split_ands); first | exact ⟨hB1, hB1.size⟩ | exact ⟨hB2, hB2.size⟩ | (refine ⟨?_, ?_⟩ <;> first | assumption | (go_grown; done) | go_size)))
        (first
          | (go_at_call 71; refine (among_any sSmallDigits _).mono ?_; rintro e w1 ⟨rfl, rfl⟩)
          | (go_at_call 71; refine (among_any sSmall _).mono ?_; rintro e w2 ⟨rfl, rfl⟩; have hB2 := hB1.alloc hB1.size (.cells #[.string sSmall] 9))
          | (go_at_call 70; refine Gives.then (Gives.eq (consists_any t sSmallDigits 16 w.heap.size HT.out (by decide) _ (cell_block (World.alloc_heap_new w _) rfl) (by show w.heap.size < (w.alloc _).heap.size; rw [World.size_alloc]; exact Nat.lt_succ_self _)) rfl (by rw [HC.out])) ?_; intro w1 hb; have hB1 : Below w.heap.size w w1 := chB (by first | assumption | (go_grown; done)) hb)
          | (go_at_call 83; refine Gives.then (Gives.eq (may_any sSmall c w1.heap.size _ (cell_block (World.alloc_heap_new w1 _) rfl)) rfl (by rw [HX.out])) ?_; intro w3 hb; have hB1 : Below w.heap.size w w3 := chB hB2 hb))
      all_goals (
        try go_wp2
        go_returns
        exact ⟨rfl, hB1⟩))
end Go.Proofs.Ytmgikhldkebjbaa
