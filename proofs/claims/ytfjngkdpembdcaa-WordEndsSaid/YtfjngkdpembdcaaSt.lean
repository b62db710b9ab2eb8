/-
  Sort, whatever its argument: both Sorts, and what stores into sorted words leave.
-/
import Derived.Test.YtfjngkdpembdcaaSr
import Derived.Test.YtfjngkdpembdcaaSe
import Derived.Test.YtfjngkdpembdcaaHv
namespace Go.Proofs.Ytfjngkdpembdcaa
open Go.RowKit Go.Sort
/-- The error of Sort, and its words. -/
def sE (l : List (Value × List Snd)) : Int := if 256 < l.length then 12 else cke l
def sS (l : List (Value × List Snd)) : List (List Snd) := if 256 < l.length then [] else if cke l = 0 then srt (l.map (·.2)) else []
theorem we_of {w : World} : ∀ (l : List (Value × List Snd)), (∀ x ∈ l, Wd w x.1 x.2) → ∃ L : List (WE w), prs L = l
  | [], _ => ⟨[], rfl⟩
  | x :: l, h => by
    obtain ⟨L, hL⟩ := we_of l (fun y hy => h y (by simp [hy]))
    have hx : Wd w x.1 x.2 := h x (by simp)
    clear h
    subst hL
    exact ⟨⟨x.1, x.2, hx⟩ :: L, rfl⟩
theorem prs_ss {w : World} (L : List (WE w)) : (prs L).map (·.2) = L.map WE.ss := by unfold prs; rw [List.map_map]; rfl
theorem prs_len {w : World} (L : List (WE w)) : (prs L).length = L.length := by unfold prs; rw [List.length_map]
theorem Ws.all {w : World} {v : Value} {l : List (Value × List Snd)} (h : Ws w v l) : ∀ x ∈ l, Wd w x.1 x.2 := by
  rcases h with ⟨_, rfl⟩ | ⟨b, off, cap, _, _, _, _, h3⟩
  · intro x hx; simp at hx
  · intro x hx
    obtain ⟨i, hi, rfl⟩ := List.mem_iff_getElem.1 hx
    exact (h3 i hi).2
theorem sort_all (l : List (Value × List Snd)) (v : Value) (w : World) (h : Ws w v l) : Calls Try.prog 8 #[v] w fun e w' => ∃ (v' : Value) (l' : List (Value × List Snd)), e = .returned (.tuple #[v', .int .i64 (sE l)]) ∧ Ws w' v' l' ∧ l'.map (·.2) = sS l ∧ Hdr w' w.heap.size v' l' ∧ Below w.heap.size w w' := by
  by_cases hl : 256 < l.length
  · refine (sort_many l v w hl h).mono ?_
    rintro e w' ⟨rfl, hb⟩
    exact ⟨_, [], by rw [sE, if_pos hl], .inl ⟨rfl, rfl⟩, by rw [sS, if_pos hl]; rfl, .inl ⟨rfl, rfl⟩, hb⟩
  · by_cases hc : cke l = 0
    · obtain ⟨L, hL⟩ := we_of l h.all
      have hS : (L.map WE.ss) = l.map (·.2) := by rw [← prs_ss, hL]
      refine (sort_any L v (by rw [← prs_len, hL]; omega) (by rw [hL]; exact h) (by rw [hL]; exact hc)).mono ?_
      rintro e w' ⟨v', l', rfl, h1, h2, -, h3, hb⟩
      exact ⟨v', l', by rw [sE, if_neg hl, hc], h1, by rw [sS, if_neg hl, if_pos hc, h2, hS], h3, hb⟩
    · refine (sort_bad l v w (by omega) hc h).mono ?_
      rintro e w' ⟨rfl, hb⟩
      exact ⟨_, [], by rw [sE, if_neg hl], .inl ⟨rfl, rfl⟩, by rw [sS, if_neg hl, if_neg hc]; rfl, .inl ⟨rfl, rfl⟩, hb⟩
theorem rsort_all (l : List (Value × List Snd)) (v : Value) (w : World) (h : Ws w v l) : Calls Try.prog 9 #[v] w fun e w' => ∃ (v' : Value) (l' : List (Value × List Snd)), e = .returned (.tuple #[v', .int .i64 (sE l)]) ∧ Ws w' v' l' ∧ l'.map (·.2) = sS l ∧ Below w.heap.size w w' := by
  by_cases hl : 256 < l.length
  · refine (rsort_many l v w hl h).mono ?_
    rintro e w' ⟨rfl, hb⟩
    exact ⟨_, [], by rw [sE, if_pos hl], .inl ⟨rfl, rfl⟩, by rw [sS, if_pos hl]; rfl, hb⟩
  · by_cases hc : cke l = 0
    · refine (rsort_any l v w (by omega) hc h).mono ?_
      rintro e w' ⟨v', l', rfl, h1, h2, hb⟩
      exact ⟨v', l', by rw [sE, if_neg hl, hc], h1.ws, by rw [sS, if_neg hl, if_pos hc, h2], hb⟩
    · refine (rsort_bad l v w (by omega) hc h).mono ?_
      rintro e w' ⟨rfl, hb⟩
      exact ⟨_, [], by rw [sE, if_neg hl], .inl ⟨rfl, rfl⟩, by rw [sS, if_neg hl, if_neg hc]; rfl, hb⟩
/-- A row that has been written over. -/
def CRow (w : World) (g n : Nat) : Prop := ∃ cur, w.heap[g]? = some (.cells cur 32 (0, 0)) ∧ n ≤ cur.size
theorem CRow.cell {w : World} {g n o : Nat} (h : CRow w g n) (ho : o < n) : (∃ u, w.cell? ⟨g, o, none⟩ = some u) ∧ w.frozen? ⟨g, o, none⟩ = false := by
  obtain ⟨cur, hh, hs⟩ := h
  exact ⟨⟨cur[o]'(by omega), cell_block hh (Array.getElem?_eq_getElem (by omega))⟩, frozen_block hh⟩
/-- What stores into the words of a sorted list leave. -/
def Sto (base g : Nat) (w wr : World) : Prop := Below base w wr ∧ wr.heap[g]? = w.heap[g]? ∧ wr.heap.size = w.heap.size ∧ ∀ k n, CRow w k n → CRow wr k n
theorem Sto.refl (base g : Nat) (w : World) : Sto base g w w := ⟨Below.refl _ _, rfl, rfl, fun _ _ h => h⟩
theorem Sto.set {base g : Nat} {w wr : World} (h : Sto base g w wr) (b o : Nat) (u : Value) (hb : base ≤ b) (hne : b ≠ g) : Sto base g w (wr.setCell ⟨b, o, none⟩ u) := by
  obtain ⟨h1, h2, h3, h4⟩ := h
  refine ⟨h1.setCell (p := ⟨b, o, none⟩) hb u, ?_, by rw [World.size_setCell]; exact h3, fun k n hk => ?_⟩
  · rw [← h2]
    show (wr.heap.modify b _)[g]? = _
    rw [Array.getElem?_modify, if_neg hne]
  · obtain ⟨cur, hh, hs⟩ := h4 k n hk
    by_cases e : b = k
    · subst e
      refine ⟨cur.setIfInBounds o u, ?_, by simpa using hs⟩
      show (wr.heap.modify b _)[b]? = _
      rw [Array.getElem?_modify, if_pos rfl, hh]; rfl
    · refine ⟨cur, ?_, hs⟩
      rw [← hh]
      show (wr.heap.modify b _)[k]? = _
      rw [Array.getElem?_modify, if_neg e]
theorem Sto.cell {base g : Nat} {w wr : World} (h : Sto base g w wr) (i : Nat) : wr.cell? ⟨g, i, none⟩ = w.cell? ⟨g, i, none⟩ := World.cell?_of_block (a := ⟨g, i, none⟩) h.2.1
theorem Own.cases {w : World} {base : Nat} {v : Value} {ss : List Snd} (h : Own w base v ss) : (v = .slice none 0 0 ∧ ss = []) ∨ ∃ b cap, v = .slice (some ⟨b, 0, none⟩) ss.length cap ∧ base ≤ b ∧ CRow w b (ss.length * 2) := by
  obtain ⟨hl, ⟨rfl, h0⟩ | ⟨g, cc, cur, rfl, hg, hh, hn, hm, hs, ht⟩⟩ := h
  · exact .inl ⟨rfl, List.eq_nil_of_length_eq_zero h0⟩
  · exact .inr ⟨g, cc, rfl, hg, cur, hh, by have := Nat.mul_le_mul_right 2 hn; omega⟩
end Go.Proofs.Ytfjngkdpembdcaa
