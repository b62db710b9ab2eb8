/-
  Sort: what it returns, and that it is new.
-/
import Derived.Test.YthokpgnenlfnjaaHt
import Derived.Test.YthokpgnenlfnjaaHg
namespace Go.Proofs.Ythokpgnenlfnjaa
open Go.RowKit Go.Sort Go.Proofs
/-- Sorting lists of words: a plain list function. -/
def ins (x : List Snd) : List (List Snd) → List (List Snd)
  | [] => [x]
  | y :: l => if ordW x y ≤ 0 then x :: y :: l else y :: ins x l
def isort : List (List Snd) → List (List Snd)
  | [] => []
  | x :: l => ins x (isort l)
def cptS (xs : List (List Snd)) : Nat → List (List Snd)
  | 0 => []
  | p + 1 => if h : p < xs.length then (if 0 < p ∧ xs[p] = xs[p - 1]'(by omega) then cptS xs p else cptS xs p ++ [xs[p]]) else cptS xs p
/-- What Sort makes of a list. -/
def srt (l : List (List Snd)) : List (List Snd) := cptS (isort l) l.length
theorem ins_perm (x : List Snd) : ∀ l, (ins x l).Perm (x :: l)
  | [] => List.Perm.refl _
  | y :: l => by
    simp only [ins]; split
    · exact List.Perm.refl _
    · exact ((ins_perm x l).cons y).trans (List.Perm.swap x y l)
theorem isort_perm : ∀ l, (isort l).Perm l
  | [] => List.Perm.refl _
  | x :: l => (ins_perm x (isort l)).trans ((isort_perm l).cons x)
theorem ins_sorted (x : List Snd) : ∀ l, l.Pairwise (fun a b => ordW a b ≤ 0) → (ins x l).Pairwise (fun a b => ordW a b ≤ 0)
  | [], _ => by simp [ins]
  | y :: l, h => by
    rw [List.pairwise_cons] at h
    simp only [ins]; split
    · rename_i hxy
      rw [List.pairwise_cons]
      refine ⟨fun z hz => ?_, List.pairwise_cons.2 h⟩
      rcases List.mem_cons.1 hz with rfl | hz
      · exact hxy
      · exact (ordW_trans hxy (h.1 z hz)).1
    · rename_i hxy
      rw [List.pairwise_cons]
      refine ⟨fun z hz => ?_, ins_sorted x l h.2⟩
      rcases List.mem_cons.1 ((ins_perm x l).mem_iff.1 hz) with rfl | hz
      · have := ordW_anti y z; omega
      · exact h.1 z hz
theorem isort_sorted : ∀ l, (isort l).Pairwise (fun a b => ordW a b ≤ 0)
  | [] => by simp [isort]
  | x :: l => ins_sorted x _ (isort_sorted l)
theorem isort_unique {l ys : List (List Snd)} (hp : ys.Perm l) (hs : ys.Pairwise (fun a b => ordW a b ≤ 0)) : ys = isort l :=
  List.Perm.eq_of_pairwise (fun a b _ _ h1 h2 => by have := ordW_anti a b; exact (ordW_zero a b).1 (by omega)) hs (isort_sorted l) (hp.trans (isort_perm l).symm)
section
variable {w : World}
theorem cpt_ss (X : List (WE w)) : ∀ p, (cpt X p).map WE.ss = cptS (X.map WE.ss) p
  | 0 => rfl
  | p + 1 => by
    have ih := cpt_ss X p
    simp only [cpt, cptS, List.length_map]
    by_cases h : p < X.length
    · rw [dif_pos h, dif_pos h]
      simp only [List.getElem_map]
      split
      · exact ih
      · rw [List.map_append, ih]; rfl
    · rw [dif_neg h, dif_neg h]; exact ih
theorem srt_of {L Y : List (WE w)} (hp : Y.Perm L) (hs : SortedX Y) : (cpt Y Y.length).map WE.ss = srt (L.map WE.ss) := by
  have hp' : (Y.map WE.ss).Perm (L.map WE.ss) := hp.map _
  have hs' : (Y.map WE.ss).Pairwise (fun a b => ordW a b ≤ 0) := by
    rw [List.pairwise_iff_getElem]
    intro i j hi hj hij
    rw [List.getElem_map, List.getElem_map]
    exact hs i j hij (by simpa using hj)
  rw [cpt_ss, isort_unique hp' hs', hp.length_eq]
  unfold srt
  rw [List.length_map]
abbrev prs (L : List (WE w)) : List (Value × List Snd) := L.map fun x => (x.v, x.ss)
theorem compact_nil (W : World) : Calls Try.prog 61 #[.slice none 0 0, .func (.func 28) #[] #[]] W fun e w' => e = .returned (.slice none 0 0) ∧ w' = W := by
  go_enter Try.func61, Try.ntmps61
  go_wp2_with fail
  go_returns
  exact ⟨rfl, rfl⟩
theorem values_we (L : List (WE w)) {v : Value} (h : Ws w v (prs L)) : ∃ ao cap, v = .slice ao L.length cap ∧ ∀ i (h : i < L.length), ∃ b off, ao = some ⟨b, off, none⟩ ∧ b < w.heap.size ∧ w.cell? ⟨b, off + i, none⟩ = some L[i].v := by
  obtain ⟨ao, cap, rfl, -, -, h⟩ := h.open
  refine ⟨ao, cap, by rw [List.length_map], fun i hi => ?_⟩
  obtain ⟨b, off, e, hb, hc, _⟩ := h i (by simpa using hi)
  exact ⟨b, off, e, hb, by rw [hc, List.getElem_map]⟩
theorem cpt_mem (X : List (WE w)) : ∀ p x, x ∈ cpt X p → x ∈ X
  | 0, x, h => by simp [cpt] at h
  | p + 1, x, h => by
    simp only [cpt] at h
    split at h
    · split at h
      · exact cpt_mem X p x h
      · rcases List.mem_append.1 h with h | h
        · exact cpt_mem X p x h
        · rw [List.mem_singleton] at h; subst h; exact List.getElem_mem _
    · exact cpt_mem X p x h
end
theorem cke_zero : ∀ {l : List (Value × List Snd)}, cke l = 0 → ∀ x ∈ l, chk x.2 = 0
  | [], _, x, h => by simp at h
  | y :: l, hc, x, h => by
    simp only [cke] at hc
    split at hc
    · rename_i hy
      rcases List.mem_cons.1 h with rfl | h
      · exact hy
      · exact cke_zero hc x h
    · rename_i hy; exact absurd hc hy
end Go.Proofs.Ythokpgnenlfnjaa
