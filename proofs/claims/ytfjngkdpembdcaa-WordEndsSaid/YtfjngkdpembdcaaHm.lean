/-
  Sorting lists of words, as plain list functions.
-/
import Derived.Test.YtfjngkdpembdcaaHn
namespace Go.Proofs.Ytfjngkdpembdcaa
open Go.RowKit Go.Sort Go.Proofs
/-- Sorting lists of words: a plain list function. -/
def ins (x : List Snd) : List (List Snd) → List (List Snd)
  | [] => [x]
  | y :: l => if ordW x y ≤ 0 then x :: y :: l else y :: ins x l
def isort : List (List Snd) → List (List Snd)
  | [] => []
  | x :: l => ins x (isort l)
def cptS (xs : List (List Snd)) : Nat → List (List Snd)
  | 0 => []
  | p + 1 => if h : p < xs.length then (if 0 < p ∧ xs[p] = xs[p - 1]'(by omega) then cptS xs p else cptS xs p ++ [xs[p]]) else cptS xs p
/-- What Sort makes of a list. -/
def srt (l : List (List Snd)) : List (List Snd) := cptS (isort l) l.length
theorem ins_perm (x : List Snd) : ∀ l, (ins x l).Perm (x :: l)
  | [] => List.Perm.refl _
  | y :: l => by
    simp only [ins]; split
    · exact List.Perm.refl _
    · exact ((ins_perm x l).cons y).trans (List.Perm.swap x y l)
theorem isort_perm : ∀ l, (isort l).Perm l
  | [] => List.Perm.refl _
  | x :: l => (ins_perm x (isort l)).trans ((isort_perm l).cons x)
theorem ins_sorted (x : List Snd) : ∀ l, l.Pairwise (fun a b => ordW a b ≤ 0) → (ins x l).Pairwise (fun a b => ordW a b ≤ 0)
  | [], _ => by simp [ins]
  | y :: l, h => by
    rw [List.pairwise_cons] at h
    simp only [ins]; split
    · rename_i hxy
      rw [List.pairwise_cons]
      refine ⟨fun z hz => ?_, List.pairwise_cons.2 h⟩
      rcases List.mem_cons.1 hz with rfl | hz
      · exact hxy
      · exact (ordW_trans hxy (h.1 z hz)).1
    · rename_i hxy
      rw [List.pairwise_cons]
      refine ⟨fun z hz => ?_, ins_sorted x l h.2⟩
      rcases List.mem_cons.1 ((ins_perm x l).mem_iff.1 hz) with rfl | hz
      · have := ordW_anti y z; omega
      · exact h.1 z hz
theorem isort_sorted : ∀ l, (isort l).Pairwise (fun a b => ordW a b ≤ 0)
  | [] => by simp [isort]
  | x :: l => ins_sorted x _ (isort_sorted l)
theorem isort_unique {l ys : List (List Snd)} (hp : ys.Perm l) (hs : ys.Pairwise (fun a b => ordW a b ≤ 0)) : ys = isort l :=
  List.Perm.eq_of_pairwise (fun a b _ _ h1 h2 => by have := ordW_anti a b; exact (ordW_zero a b).1 (by omega)) hs (isort_sorted l) (hp.trans (isort_perm l).symm)
end Go.Proofs.Ytfjngkdpembdcaa
