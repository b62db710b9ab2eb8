/-
  The specification's New: the inventory, or the same error.
-/
import Derived.Test.YtmgikhldkebjbaaGc
import Derived.Test.YtmgikhldkebjbaaIf
namespace Go.Proofs.Ytmgikhldkebjbaa
open Go.RowKit Go.Sort
theorem below_drewN {B : Nat} {a w : World} (h : Below B a w) (q : Nat) : Below B a (w.drewN q) := ⟨h.os, h.tape, h.output, h.size, h.block⟩
theorem toList_beq (x y : ByteArray) : (x.toList == y.toList) = decide (x = y) := by
  rw [Bool.eq_iff_iff, beq_iff_eq, decide_eq_true_iff, Lib.toList_data, Lib.toList_data]
  constructor
  · intro h
    cases x; cases y
    simp only at h
    rw [Array.toList_inj.1 h]
  · rintro rfl; rfl
/-- Two of the first n names are equal. -/
def Dup (l : List ByteArray) (n : Nat) : Prop := ∃ i j, j < i ∧ i < n ∧ ∃ x, l[i]? = some x ∧ l[j]? = some x
open Classical in
theorem put_len {k : ByteArray} {v : Value} : ∀ (l : List (ByteArray × Value)), (put k v l).length = if (∃ u, (k, u) ∈ l) then l.length else l.length + 1
  | [] => by simp [put]
  | y :: l => by
    have ih := put_len (k := k) (v := v) l
    unfold put
    by_cases h : k = y.1
    · rw [if_pos h, if_pos ⟨y.2, by rw [h]; simp⟩]; rfl
    · rw [if_neg h, List.length_cons, ih]
      have e : (∃ u, (k, u) ∈ y :: l) ↔ ∃ u, (k, u) ∈ l := by
        constructor
        · rintro ⟨u, hu⟩
          rcases List.mem_cons.1 hu with hu | hu
          · exact absurd (by rw [← hu]) h
          · exact ⟨u, hu⟩
        · rintro ⟨u, hu⟩
          exact ⟨u, List.mem_cons_of_mem _ hu⟩
      by_cases h2 : ∃ u, (k, u) ∈ l
      · rw [if_pos h2, if_pos (e.2 h2)]; rfl
      · rw [if_neg h2, if_neg (fun h3 => h2 (e.1 h3))]; rfl
theorem put_keys {k x : ByteArray} {v : Value} : ∀ (l : List (ByteArray × Value)), (∃ u, (x, u) ∈ put k v l) ↔ x = k ∨ ∃ u, (x, u) ∈ l
  | [] => by simp [put]
  | y :: l => by
    have ih := put_keys (k := k) (x := x) (v := v) l
    unfold put
    by_cases h : k = y.1
    · rw [if_pos h]
      constructor
      · rintro ⟨u, hu⟩
        rcases List.mem_cons.1 hu with hu | hu
        · cases hu; exact .inl rfl
        · exact .inr ⟨u, List.mem_cons_of_mem _ hu⟩
      · rintro (rfl | ⟨u, hu⟩)
        · exact ⟨v, by simp⟩
        · rcases List.mem_cons.1 hu with hu | hu
          · exact ⟨v, by rw [h, ← hu]; simp⟩
          · exact ⟨u, List.mem_cons_of_mem _ hu⟩
    · rw [if_neg h]
      constructor
      · rintro ⟨u, hu⟩
        rcases List.mem_cons.1 hu with hu | hu
        · exact .inr ⟨u, by rw [hu]; simp⟩
        · rcases ih.1 ⟨u, hu⟩ with h2 | ⟨u2, h2⟩
          · exact .inl h2
          · exact .inr ⟨u2, List.mem_cons_of_mem _ h2⟩
      · rintro (h2 | ⟨u, hu⟩)
        · obtain ⟨u2, h3⟩ := ih.2 (.inl h2)
          exact ⟨u2, List.mem_cons_of_mem _ h3⟩
        · rcases List.mem_cons.1 hu with hu | hu
          · exact ⟨u, by rw [← hu]; simp⟩
          · obtain ⟨u2, h3⟩ := ih.2 (.inr ⟨u, hu⟩)
            exact ⟨u2, List.mem_cons_of_mem _ h3⟩
theorem numT_keys {l : List ByteArray} {x : ByteArray} : ∀ n, n ≤ l.length → ((∃ u, (x, u) ∈ numT l n) ↔ ∃ j, j < n ∧ l[j]? = some x)
  | 0, _ => by simp [numT]
  | n + 1, h => by
    have ih := numT_keys (l := l) (x := x) n (by omega)
    rw [numT_succ (by omega), put_keys, ih]
    constructor
    · rintro (h2 | ⟨j, hj, e⟩)
      · exact ⟨n, by omega, by rw [List.getElem?_eq_getElem (by omega), h2]⟩
      · exact ⟨j, by omega, e⟩
    · rintro ⟨j, hj, e⟩
      by_cases h3 : j = n
      · subst h3
        rw [List.getElem?_eq_getElem (by omega), Option.some.injEq] at e
        exact .inl e.symm
      · exact .inr ⟨j, by omega, e⟩
theorem numT_le {l : List ByteArray} : ∀ n, n ≤ l.length → (numT l n).length ≤ n
  | 0, _ => by simp [numT]
  | n + 1, h => by
    have ih := numT_le (l := l) n (by omega)
    rw [numT_succ (by omega), put_len]
    split <;> omega
theorem numT_dup {l : List ByteArray} : ∀ n, n ≤ l.length → ((numT l n).length < n ↔ Dup l n)
  | 0, _ => by
    constructor
    · intro h; omega
    · rintro ⟨i, j, h1, h2, _⟩; omega
  | n + 1, h => by
    have ih := numT_dup (l := l) n (by omega)
    have hle := numT_le (l := l) n (by omega)
    have hk := numT_keys (l := l) (x := l[n]) n (by omega)
    rw [numT_succ (by omega), put_len]
    constructor
    · intro h1
      split at h1
      · rename_i h2
        obtain ⟨j, hj, e⟩ := hk.1 h2
        exact ⟨n, j, hj, by omega, l[n], List.getElem?_eq_getElem (by omega), e⟩
      · obtain ⟨i, j, a, b, c⟩ := ih.1 (by omega)
        exact ⟨i, j, a, by omega, c⟩
    · rintro ⟨i, j, a, b, x, c, d⟩
      by_cases e : i = n
      · subst e
        rw [List.getElem?_eq_getElem (by omega), Option.some.injEq] at c
        rw [if_pos (hk.2 ⟨j, a, by rw [d, c]⟩)]
        omega
      · have := ih.2 ⟨i, j, a, by omega, x, c, d⟩
        split <;> omega
theorem newE_dup {l : List ByteArray} (h24 : l.length ≤ 24) (h : l.all isFeat = true) (hd : Dup l l.length) : newE l = 6 := by
  unfold newE
  rw [if_neg (by omega), if_pos h, if_pos ((numT_dup l.length (Nat.le_refl _)).2 hd)]
theorem newE_ok {l : List ByteArray} (h24 : l.length ≤ 24) (h : l.all isFeat = true) (hd : ¬ Dup l l.length) : newE l = 0 := by
  unfold newE
  rw [if_neg (by omega), if_pos h, if_neg (fun e => hd ((numT_dup l.length (Nat.le_refl _)).1 e))]
theorem newE_name {l : List ByteArray} (h24 : l.length ≤ 24) (h : l.all isFeat = false) : newE l = 15 := by
  unfold newE
  rw [if_neg (by omega), if_neg (by simp [h])]
/-- The specification's inventory to which nothing was added. -/
def RNew (w : World) (base R : Nat) (l : List ByteArray) : Prop := ∃ nv, w.heap[R]? = some (.cells #[.bool true, nv, .slice none 0 0] 85 (0, 0)) ∧ OwnS w base nv l ∧ base ≤ R
end Go.Proofs.Ytmgikhldkebjbaa
