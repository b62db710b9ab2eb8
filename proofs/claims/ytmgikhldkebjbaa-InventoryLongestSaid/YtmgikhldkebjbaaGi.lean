/-
  The specification's Text: the same text as the program's.
-/
import Derived.Test.YtmgikhldkebjbaaGh
import Derived.Test.YtmgikhldkebjbaaIr
namespace Go.Proofs.Ytmgikhldkebjbaa
open Go.RowKit Go.Shelf Go.Sort
theorem ljoin_snoc (x sep : List UInt8) : ∀ (l : List (List UInt8)), l ≠ [] → Lib.join (l ++ [x]) sep = Lib.join l sep ++ sep ++ x
  | [], h => absurd rfl h
  | y :: r, _ => by
    rw [List.cons_append, Lib.join_cons, Lib.join_cons]
    simp [Lib.joinTail]
theorem bytes_ext {a b : ByteArray} (h : a.data.toList = b.data.toList) : a = b := by
  cases a; cases b
  simp only at h
  rw [Array.toList_inj.1 h]
theorem append_list (a b : ByteArray) : (a ++ b).data.toList = a.data.toList ++ b.data.toList := by
  rw [ByteArray.data_append, Array.toList_append]
theorem joinS_list (l : List ByteArray) (sep : ByteArray) : (joinS l sep).data.toList = Lib.join (l.map (·.data.toList)) sep.data.toList := by unfold joinS; simp
theorem joinS_nil (sep : ByteArray) : joinS [] sep = ⟨#[]⟩ := rfl
theorem joinS_one (x sep : ByteArray) : joinS [x] sep = x := bytes_ext (by rw [joinS_list]; simp [Lib.join_one])
theorem joinS_snoc (l : List ByteArray) (x sep : ByteArray) (h : l ≠ []) : joinS (l ++ [x]) sep = joinS l sep ++ sep ++ x := bytes_ext (by
  rw [joinS_list, append_list, append_list, joinS_list, List.map_append]
  exact ljoin_snoc _ _ _ (by simpa using h))
theorem joinTail_len (sep : List UInt8) (hs : sep.length ≤ 1) : ∀ (r : List (List UInt8)), (∀ x ∈ r, x.length ≤ 17) → (Lib.joinTail sep r).length ≤ 18 * r.length
  | [], _ => by simp [Lib.joinTail]
  | y :: r, h => by
    have ih := joinTail_len sep hs r (fun x hx => h x (by simp [hx]))
    have h1 := h y (by simp)
    unfold Lib.joinTail at *
    simp only [List.map_cons, List.flatten_cons, List.length_append, List.length_cons]
    omega
theorem joinS_size (l : List ByteArray) (sep : ByteArray) (hs : sep.size ≤ 1) (h : ∀ x ∈ l, x.size ≤ 17) : (joinS l sep).size ≤ 18 * l.length := by
  have e : (joinS l sep).size = (joinS l sep).data.toList.length := by rw [Array.length_toList]; rfl
  rw [e, joinS_list]
  cases l with
  | nil => simp [Lib.join_nil]
  | cons y r =>
    rw [List.map_cons, Lib.join_cons]
    have h1 := h y (by simp)
    have h2 := joinTail_len sep.data.toList (by rw [Array.length_toList]; exact hs) (r.map (·.data.toList)) (fun x hx => by
      obtain ⟨z, hz, rfl⟩ := List.mem_map.1 hx
      rw [Array.length_toList]; exact h z (by simp [hz]))
    rw [List.length_map] at h2
    rw [List.length_append, List.length_cons]
    have e1 : y.data.toList.length = y.size := by rw [Array.length_toList]; rfl
    omega
theorem txtL_items (s : Snd) : ∀ (l : List ByteArray) (f : Nat), (∀ x ∈ l, x.size ≤ 16) → ∀ x ∈ txtL s f l, 0 < x.size ∧ x.size ≤ 17
  | [], _, _, x, hx => by cases hx
  | y :: l, f, h, x, hx => by
    have h1 := h y (by simp)
    have hp : (plusS y).size = 1 + y.size := by unfold plusS; rw [ByteArray.size_append]; rfl
    have hm : (minusS y).size = 1 + y.size := by unfold minusS; rw [ByteArray.size_append]; rfl
    have ih := txtL_items s l (f + 1) (fun z hz => h z (by simp [hz])) x
    simp only [txtL] at hx
    split at hx
    · rcases List.mem_cons.1 hx with rfl | hx
      · omega
      · exact ih hx
    · split at hx
      · rcases List.mem_cons.1 hx with rfl | hx
        · omega
        · exact ih hx
      · exact ih hx
theorem joinS_pos {l : List ByteArray} {sep : ByteArray} (h : ∀ x ∈ l, 0 < x.size) (hl : l ≠ []) : 0 < (joinS l sep).size := by
  have e : (joinS l sep).size = (joinS l sep).data.toList.length := by rw [Array.length_toList]; rfl
  rw [e, joinS_list]
  cases l with
  | nil => exact absurd rfl hl
  | cons y r =>
    rw [List.map_cons, Lib.join_cons, List.length_append]
    have h1 := h y (by simp)
    have e1 : y.data.toList.length = y.size := by rw [Array.length_toList]; rfl
    omega
theorem bit_and (p : BitVec 32) (k : Nat) (hk : k < 32) : (p.toNat &&& 2 ^ k ≠ 0) ↔ p.getLsbD k = true := by
  have := and_bit p k hk
  rw [bit_toNat k hk] at this
  rw [ne_eq, this]
  simp
/-- One feature more in the text of a valid sound. -/
theorem txtS_step {p m : BitVec 32} (hv : vld p m = true) (l : List ByteArray) (k : Nat) (h : k < l.length) (hk : k < 24) :
    (getV p m k = 0 ∧ txtL (p, m) 0 (l.take (k + 1)) = txtL (p, m) 0 (l.take k)) ∨ (getV p m k = 1 ∧ txtL (p, m) 0 (l.take (k + 1)) = txtL (p, m) 0 (l.take k) ++ [plusS l[k]]) ∨
    (getV p m k = -1 ∧ txtL (p, m) 0 (l.take (k + 1)) = txtL (p, m) 0 (l.take k) ++ [minusS l[k]]) := by
  have ht := txtL_take (p, m) l k h
  have b1 := bit_and p k (by omega)
  have b2 := bit_and m k (by omega)
  have hb := (vld_bits.1 hv k (by omega)).1
  simp only at ht
  unfold getV
  cases hp : p.getLsbD k
  · cases hm : m.getLsbD k
    · left
      rw [if_neg (by rw [b1, hp]; simp), if_neg (by rw [b2, hm]; simp), List.append_nil] at ht
      exact ⟨by simp, ht⟩
    · right; right
      rw [if_neg (by rw [b1, hp]; simp), if_pos (by rw [b2, hm])] at ht
      exact ⟨by simp, ht⟩
  · right; left
    rw [if_pos (by rw [b1, hp])] at ht
    exact ⟨by simp, ht⟩
end Go.Proofs.Ytmgikhldkebjbaa
