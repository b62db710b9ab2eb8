/-
  Lemmas that the theorem of this claim rests on: 8 texts, one behind the other.
-/
import Derived.Test.YtmgikhldkebjbaaM4
import Derived.Test.YtmgikhldkebjbaaM3
import Derived.Test.YtmgikhldkebjbaaM5

/-
  InventoryBack: the items of a text; what stands before a place of it.
-/
namespace Go.Proofs.Ytmgikhldkebjbaa
open Go.RowKit Go.Shelf Go.Sort
theorem ljoin_two (x y : List UInt8) (r : List (List UInt8)) : Lib.join (x :: y :: r) [32] = x ++ 32 :: Lib.join (y :: r) [32] := by
  rw [Lib.join_cons, Lib.join_cons]
  simp [Lib.joinTail]
/-- What stands before a place of a text of items: whole items, if a space is there; else the last one of them is not whole. -/
theorem join_take : ∀ (L : List (List UInt8)), (∀ x ∈ L, ∀ c ∈ x, c ≠ 32) → ∀ i, (h : i < (Lib.join L [32]).length) →
    ((Lib.join L [32])[i] = 32 ∧ ∃ k, 1 ≤ k ∧ k < L.length ∧ (Lib.join L [32]).take i = Lib.join (L.take k) [32]) ∨
    ((Lib.join L [32])[i] ≠ 32 ∧ ∃ k, ∃ (hk : k < L.length), ∃ j, j < L[k].length ∧ (Lib.join L [32]).take i = Lib.join (L.take k ++ [L[k].take j]) [32] ∧ (i = 0 ↔ k = 0 ∧ j = 0))
  | [], _, i, h => by simp [Lib.join, List.intercalate] at h
  | [x], hx, i, h => by
    rw [Lib.join_one] at h
    right
    simp only [Lib.join_one]
    exact ⟨hx x (by simp) _ (List.getElem_mem h), 0, by simp, i, h, by simp [Lib.join_one], by simp⟩
  | x :: y :: r, hx, i, h => by
    have ih := join_take (y :: r) (fun z hz => hx z (by simp [hz]))
    simp only [ljoin_two] at h ⊢
    simp only [List.length_append, List.length_cons] at h
    rcases Nat.lt_trichotomy i x.length with h1 | h1 | h1
    · right
      refine ⟨?_, 0, by simp, i, h1, ?_, by simp⟩
      · rw [List.getElem_append_left h1]
        exact hx x (by simp) _ (List.getElem_mem h1)
      · rw [List.take_append_of_le_length (by omega)]
        simp [Lib.join_one]
    · left
      subst h1
      refine ⟨by simp, 1, by omega, by simp, ?_⟩
      rw [List.take_append_of_le_length (by omega)]
      simp [Lib.join_one]
    · obtain ⟨q, rfl⟩ : ∃ q, i = x.length + 1 + q := ⟨i - x.length - 1, by omega⟩
      have hq : q < (Lib.join (y :: r) [32]).length := by omega
      have e1 : (x ++ 32 :: Lib.join (y :: r) [32])[x.length + 1 + q]'(by simp; omega) = (Lib.join (y :: r) [32])[q] := by
        rw [List.getElem_append_right (by omega)]
        have e : x.length + 1 + q - x.length = q + 1 := by omega
        simp only [e, List.getElem_cons_succ]
      have e2 : (x ++ 32 :: Lib.join (y :: r) [32]).take (x.length + 1 + q) = x ++ 32 :: (Lib.join (y :: r) [32]).take q := by
        rw [List.take_append, List.take_of_length_le (by omega)]
        have e : x.length + 1 + q - x.length = q + 1 := by omega
        rw [e, List.take_succ_cons]
      rw [e1, e2]
      rcases ih q hq with ⟨h2, k, hk1, hk2, ht⟩ | ⟨h2, k, hk, j, hj, ht, hz⟩
      · refine .inl ⟨h2, k + 1, by omega, by simp at hk2 ⊢; omega, ?_⟩
        rw [ht]
        obtain ⟨k', rfl⟩ : ∃ k', k = k' + 1 := ⟨k - 1, by omega⟩
        simp only [List.take_succ_cons]
        rw [ljoin_two]
      · refine .inr ⟨h2, k + 1, by simp at hk ⊢; omega, j, by simpa using hj, ?_, by constructor <;> intro h' <;> omega⟩
        rw [ht]
        simp only [List.take_succ_cons, List.getElem_cons_succ, List.cons_append]
        cases k with
        | zero => simp only [List.take_zero, List.nil_append]; rw [ljoin_two]
        | succ k' => simp only [List.take_succ_cons, List.cons_append]; rw [ljoin_two]

/-- No space in a text. -/
def NoSp (x : ByteArray) : Prop := ∀ c ∈ x.data.toList, c ≠ 32
theorem spI_no {x : ByteArray} (h : NoSp x) : spI x = -1 := ib_no 32 _ (fun j hj => h _ (List.getElem_mem hj))
theorem joinS_two (x y : ByteArray) (r : List ByteArray) : joinS (x :: y :: r) ⟨#[32]⟩ = x ++ (⟨#[32]⟩ ++ joinS (y :: r) ⟨#[32]⟩) := bytes_ext (by
  rw [joinS_list, append_list, append_list, joinS_list]
  simp only [List.map_cons]
  exact ljoin_two _ _ _)
theorem spI_two {x t : ByteArray} (h : NoSp x) : spI (x ++ (⟨#[32]⟩ ++ t)) = x.size := by
  unfold spI
  rw [append_list, append_list]
  have e : x.size = x.data.toList.length := by rw [Array.length_toList]; rfl
  rw [e]
  refine ib_at 32 _ _ (by simp) ?_ (fun j hj => ?_)
  · simp
  · rw [List.getElem_append_left hj]
    exact h _ (List.getElem_mem hj)
theorem todo_join : ∀ (L : List ByteArray), (∀ x ∈ L, NoSp x) → L ≠ [] → todo (joinS L ⟨#[32]⟩) true = L
  | [], _, h => absurd rfl h
  | [x], hx, _ => by
    rw [joinS_one, todo_true]
    have h := spI_no (hx x (by simp))
    unfold cutA cutC
    rw [h]
    simp [todo_false]
  | x :: y :: r, hx, _ => by
    have ih := todo_join (y :: r) (fun z hz => hx z (by simp [hz])) (by simp)
    rw [joinS_two, todo_true]
    generalize joinS (y :: r) ⟨#[32]⟩ = t at *
    have h := spI_two (t := t) (hx x (by simp))
    have e : x.size = x.data.toList.length := by rw [Array.length_toList]; rfl
    have e0 : t.size = t.data.toList.length := by rw [Array.length_toList]; rfl
    have ha : cutA (x ++ (⟨#[32]⟩ ++ t)) = x := by
      unfold cutA
      rw [h, if_pos (by omega)]
      refine bytes_ext ?_
      rw [ext_list, append_list, append_list, Int.toNat_natCast, List.drop_zero, Nat.sub_zero, e, List.take_left']
      rfl
    have hc : cutC (x ++ (⟨#[32]⟩ ++ t)) = true := by
      unfold cutC
      rw [h]
      exact decide_eq_true (by omega)
    have hb : cutB (x ++ (⟨#[32]⟩ ++ t)) = t := by
      unfold cutB
      rw [h, if_pos (by omega)]
      refine bytes_ext ?_
      have e3 : (x ++ (⟨#[32]⟩ ++ t) : ByteArray).size = x.size + 1 + t.size := by
        rw [ByteArray.size_append, ByteArray.size_append]
        show x.size + (1 + t.size) = _
        omega
      have e4 : x.data.toList ++ ((⟨#[32]⟩ : ByteArray).data.toList ++ t.data.toList) = (x.data.toList ++ [32]) ++ t.data.toList := by simp
      rw [ext_list, append_list, append_list, Int.toNat_natCast, e3, e4, List.drop_left' (by rw [List.length_append, ← e]; rfl), List.take_of_length_le (by omega)]
    rw [ha, hb, hc, ih]
theorem itemsS_join {L : List ByteArray} (h : ∀ x ∈ L, NoSp x) (hn : L ≠ []) (hs : 0 < (joinS L ⟨#[32]⟩).size) : itemsS (joinS L ⟨#[32]⟩) = L := by
  unfold itemsS
  rw [empty_toList, decide_eq_false (by omega)]
  exact todo_join L h hn
theorem itemsS_none : itemsS ⟨#[]⟩ = [] := by
  unfold itemsS
  rw [empty_toList]
  rfl
end Go.Proofs.Ytmgikhldkebjbaa

/-
  InventoryBack: the bundle of a sound's text is the sound.
-/
namespace Go.Proofs.Ytmgikhldkebjbaa
open Go.RowKit Go.Shelf Go.Sort
theorem getV_ext {p m p' m' : BitVec 32} (hv : vld p m = true) (hv' : vld p' m' = true) (h : ∀ j, j < 32 → getV p m j = getV p' m' j) : (p, m) = (p', m') := by
  have h1 : p = p' := bv_ext fun j hj => by rw [← (getV_of_vld hv j hj).1, ← (getV_of_vld hv' j hj).1, h j hj]
  have h2 : m = m' := bv_ext fun j hj => by rw [← (getV_of_vld hv j hj).2, ← (getV_of_vld hv' j hj).2, h j hj]
  rw [h1, h2]
theorem featO_at {l : List ByteArray} (h0 : newE l = 0) {k : Nat} (hk : k < l.length) : featO l l[k] = some k := by
  rcases feat_is l l[k] with ⟨j, h1, h2, _, _, h3⟩ | ⟨h1, _⟩
  · rw [h3, nodup_eq (newE_nodup h0) h2 (List.getElem?_eq_getElem hk)]
  · exact absurd (List.getElem?_eq_getElem hk) (h1 k)
theorem sgn_list (c : UInt8) (x : ByteArray) : ((⟨#[c]⟩ : ByteArray) ++ x).data.toList = c :: x.data.toList := by rw [append_list]; rfl
theorem sgn_size (c : UInt8) (x : ByteArray) : ((⟨#[c]⟩ : ByteArray) ++ x).size = 1 + x.size := by rw [ByteArray.size_append]; rfl
theorem sgn_rest (c : UInt8) (x : ByteArray) : ((⟨#[c]⟩ : ByteArray) ++ x).extract 1 ((⟨#[c]⟩ : ByteArray) ++ x).size = x := bytes_ext (by
  rw [ext_list, sgn_list, sgn_size, List.drop_succ_cons, List.drop_zero, List.take_of_length_le (by rw [len_list]; omega)])
theorem sgn_head (c : UInt8) (x : ByteArray) : ((⟨#[c]⟩ : ByteArray) ++ x).data.toList.getD 0 0 = c := by rw [sgn_list]; rfl
/-- What an item of a new feature does. -/
theorem stepB_item {l : List ByteArray} (h0 : newE l = 0) {r : Snd} (hv : vld r.1 r.2 = true) {k : Nat} (hk : k < l.length) (hz : getV r.1 r.2 k = 0) (c : UInt8) (v : Int) (hc : (c = 43 ∧ v = 1) ∨ (c = 45 ∧ v = -1)) :
    stepB l r (⟨#[c]⟩ ++ l[k]) = some (withP r.1 k v, withM r.2 k v) ∧ vld (withP r.1 k v) (withM r.2 k v) = true := by
  rcases stepB_is l (newE_len h0) r hv (⟨#[c]⟩ ++ l[k]) with ⟨h, _⟩ | ⟨_, c', hc', h⟩
  · rw [sgn_size] at h; omega
  · rw [sgn_head] at hc'
    subst hc'
    rcases h with ⟨h1, h2, _⟩ | ⟨_, ⟨h, _⟩ | ⟨j, _, hj, ⟨h, _⟩ | ⟨_, v', hv', hs, hvv⟩⟩⟩
    · rcases hc with ⟨h, _⟩ | ⟨h, _⟩
      · exact absurd h h1
      · exact absurd h h2
    · rw [sgn_rest, featO_at h0 hk] at h; cases h
    · rw [sgn_rest, featO_at h0 hk] at hj
      cases hj
      exact absurd hz h
    · rw [sgn_rest, featO_at h0 hk] at hj
      cases hj
      have e : v' = v := by
        rcases hc with ⟨rfl, rfl⟩ | ⟨rfl, rfl⟩
        · rw [hv']; rfl
        · rw [hv']; rfl
      subst e
      exact ⟨hs, hvv⟩
theorem txt_bundle {l : List ByteArray} (h0 : newE l = 0) {p m : BitVec 32} (hv : vld p m = true) : ∀ k, k ≤ l.length → ∃ r : Snd, bunL l (0#32, 0#32) (txtL (p, m) 0 (l.take k)) = some r ∧ vld r.1 r.2 = true ∧ ∀ j, j < 32 → getV r.1 r.2 j = if j < k then getV p m j else 0
  | 0, _ => ⟨(0#32, 0#32), rfl, by decide, fun j hj => by rw [if_neg (by omega)]; unfold getV; simp⟩
  | k + 1, hk => by
    obtain ⟨r, h1, h2, h3⟩ := txt_bundle h0 hv k (by omega)
    have hl := newE_len h0
    have hz : getV r.1 r.2 k = 0 := by rw [h3 k (by omega), if_neg (by omega)]
    have key : ∀ (c : UInt8) (v : Int), ((c = 43 ∧ v = 1) ∨ (c = 45 ∧ v = -1)) → getV p m k = v → txtL (p, m) 0 (l.take (k + 1)) = txtL (p, m) 0 (l.take k) ++ [⟨#[c]⟩ ++ l[k]'(by omega)] → ∃ r : Snd, bunL l (0#32, 0#32) (txtL (p, m) 0 (l.take (k + 1))) = some r ∧ vld r.1 r.2 = true ∧ ∀ j, j < 32 → getV r.1 r.2 j = if j < k + 1 then getV p m j else 0 := fun c v hc hg ht => by
      obtain ⟨s1, s2⟩ := stepB_item h0 h2 (k := k) (by omega) hz c v hc
      refine ⟨_, by rw [ht, bunL_snoc _ _ _ h1, s1], s2, fun j hj => ?_⟩
      rw [getV_with k v j (by omega) hj (by rcases hc with ⟨_, h⟩ | ⟨_, h⟩ <;> simp [h])]
      by_cases e : j = k
      · subst e; rw [if_pos rfl, if_pos (by omega), hg]
      · rw [if_neg e, h3 j hj]
        by_cases e2 : j < k
        · rw [if_pos e2, if_pos (by omega)]
        · rw [if_neg e2, if_neg (by omega)]
    rcases txtS_step hv l k (by omega) (by omega) with ⟨hg, ht⟩ | ⟨hg, ht⟩ | ⟨hg, ht⟩
    · refine ⟨r, by rw [ht]; exact h1, h2, fun j hj => ?_⟩
      rw [h3 j hj]
      by_cases e : j = k
      · subst e; rw [if_neg (by omega), if_pos (by omega), hg]
      · by_cases e2 : j < k
        · rw [if_pos e2, if_pos (by omega)]
        · rw [if_neg e2, if_neg (by omega)]
    · exact key 43 1 (.inl ⟨rfl, rfl⟩) hg ht
    · exact key 45 (-1) (.inr ⟨rfl, rfl⟩) hg ht
theorem txt_bundle_all {l : List ByteArray} (h0 : newE l = 0) {p m : BitVec 32} (hb : hasB l.length (p, m) = true) : bunL l (0#32, 0#32) (txtL (p, m) 0 l) = some (p, m) := by
  have hl := newE_len h0
  have hv := hasB_vld hl hb
  obtain ⟨r, h1, h2, h3⟩ := txt_bundle h0 hv l.length (Nat.le_refl _)
  rw [List.take_length] at h1
  rw [h1]
  have e : (r.1, r.2) = (p, m) := getV_ext h2 hv fun j hj => by
    rw [h3 j hj]
    by_cases e : j < l.length
    · rw [if_pos e]
    · rw [if_neg e]
      by_cases hz : getV p m j = 0
      · exact hz.symm
      · rw [hasB_get (by omega) hj hz] at hb; cases hb
  exact congrArg some e
end Go.Proofs.Ytmgikhldkebjbaa

/-
  InventoryBack: which beginnings of a sound's text are bundles.
-/
namespace Go.Proofs.Ytmgikhldkebjbaa
open Go.RowKit Go.Shelf Go.Sort
theorem txtL_form (s : Snd) : ∀ (l : List ByteArray) (f : Nat) (x : ByteArray), x ∈ txtL s f l → ∃ (c : UInt8) (y : ByteArray), (c = 43 ∨ c = 45) ∧ y ∈ l ∧ x = ⟨#[c]⟩ ++ y
  | [], _, x, h => by simp [txtL] at h
  | y :: l, f, x, h => by
    have ih := txtL_form s l (f + 1) x
    have hm : x = ⟨#[43]⟩ ++ y ∨ x = ⟨#[45]⟩ ++ y ∨ x ∈ txtL s (f + 1) l := by
      unfold txtL at h
      split at h
      · rcases List.mem_cons.1 h with h | h
        · exact .inl h
        · exact .inr (.inr h)
      · split at h
        · rcases List.mem_cons.1 h with h | h
          · exact .inr (.inl h)
          · exact .inr (.inr h)
        · exact .inr (.inr h)
    rcases hm with h | h | h
    · exact ⟨43, y, .inl rfl, by simp, h⟩
    · exact ⟨45, y, .inr rfl, by simp, h⟩
    · obtain ⟨c, z, h1, h2, h3⟩ := ih h
      exact ⟨c, z, h1, by simp [h2], h3⟩
theorem nmL_mem {n : Nat} {x : ByteArray} (h : x ∈ nmL n) : ∃ i, i < n ∧ x = nmI i := by
  unfold nmL at h
  obtain ⟨i, hi, rfl⟩ := List.mem_map.1 h
  exact ⟨i, by simpa using hi, rfl⟩
theorem nmI_nosp (i : Nat) (h : i < 24) : ∀ c ∈ (nmI i).data.toList, c ≠ 32 := (by decide +kernel : ∀ k : Fin 24, ∀ c ∈ (nmI k.val).data.toList, c ≠ 32) ⟨i, h⟩
theorem txtL_nosp {n : Nat} (hn : n ≤ 24) {s : Snd} {x : ByteArray} (h : x ∈ txtL s 0 (nmL n)) : NoSp x ∧ x.size = 3 := by
  obtain ⟨c, y, hc, hy, rfl⟩ := txtL_form s _ _ x h
  obtain ⟨i, hi, rfl⟩ := nmL_mem hy
  refine ⟨fun d hd => ?_, by rw [sgn_size]; rfl⟩
  rw [sgn_list] at hd
  rcases List.mem_cons.1 hd with rfl | hd
  · rcases hc with rfl | rfl <;> decide
  · exact nmI_nosp i (by omega) d hd
theorem stepB_short {n : Nat} {r : Snd} {y : ByteArray} (h : y.size ≠ 3) : stepB (nmL n) r y = none := by
  by_cases h0 : y.size = 0
  · unfold stepB; rw [valS_empty h0]
  · have hf : featO (nmL n) (y.extract 1 y.size) = none := by
      rcases feat_is (nmL n) (y.extract 1 y.size) with ⟨j, h1, h2, _⟩ | ⟨_, _, _, h⟩
      · obtain ⟨i, _, e⟩ := nmL_mem (List.mem_of_getElem? h2)
        have e2 : (y.extract 1 y.size).size = 2 := by rw [e]; rfl
        rw [ByteArray.size_extract] at e2
        omega
      · exact h
    unfold stepB; rw [valS_no hf]
theorem bunL_take {l L : List ByteArray} {s r : Snd} (h : bunL l s L = some r) (k : Nat) : ∃ q, bunL l s (L.take k) = some q := by
  cases hq : bunL l s (L.take k) with
  | some q => exact ⟨q, rfl⟩
  | none =>
    have := bunL_stop (L.take k) (L.drop k) s hq
    rw [List.take_append_drop, h] at this
    cases this
/-- The text of a sound is its bundle; a beginning of it is a bundle where it is empty, or a space follows. -/
theorem back_text {n : Nat} (hn : n ≤ 24) {p m : BitVec 32} (hb : hasB (nmL n).length (p, m) = true) : bunS (nmL n) (txtS (nmL n) (p, m)) = some (p, m) := by
  have hB := txt_bundle_all (nmL_new n hn) hb
  unfold bunS txtS
  by_cases h : txtL (p, m) 0 (nmL n) = []
  · rw [h] at hB ⊢
    rw [joinS_nil, itemsS_none]
    exact hB
  · rw [itemsS_join (fun x hx => (txtL_nosp hn hx).1) h (joinS_pos (fun x hx => by have := (txtL_nosp hn hx).2; omega) h)]
    exact hB
theorem back_take {n : Nat} (hn : n ≤ 24) {p m : BitVec 32} (hb : hasB (nmL n).length (p, m) = true) (i : Nat) (hi : i < (txtS (nmL n) (p, m)).data.toList.length) :
    (bunS (nmL n) ((txtS (nmL n) (p, m)).extract 0 i)).isSome = decide (i = 0 ∨ (txtS (nmL n) (p, m)).data.toList[i] = 32) := by
  have hB := txt_bundle_all (nmL_new n hn) hb
  have hns : ∀ x ∈ txtL (p, m) 0 (nmL n), NoSp x ∧ x.size = 3 := fun x hx => txtL_nosp hn hx
  unfold txtS at *
  generalize txtL (p, m) 0 (nmL n) = L at *
  have ht := joinS_list L ⟨#[32]⟩
  have hjt := join_take (L.map (·.data.toList)) (fun x hx => by
    obtain ⟨y, hy, rfl⟩ := List.mem_map.1 hx
    exact (hns y hy).1) i (by rw [← show (joinS L ⟨#[32]⟩).data.toList = _ from ht]; exact hi)
  have hget : (joinS L ⟨#[32]⟩).data.toList[i] = (Lib.join (L.map (·.data.toList)) [32])[i]'(by rw [← show (joinS L ⟨#[32]⟩).data.toList = _ from ht]; exact hi) := by
    congr 1
  have hext : ((joinS L ⟨#[32]⟩).extract 0 i).data.toList = (Lib.join (L.map (·.data.toList)) [32]).take i := by
    rw [ext_list, ht, List.drop_zero, Nat.sub_zero]
  rw [hget]
  unfold bunS
  rcases hjt with ⟨h1, k, hk1, hk2, h2⟩ | ⟨h1, k, hk, j, hj, h2, h3⟩
  · rw [decide_eq_true (Or.inr h1)]
    have e : (joinS L ⟨#[32]⟩).extract 0 i = joinS (L.take k) ⟨#[32]⟩ := bytes_ext (by rw [hext, h2, joinS_list, List.map_take])
    have hne : L.take k ≠ [] := by
      intro e
      have h8 := congrArg List.length e
      have h9 : k < L.length := by simpa using hk2
      rw [List.length_take, List.length_nil] at h8
      omega
    have hmem : ∀ x ∈ L.take k, NoSp x ∧ x.size = 3 := fun x hx => hns x (List.mem_of_mem_take hx)
    rw [e, itemsS_join (fun x hx => (hmem x hx).1) hne (joinS_pos (fun x hx => by have := (hmem x hx).2; omega) hne)]
    obtain ⟨q, hq⟩ := bunL_take hB k
    rw [hq]; rfl
  · by_cases h0 : i = 0
    · subst h0
      rw [decide_eq_true (Or.inl rfl)]
      have e : (joinS L ⟨#[32]⟩).extract 0 0 = ⟨#[]⟩ := bytes_ext (by rw [hext]; rfl)
      rw [e, itemsS_none]; rfl
    · rw [decide_eq_false (by intro h; rcases h with h | h; exact h0 h; exact h1 h)]
      have hk' : k < L.length := by simpa using hk
      have hsz := (hns L[k] (List.getElem_mem hk')).2
      have hj' : j < 3 := by
        have : L[k].data.toList.length = 3 := by rw [len_list]; exact hsz
        simp only [List.getElem_map] at hj
        omega
      have e : (joinS L ⟨#[32]⟩).extract 0 i = joinS (L.take k ++ [L[k].extract 0 j]) ⟨#[32]⟩ := bytes_ext (by
        rw [hext, h2, joinS_list, List.map_append, List.map_take]
        simp [ext_list])
      have hmem : ∀ x ∈ L.take k ++ [L[k].extract 0 j], NoSp x := fun x hx => by
        rcases List.mem_append.1 hx with hx | hx
        · exact (hns x (List.mem_of_mem_take hx)).1
        · rw [List.mem_singleton.1 hx]
          intro c hc
          rw [ext_list] at hc
          exact (hns L[k] (List.getElem_mem hk')).1 c (List.mem_of_mem_drop (List.mem_of_mem_take hc))
      have hpos : 0 < (joinS (L.take k ++ [L[k].extract 0 j]) ⟨#[32]⟩).size := by
        rw [← e, ByteArray.size_extract]
        rw [len_list] at hi
        omega
      rw [e, itemsS_join hmem (by simp) hpos]
      obtain ⟨q, hq⟩ := bunL_take hB k
      rw [bunL_snoc _ _ _ hq, stepB_short (by rw [ByteArray.size_extract]; omega)]
      rfl
end Go.Proofs.Ytmgikhldkebjbaa

/-
  InventoryBack: clean.
-/
namespace Go.Proofs.Ytmgikhldkebjbaa
open Go.RowKit Go.Shelf Go.Sort
/-- The bits of the first n features. -/
def msk (n : Nat) : BitVec 32 := BitVec.ofNat 32 (2 ^ n - 1)
theorem msk_get (n j : Nat) (hj : j < 32) : (msk n).getLsbD j = decide (j < n) := by
  unfold msk
  rw [BitVec.getLsbD_ofNat, Nat.testBit_two_pow_sub_one]
  simp [hj]
def clP (n : Nat) (p : BitVec 32) : BitVec 32 := p &&& msk n
def clM (n : Nat) (p m : BitVec 32) : BitVec 32 := (m &&& ~~~p) &&& msk n
theorem clean_has (n : Nat) (p m : BitVec 32) : hasB n (clP n p, clM n p m) = true := by
  rw [hasB_bits]
  unfold clP clM
  refine ⟨fun j hj => ?_, fun j hj hj2 => ?_⟩
  · simp only [BitVec.getLsbD_and, BitVec.getLsbD_not, decide_eq_true hj, Bool.true_and]
    cases p.getLsbD j <;> simp
  · simp only [BitVec.getLsbD_and, msk_get n j hj2, decide_eq_false (Nat.not_lt.2 hj), Bool.and_false]
    exact ⟨trivial, trivial⟩
set_option maxRecDepth 100000 in
set_option maxHeartbeats 4000000 in
theorem clean_any (p m : BitVec 32) (n : Nat) (hn : n ≤ 24) (w : World) : Gives 38 #[.agg #[.int .u32 (p.toNat : Int), .int .u32 (m.toNat : Int)], .int .i64 (n : Int)] w (.agg #[.int .u32 ((clP n p).toNat : Int), .int .u32 ((clM n p m).toNat : Int)]) := by
  unfold Gives
  have hb0 := (Below.refl w.heap.size w).alloc (Nat.le_refl _) (.cells #[.int .u32 (p.toNat : Int), .int .u32 (m.toNat : Int)] 39)
  go_enter Try.func38, Try.ntmps38
  go_wp2_with fail
  have e1 : ((2 : Int) ^ n - 1) % 4294967296 = ((msk n).toNat : Int) := (by decide : ∀ k : Fin 25, ((2 : Int) ^ k.val - 1) % 4294967296 = ((msk k.val).toNat : Int)) ⟨n, by omega⟩
  have e2 : bits .and .u32 (p.toNat : Int) ((msk n).toNat : Int) = ((clP n p).toNat : Int) := b_and p (msk n)
  have e3 := b_andNot m p
  have e4 : bits .and .u32 ((m &&& ~~~p).toNat : Int) ((msk n).toNat : Int) = ((clM n p m).toNat : Int) := b_and (m &&& ~~~p) (msk n)
  simp only [e1, e2, e3, e4]
  clear e1 e2 e3 e4
  generalize clP n p = P at *
  generalize clM n p m = M at *
  have hb1 := hb0.alloc hb0.size (.cells #[.int .u32 (P.toNat : Int), .int .u32 (M.toNat : Int)] 39)
  go_returns
  exact ⟨rfl, hb1⟩
set_option maxHeartbeats 1000000 in
theorem sltrim_any (s p : ByteArray) (hs : s.size ≤ 9223372036854775807) (hp : p.size ≤ 9223372036854775807) (w : World) : Gives 67 #[.string s, .string p] w (.string (if hasP s p = true then s.extract p.size s.size else s)) := by
  have h := fun W => slHasP_any s p hs hp W
  have hle : hasP s p = true → p.size ≤ s.size := fun e => by
    unfold hasP at e
    rw [Bool.and_eq_true, decide_eq_true_iff] at e
    exact e.1
  generalize hasP s p = b at *
  have H := Lib.hid h
  clear h
  cases b
  · clear hle
    rw [if_neg (by decide)]
    unfold Gives
    go_enter Try.func67, Try.ntmps67
    go_wp2_with (go_at_call 66; refine Gives.then (H.out _) ?_; intro w1 hb)
    go_returns
    exact ⟨rfl, hb⟩
  · have hle := hle rfl
    rw [if_pos rfl]
    unfold Gives
    go_enter Try.func67, Try.ntmps67
    go_wp2_with (go_at_call 66; refine Gives.then (H.out _) ?_; intro w1 hb)
    go_returns
    exact ⟨rfl, hb⟩
theorem trimp_any (s p : ByteArray) (hs : s.size ≤ 9223372036854775807) (hp : p.size ≤ 9223372036854775807) (w : World) : Gives 40 #[.string s, .string p] w (.string (if hasP s p = true then s.extract p.size s.size else s)) := by
  have h := fun W => sltrim_any s p hs hp W
  generalize (if hasP s p = true then s.extract p.size s.size else s) = b at *
  have H := Lib.hid h
  clear h
  unfold Gives
  go_enter Try.func40, Try.ntmps40
  go_wp2_with (go_at_call 67; refine Gives.then (H.out _) ?_; intro w1 hb)
  go_returns
  exact ⟨rfl, hb⟩
end Go.Proofs.Ytmgikhldkebjbaa

/-
  InventoryBack: what is left of the text.
-/
namespace Go.Proofs.Ytmgikhldkebjbaa
open Go.RowKit Go.Shelf Go.Sort
/-- What is left of the text at feature i. -/
def rstS (n : Nat) (s : Snd) (i : Nat) : ByteArray := joinS (txtL s i ((nmL n).drop i)) ⟨#[32]⟩
theorem rst_zero (n : Nat) (s : Snd) : rstS n s 0 = txtS (nmL n) s := by unfold rstS txtS; rw [List.drop_zero]
theorem rst_end (n : Nat) (s : Snd) : rstS n s n = ⟨#[]⟩ := by
  unfold rstS
  rw [List.drop_of_length_le (by rw [nmL_len]; omega)]
  rfl
theorem nmL_drop {n i : Nat} (h : i < n) : (nmL n).drop i = nmI i :: (nmL n).drop (i + 1) := by
  rw [List.drop_eq_getElem_cons (by rw [nmL_len]; exact h)]
  congr 1
  unfold nmL
  simp
theorem rst_step {n : Nat} (hn : n ≤ 24) (p m : BitVec 32) {i : Nat} (h : i < n) :
    (p.getLsbD i = true ∧ rstS n (p, m) i = joinS ((⟨#[43]⟩ ++ nmI i) :: txtL (p, m) (i + 1) ((nmL n).drop (i + 1))) ⟨#[32]⟩) ∨
    (p.getLsbD i = false ∧ m.getLsbD i = true ∧ rstS n (p, m) i = joinS ((⟨#[45]⟩ ++ nmI i) :: txtL (p, m) (i + 1) ((nmL n).drop (i + 1))) ⟨#[32]⟩) ∨
    (p.getLsbD i = false ∧ m.getLsbD i = false ∧ rstS n (p, m) i = rstS n (p, m) (i + 1)) := by
  have b1 := bit_and p i (by omega)
  have b2 := bit_and m i (by omega)
  unfold rstS
  rw [nmL_drop h]
  simp only [txtL]
  cases hp : p.getLsbD i
  · right
    rw [if_neg (by rw [b1, hp]; simp)]
    cases hm : m.getLsbD i
    · right
      rw [if_neg (by rw [b2, hm]; simp)]
      exact ⟨rfl, rfl, rfl⟩
    · left
      rw [if_pos (by rw [b2, hm])]
      exact ⟨rfl, rfl, rfl⟩
  · left
    rw [if_pos (by rw [b1, hp])]
    exact ⟨rfl, rfl⟩
theorem app_rest (y t : ByteArray) : (y ++ t).extract y.size (y ++ t).size = t := bytes_ext (by
  have e : y.size = y.data.toList.length := (len_list y).symm
  rw [ext_list, append_list, ByteArray.size_append, List.drop_left' e.symm, List.take_of_length_le (by rw [len_list]; omega)])
theorem app_has (y t : ByteArray) : hasP (y ++ t) y = true := by
  unfold hasP
  rw [Bool.and_eq_true, decide_eq_true_iff, decide_eq_true_iff]
  refine ⟨by rw [ByteArray.size_append]; omega, bytes_ext ?_⟩
  rw [ext_list, append_list, List.drop_zero, Nat.sub_zero, List.take_left' (len_list y)]
theorem join_trim (y : ByteArray) (L : List ByteArray) : ∃ z, y.size ≤ (joinS (y :: L) ⟨#[32]⟩).size ∧ hasP (joinS (y :: L) ⟨#[32]⟩) y = true ∧ (joinS (y :: L) ⟨#[32]⟩).extract y.size (joinS (y :: L) ⟨#[32]⟩).size = z ∧ z.size ≤ (joinS (y :: L) ⟨#[32]⟩).size ∧ (if hasP z ⟨#[32]⟩ = true then z.extract (⟨#[32]⟩ : ByteArray).size z.size else z) = joinS L ⟨#[32]⟩ := by
  cases L with
  | nil =>
    have e : joinS [y] ⟨#[32]⟩ = y ++ ⟨#[]⟩ := by rw [joinS_one]; exact bytes_ext (by rw [append_list]; simp)
    rw [e, app_rest]
    refine ⟨_, by rw [ByteArray.size_append]; omega, app_has _ _, rfl, Nat.zero_le _, ?_⟩
    rw [if_neg (by decide)]
    rfl
  | cons x r =>
    rw [joinS_two, app_rest]
    refine ⟨_, by rw [ByteArray.size_append]; omega, app_has _ _, rfl, by generalize (⟨#[32]⟩ : ByteArray) ++ joinS (x :: r) ⟨#[32]⟩ = u; rw [ByteArray.size_append]; omega, ?_⟩
    rw [if_pos (app_has _ _), app_rest]
theorem rst_size {n : Nat} (hn : n ≤ 24) (s : Snd) (i : Nat) : (rstS n s i).size ≤ 432 := by
  unfold rstS
  have h1 := joinS_size (txtL s i ((nmL n).drop i)) ⟨#[32]⟩ (by decide) (fun x hx => by
    obtain ⟨c, y, _, hy, rfl⟩ := txtL_form s _ _ x hx
    obtain ⟨j, _, rfl⟩ := nmL_mem (List.mem_of_mem_drop hy)
    rw [sgn_size]
    show 1 + 2 ≤ 17
    omega)
  have h2 := txtL_le s ((nmL n).drop i) i
  rw [List.length_drop, nmL_len] at h2
  omega
end Go.Proofs.Ytmgikhldkebjbaa

/-
  Lists of named sounds: copies of one's own, and their comparison.
-/
namespace Go.Proofs.Ytmgikhldkebjbaa
open Go.RowKit Go.Sort
theorem flatN_cells {w : World} {b : Nat} : ∀ (ys : List (ByteArray × Snd)) (off : Nat), (∀ i (h : i < ys.length), w.cell? ⟨b, off + i * 3, none⟩ = some (.string ys[i].1) ∧ w.cell? ⟨b, off + i * 3 + 1, none⟩ = some (.int .u32 (ys[i].2.1.toNat : Int)) ∧ w.cell? ⟨b, off + i * 3 + 2, none⟩ = some (.int .u32 (ys[i].2.2.toNat : Int))) → ∀ j u, (flatN ys)[j]? = some u → w.cell? ⟨b, off + j, none⟩ = some u
  | [], _, _, j, u, h => by simp [flatN] at h
  | y :: ys, off, hc, j, u, h => by
    obtain ⟨c0, c1, c2⟩ := hc 0 (by simp)
    simp only [Nat.zero_mul, Nat.add_zero, List.getElem_cons_zero] at c0 c1 c2
    simp only [flatN] at h
    match j, h with
    | 0, h => cases h; exact c0
    | 1, h => cases h; exact c1
    | 2, h => cases h; exact c2
    | j + 3, h =>
      have h : (flatN ys)[j]? = some u := h
      have := flatN_cells ys (off + 3) (fun i hi => by
        have := hc (i + 1) (by simpa using hi)
        simp only [List.getElem_cons_succ] at this
        rw [show off + (i + 1) * 3 = off + 3 + i * 3 from by omega] at this
        exact this) j u h
      rw [show off + (j + 3) = off + 3 + j from by omega]
      exact this
theorem flatN_one : ∀ (l : List (ByteArray × Snd)), ∀ u ∈ flatN l, u.oneCell' = true
  | [], u, h => by cases h
  | x :: l, u, h => by
    simp only [flatN, List.mem_cons] at h
    rcases h with rfl | rfl | rfl | h
    · rfl
    · rfl
    · rfl
    · exact flatN_one l u h
theorem wpList_appNs {ops : Array Oper} {rest : List Oper} {o : Oper} {a : Act} {w : World} {Q : Exit → Act → World → Prop} (hgd : o.guard = none) (s x : Operand)
    (ho : o.op = .call { callee := .builtin .append, args := #[s, x], argTypes := #[46, 46] })
    (base : Nat) (v u : Value) (xs ys : List (ByteArray × Snd)) (hs : a.eval s = v) (hx : a.eval x = u) (hown : OwnN w base v xs) (hw : Sp w u ys) (hlen : xs.length + ys.length ≤ 1000000000) (hbase : base ≤ w.heap.size)
    (h : ∀ v' w', OwnN w' base v' (xs ++ ys) → w.grownBy w' v.ownBlock → wpList Try.prog ops Q rest (a.put o.dst v') w') : wpList Try.prog ops Q (o :: rest) a w := by
  obtain ⟨i, hi, hz, hs1, hb1⟩ := info_parts infoNamed
  rcases hw with ⟨rfl, rfl⟩ | ⟨b, off, cap, rfl, hc, hm, hb, h3⟩
  · refine wpList_append_own_none hgd s x 46 ho base _ i 3 Try.underlying46 hi v xs.length (flatN xs) hs hown hx ?_
    exact h v w (by rw [List.append_nil]; exact hown) ⟨rfl, rfl, rfl, Nat.le_refl _, fun _ _ _ => rfl⟩
  · refine wpList_append_own w hgd s x 46 ho base _ i _ 3 24 Try.underlying46 hi hz hs1 hb1 rfl (by decide) v xs.length (flatN xs) hs hown ⟨b, off, none⟩ ys.length cap (flatN ys) hx (flatN_length ys) ?_ (flatN_one ys) (Nat.le_trans hlen (by decide)) (by omega) hbase ?_
    · intro j y hy
      rw [addr_addS]
      exact flatN_cells ys off h3 j y hy
    · intro v' w' ho' hg _
      refine h v' w' ?_ hg
      unfold OwnN
      rw [flatN_append, List.length_append]
      exact ho'
theorem OwnN.empty (w : World) : OwnN (w.alloc (.cells #[] 47)) w.heap.size (.slice (some ⟨w.heap.size, 0, none⟩) 0 0) [] :=
  ⟨rfl, .inr ⟨w.heap.size, 0, #[], rfl, Nat.le_refl _, World.alloc_heap_new w _, by simp, by simp, by simp, by simp [flatN]⟩⟩
set_option maxHeartbeats 1000000 in
theorem cloneN_any (l : List (ByteArray × Snd)) (v : Value) (w : World) (hl : l.length ≤ 1000000) (h : Sp w v l) : Calls Try.prog 54 #[v] w fun e w' => ∃ v', e = .returned v' ∧ OwnN w' w.heap.size v' l ∧ Below w.heap.size w w' := by
  have hnil := fun (w : World) (ao : Option Addr) (n c : Nat) => Lib.run_eql_slice_nil (P := Try.prog) w 46 47 ao n c 0 0 Try.underlying46
  have h' := h
  rcases h with ⟨rfl, rfl⟩ | ⟨b, off, cap, rfl, hx⟩
  · go_enter Try.func54, Try.ntmps54
    go_wp2
    go_returns
    exact ⟨_, rfl, ⟨rfl, .inl ⟨rfl, rfl⟩⟩, by go_grown⟩
  · have HW := Lib.hid h'; clear h' hx
    have HL := Lib.hid hl; clear hl
    have ho1 := OwnN.empty w
    go_enter Try.func54, Try.ntmps54
    go_wp2_with (at_builtin; refine wpList_appNs rfl (.tmp 5) (.tmp 6) rfl w.heap.size _ _ [] l rfl rfl ho1 (HW.out.below ((Below.refl _ w).alloc (Nat.le_refl _) _)) (by have := HL.out; simp; omega) (by go_size) ?_; intro v' w2 ho2 hg2; have hw2 := ((Below.refl w.heap.size w).alloc (Nat.le_refl _) (.cells #[] 47)).grown hg2 (by rw [World.size_alloc]; omega) (fun q e => by cases e; exact Nat.le_refl _))
    go_returns
    exact ⟨_, rfl, ho2, hw2⟩
theorem named_equal (k : ByteArray) (p m : Int) (w : World) : (Op.equal 47 (.agg #[.string k, .int .u32 p, .int .u32 m]) (.agg #[.string k, .int .u32 p, .int .u32 m])).run Try.prog w = .ok true w := by
  show (Op.equalIn 10000 _ _ _).run _ _ = _
  simp [go_sem]
theorem run_neqN (k : ByteArray) (p m : Int) (w : World) : (binOp .neq 47 (.agg #[.string k, .int .u32 p, .int .u32 m]) (.agg #[.string k, .int .u32 p, .int .u32 m])).run Try.prog w = .ok (.bool false) w := by
  simp only [binOp]
  simp [named_equal]
end Go.Proofs.Ytmgikhldkebjbaa

/-
  Lists of named sounds that are the same; Sounds; what grown's inventory holds.
-/
namespace Go.Proofs.Ytmgikhldkebjbaa
open Go.RowKit Go.Sort
theorem eqlY (a b c d : Int) (w : World) : (binOp .eql 39 (.agg #[.int .u32 a, .int .u32 b]) (.agg #[.int .u32 c, .int .u32 d])).run Try.prog w = .ok (.bool (a == c && b == d)) w := by
  simp only [binOp]
  simp [snd_equal]
theorem neqY (a b c d : Int) (w : World) : (binOp .neq 39 (.agg #[.int .u32 a, .int .u32 b]) (.agg #[.int .u32 c, .int .u32 d])).run Try.prog w = .ok (.bool (!(a == c && b == d))) w := by
  simp only [binOp]
  simp [snd_equal]
section
attribute [local go_sem ↓] run_neqN
set_option maxRecDepth 100000 in
set_option maxHeartbeats 4000000 in
theorem eqN_same (xs : List (ByteArray × Snd)) (v u : Value) (w : World) (h1 : Sp w v xs) (h2 : Sp w u xs) : Gives 26 #[v, u] w (.bool true) := by
  unfold Gives
  obtain ⟨ao, cap, rfl, c1, m1, H1⟩ := h1.open
  obtain ⟨bo, cap', rfl, c2, m2, H2⟩ := h2.open
  unfold maxLen at m1 m2
  have l1 : xs.length ≤ 9223372036854775807 := by omega
  clear h1 h2 c1 m1 c2 m2
  have H1 := Lib.hid H1; have H2 := Lib.hid H2
  go_enter Try.func26, Try.ntmps26
  go_wp2_with fail
  go_loopw [13] (fun i wr => ∃ k : Nat, k ≤ xs.length ∧ i = .int .i64 (k : Int) ∧ Below w.heap.size w wr) (fun i _ => xs.length - (intOf i).toNat)
  case atStart => exact ⟨0, by omega, rfl, Below.refl _ _⟩
  case round =>
    obtain ⟨k, hk, rfl, hw⟩ := hrel
    by_cases hlt : k < xs.length
    · obtain ⟨b, off, hao, lb, d0, d1, d2⟩ := H1.out k hlt
      obtain ⟨b', off', hbo, lb', e0, e1, e2⟩ := H2.out k hlt
      have d0 := (hw.cell (p := ⟨b, _, none⟩) lb).trans d0
      have d1 := (hw.cell (p := ⟨b, _, none⟩) lb).trans d1
      have d2 := (hw.cell (p := ⟨b, _, none⟩) lb).trans d2
      have e0 := (hw.cell (p := ⟨b', _, none⟩) lb').trans e0
      have e1 := (hw.cell (p := ⟨b', _, none⟩) lb').trans e1
      have e2 := (hw.cell (p := ⟨b', _, none⟩) lb').trans e2
      have HW := Lib.hid hw
      subst hao; subst hbo
      clear H1 H2 hw
      generalize xs[k] = x at *
      obtain ⟨sy, p, m⟩ := x
      simp only at d0 d1 d2 e0 e1 e2
      go_wp2_with fail
      go_quiet (fail)
      have HW2 := Lib.hid (below_drewN HW.out nq)
      clear HW d0 e0 d1 e1 d2 e2
      generalize wr.drewN nq = wd at *
      go_wp2_with fail
      go_roundw
      case rel => exact ⟨k + 1, by omega, by go_num, HW2.out⟩
      case measure => simp [intOf]; omega
    · obtain rfl : k = xs.length := by omega
      go_wp2_with fail
      go_returns
      exact ⟨rfl, hw⟩
end
theorem sounds_any {w : World} {base B : Nat} {l : List ByteArray} {a : List (ByteArray × Snd)} {nv av : Value} {bf bs by_ : Nat} (h : Inv w base B l a nv av bf bs by_) (ha : a.length ≤ 256) : Calls Try.prog 27 #[.pointer (some ⟨B, 0, none⟩)] w fun e w' => ∃ v', e = .returned v' ∧ OwnN w' w.heap.size v' a ∧ Below w.heap.size w w' := by
  have hv := valid_yes B w h.cells.1
  have hcl := fun (W : World) (hb : Below w.heap.size w W) => cloneN_any a av W (by omega) (h.below hb).added.sp
  obtain ⟨ao, ac, hnv⟩ := h.added.slice
  subst hnv
  have hc := fun (W : World) (hb : Below w.heap.size w W) => (h.below hb).cells.2.2.2.1
  have HV := Lib.hid hv; have HCL := Lib.hid hcl; have HC := Lib.hid hc
  clear h hv hcl hc
  go_enter Try.func27, Try.ntmps27
  go_wp2_with fail
  go_at_call 44
  refine Gives.then HV.out ?_
  intro w1 hb
  have c1 := HC.out w1 hb
  have HB := Lib.hid hb
  clear hb
  go_wp2_with fail
  go_at_call 54
  refine (HCL.out w1 HB.out).mono ?_
  rintro e w2 ⟨v2, rfl, ho, hb2⟩
  obtain ⟨a2, c2, rfl⟩ := ho.slice
  have HO : Hid (OwnN w2 w.heap.size (.slice a2 a.length c2) a) := Lib.hid (ho.mono HB.out.size)
  have HW := Lib.hid (HB.out.trans (hb2.mono HB.out.size))
  clear ho hb2
  go_wp2_with fail
  go_returns
  exact ⟨_, rfl, HO.out, HW.out⟩
/-- No symbol twice, and no sound. -/
def Uniq (a : List (ByteArray × Snd)) : Prop := ∀ i j (h : i < j) (hj : j < a.length), (a[i]'(by omega)).1 ≠ a[j].1 ∧ (a[i]'(by omega)).2 ≠ a[j].2
theorem sndOf_not {a : List (ByteArray × Snd)} {k : ByteArray} (h : (sndOf a k).isSome = false) : ∀ x ∈ a, k ≠ x.1 := fun x hx e => by rw [sndOf_some ⟨x, hx, e⟩] at h; cases h
theorem symOf_not {a : List (ByteArray × Snd)} {s : Snd} (h : (symOf a s).isSome = false) : ∀ x ∈ a, s ≠ x.2 := fun x hx e => by rw [symOf_some ⟨x, hx, e⟩] at h; cases h
theorem addE_new {l : List ByteArray} {a : List (ByteArray × Snd)} {k : ByteArray} {s : Snd} (h : addE l a k s = 0) : (sndOf a k).isSome = false ∧ (symOf a s).isSome = false := by
  unfold addE at h
  split at h
  · cases h
  · split at h
    · cases h
    · split at h
      · cases h
      · rename_i h3
        cases h1 : (sndOf a k).isSome <;> cases h2 : (symOf a s).isSome <;> simp [h1, h2] at h3 ⊢
theorem grw_uniq : ∀ (l a : List (ByteArray × Snd)), Uniq a → Uniq (grw a l)
  | [], _, h => h
  | x :: l, a, h => by
    simp only [grw]
    refine grw_uniq l _ ?_
    split
    · rename_i h0
      obtain ⟨n1, n2⟩ := addE_new h0
      intro i j hij hj
      rw [List.length_append, List.length_singleton] at hj
      by_cases e : j < a.length
      · rw [List.getElem_append_left (show i < a.length by omega), List.getElem_append_left e]
        exact h i j hij e
      · have e2 : j = a.length := by omega
        subst e2
        rw [List.getElem_append_left (show i < a.length by omega), List.getElem_append_right (Nat.le_refl _)]
        simp only [Nat.sub_self, List.getElem_cons_zero]
        exact ⟨Ne.symm (sndOf_not n1 _ (List.getElem_mem _)), Ne.symm (symOf_not n2 _ (List.getElem_mem _))⟩
    · exact h
/-- A sound that is there is found. -/
theorem uniq_snd {a : List (ByteArray × Snd)} (h : Uniq a) {k : Nat} (hk : k < a.length) : sndOf a a[k].1 = some a[k].2 := by
  unfold sndOf
  have hf : (a.find? fun x => decide (a[k].1 = x.1)) = some a[k] := by
    rw [List.find?_eq_some_iff_getElem]
    refine ⟨by simp, k, hk, rfl, fun j hj => ?_⟩
    have := (h j k hj hk).1
    simpa using Ne.symm this
  rw [hf]; rfl
theorem uniq_sym {a : List (ByteArray × Snd)} (h : Uniq a) {k : Nat} (hk : k < a.length) : symOf a a[k].2 = some a[k].1 := by
  unfold symOf
  have hf : (a.find? fun x => decide (a[k].2 = x.2)) = some a[k] := by
    rw [List.find?_eq_some_iff_getElem]
    refine ⟨by simp, k, hk, rfl, fun j hj => ?_⟩
    have := (h j k hj hk).2
    simpa using Ne.symm this
  rw [hf]; rfl
theorem addE_have {l : List ByteArray} {a : List (ByteArray × Snd)} {k : ByteArray} {s : Snd} (h : ((sndOf a k).isSome || (symOf a s).isSome) = true) : addE l a k s ≠ 0 := fun h0 => by
  obtain ⟨h1, h2⟩ := addE_new h0
  rw [h1, h2] at h; cases h
theorem any_take {α : Type} {p : α → Bool} {l : List α} {k : Nat} (hk : k < l.length) : (l.take (k + 1)).any p = ((l.take k).any p || p l[k]) := by
  rw [List.take_succ_eq_append_getElem hk, List.any_append]; simp
theorem snd_any (a : List (ByteArray × Snd)) (k : ByteArray) : (sndOf a k).isSome = a.any fun x => decide (x.1 = k) := by
  unfold sndOf
  rw [Option.isSome_map, Bool.eq_iff_iff, List.find?_isSome, List.any_eq_true]
  simp [eq_comm]
theorem sym_any (a : List (ByteArray × Snd)) (s : Snd) : (symOf a s).isSome = a.any fun x => decide (x.2 = s) := by
  unfold symOf
  rw [Option.isSome_map, Bool.eq_iff_iff, List.find?_isSome, List.any_eq_true]
  simp [eq_comm]
end Go.Proofs.Ytmgikhldkebjbaa

/-
  InventoryBack: the walk.
-/
namespace Go.Proofs.Ytmgikhldkebjbaa
open Go.RowKit Go.Shelf Go.Sort
set_option maxRecDepth 100000 in
set_option maxHeartbeats 8000000 in
theorem back_any (c : Nat) (hc : c ≤ 255) (p0 m0 : BitVec 32) (w : World) : Gives 8 #[.int .u8 (c : Int), .agg #[.int .u32 (p0.toNat : Int), .int .u32 (m0.toNat : Int)]] w (.bool true) := by
  unfold Gives
  obtain ⟨n, hn⟩ : ∃ n, c % 25 = n := ⟨_, rfl⟩
  have hn24 : n ≤ 24 := by omega
  have c1 : (c : Int) % 25 = (n : Int) := by omega
  have c2 : Int.tmod (c : Int) 25 = (n : Int) := by rw [Int.tmod_eq_emod_of_nonneg (by omega)]; omega
  have hN := fun W => numbered_any n hn24 W
  have hK := fun W => clean_any p0 m0 n hn24 W
  have hhas := clean_has n p0 m0
  generalize clP n p0 = p at *
  generalize clM n p0 m0 = m at *
  have HN := Lib.hid hN; have HK := Lib.hid hK; have HH := Lib.hid hhas
  have hb0 := (Below.refl w.heap.size w).alloc (Nat.le_refl _) (.cells #[.int .u32 (p0.toNat : Int), .int .u32 (m0.toNat : Int)] 39)
  have k0 := cell_block (World.alloc_heap_new w (.cells #[.int .u32 (p0.toNat : Int), .int .u32 (m0.toNat : Int)] 39)) (o := 0) rfl
  have k1 := cell_block (World.alloc_heap_new w (.cells #[.int .u32 (p0.toNat : Int), .int .u32 (m0.toNat : Int)] 39)) (o := 1) rfl
  clear hN hK hhas hn
  go_enter Try.func8, Try.ntmps8
  go_wp2_with fail
  go_at_call 37
  refine (HN.out _).mono ?_
  rintro e w1 ⟨hb1, B, nv, bf, bs, by_, lv, rfl, hI, ho⟩
  have hw1 := hb0.trans (hb1.mono hb0.size)
  have r0 := (hb1.cell (p := ⟨w.heap.size, 0, none⟩) (by simp)).trans k0
  have r1 := (hb1.cell (p := ⟨w.heap.size, 1, none⟩) (by simp)).trans k1
  have f0 := (hb1.frozen (p := ⟨w.heap.size, 0, none⟩) (by simp)).trans (frozen_block (World.alloc_heap_new w _))
  have f1 := (hb1.frozen (p := ⟨w.heap.size, 1, none⟩) (by simp)).trans (frozen_block (World.alloc_heap_new w _))
  have lw : w.heap.size < w1.heap.size := by have := hb1.size; rw [World.size_alloc] at this; omega
  rw [World.size_alloc] at hI ho
  obtain ⟨al, cl, hlv, -, -, -⟩ := ho.ss.open
  rw [nmL_len] at hlv
  subst hlv
  have HI1 := Lib.hid hI; have HO1 := Lib.hid ho; have HW1 := Lib.hid hw1
  clear hI ho hw1 hb1 k0 k1 hb0 HN
  go_wp2_with fail
  go_at_call 38
  refine Gives.then (HK.out _) ?_
  intro w2 hb2
  have r0 := (hb2.cell (p := ⟨w.heap.size, 0, none⟩) lw).trans r0
  have r1 := (hb2.cell (p := ⟨w.heap.size, 1, none⟩) lw).trans r1
  have f0 := (hb2.frozen (p := ⟨w.heap.size, 0, none⟩) lw).trans f0
  have f1 := (hb2.frozen (p := ⟨w.heap.size, 1, none⟩) lw).trans f1
  have lw := Nat.lt_of_lt_of_le lw hb2.size
  have HI2 := Lib.hid (HI1.out.below hb2); have HO2 := Lib.hid (HO1.out.below hb2); have HW2 := Lib.hid (HW1.out.trans (hb2.mono HW1.out.size))
  clear hb2 HI1 HO1 HW1 HK
  go_wp2_with fail
  obtain ⟨w3, h3⟩ : ∃ x, x = ((w2.setCell ⟨w.heap.size, 0, none⟩ (.int .u32 (p.toNat : Int))).setCell ⟨w.heap.size, 1, none⟩ (.int .u32 (m.toNat : Int))) := ⟨_, rfl⟩
  have hg1 := set_grown w2 w.heap.size 0 (.int .u32 (p.toNat : Int))
  have hg2 := set_grown (w2.setCell ⟨w.heap.size, 0, none⟩ (.int .u32 (p.toNat : Int))) w.heap.size 1 (.int .u32 (m.toNat : Int))
  have hab : Above (w.heap.size + 1) w2 w3 := by
    rw [h3]
    exact fun k q1 q2 => (above_grown hg2 (fun k e => by cases e; omega) k q1 (Nat.lt_of_lt_of_le q2 hg1.size)).trans (above_grown hg1 (fun k e => by cases e; omega) k q1 q2)
  have e0 : w3.cell? ⟨w.heap.size, 0, none⟩ = some (.int .u32 (p.toNat : Int)) := by rw [h3]; go_cell
  have e1 : w3.cell? ⟨w.heap.size, 1, none⟩ = some (.int .u32 (m.toNat : Int)) := by rw [h3]; go_cell
  have hw3 : Below w.heap.size w w3 := by rw [h3]; exact (HW2.out.setCell (p := ⟨w.heap.size, 0, none⟩) (Nat.le_refl _) _).setCell (p := ⟨w.heap.size, 1, none⟩) (Nat.le_refl _) _
  have lw3 : w.heap.size < w3.heap.size := by rw [h3]; exact Nat.lt_of_lt_of_le (Nat.lt_of_lt_of_le lw hg1.size) hg2.size
  have hI3 := HI2.out.above hab
  have hO3 : OwnS w3 (w.heap.size + 1) (.slice al n cl) (nmL n) := row_above HO2.out hab
  rw [← h3]
  obtain ⟨T, hT⟩ : ∃ T, txtS (nmL n) (p, m) = T := ⟨_, rfl⟩
  have hTs : T.size ≤ 432 := by rw [← hT, ← rst_zero]; exact rst_size hn24 _ 0
  have hr0 : rstS n (p, m) 0 = T := (rst_zero n (p, m)).trans hT
  have hl24 : (nmL n).length ≤ 24 := by rw [nmL_len]; exact hn24
  have hhb : hasB (nmL n).length (p, m) = true := by rw [nmL_len]; exact HH.out
  have htx := text_any hI3 hl24 (p, m) hhb (fun x hx => by
    obtain ⟨i, _, rfl⟩ := nmL_mem hx
    show (2 : Nat) ≤ 1000
    omega) (by rw [hT]; omega)
  rw [hT] at htx
  unfold snv at htx
  have hbk : bunS (nmL n) T = some (p, m) := by rw [← hT]; exact back_text hn24 hhb
  have hbt : ∀ i (hi : i < T.data.toList.length), (bunS (nmL n) (T.extract 0 i)).isSome = decide (i = 0 ∨ T.data.toList[i] = 32) := by
    subst hT
    exact fun i hi => back_take hn24 hhb i hi
  have hBu : ∀ (W : World) (u : ByteArray), Below w3.heap.size w3 W → u.size ≤ 432 → Gives 29 #[.pointer (some ⟨B, 0, none⟩), .string u] W (bunV (bunS (nmL n) u)) := fun W u hb hu => bundle_any (hI3.below hb) hl24 u (by omega)
  have HTX := Lib.hid htx; have HBK := Lib.hid hbk; have HBT := Lib.hid hbt; have HBU := Lib.hid hBu; have HO3 := Lib.hid hO3; have HW3 := Lib.hid hw3; have HR0 := Lib.hid hr0
  clear htx hbk hbt hBu hO3 hw3 hI3 hr0 hT hab hg1 hg2 h3 r0 r1 f0 f1 lw HI2 HO2 HW2 hhb hl24
  refine Gives.then HTX.out ?_
  intro w4 hb4
  have r0 := (hb4.cell (p := ⟨w.heap.size, 0, none⟩) lw3).trans e0
  have r1 := (hb4.cell (p := ⟨w.heap.size, 1, none⟩) lw3).trans e1
  have lw4 := Nat.lt_of_lt_of_le lw3 hb4.size
  have HB4 := Lib.hid hb4
  clear hb4 e0 e1 HTX lw3
  have hbu := HBU.out w4 T HB4.out hTs
  rw [HBK.out] at hbu
  unfold bunV snv at hbu
  have HBu := Lib.hid hbu
  clear hbu HBK
  go_wp2_with fail
  go_at_call 29
  refine Gives.then HBu.out ?_
  intro w5 hb5
  have r0 := (hb5.cell (p := ⟨w.heap.size, 0, none⟩) lw4).trans r0
  have r1 := (hb5.cell (p := ⟨w.heap.size, 1, none⟩) lw4).trans r1
  have lw5 := Nat.lt_of_lt_of_le lw4 hb5.size
  have hb35 := HB4.out.trans (hb5.mono HB4.out.size)
  have hb6 := hb35.alloc hb35.size (.cells #[.int .u32 (p.toNat : Int), .int .u32 (m.toNat : Int)] 39)
  have t0 := fun X => cell_past (X := X) lw5 r0
  have t1 := fun X => cell_past (X := X) lw5 r1
  have s0 := cell_block (World.alloc_heap_new w5 (.cells #[.int .u32 (p.toNat : Int), .int .u32 (m.toNat : Int)] 39)) (o := 0) rfl
  have s1 := cell_block (World.alloc_heap_new w5 (.cells #[.int .u32 (p.toNat : Int), .int .u32 (m.toNat : Int)] 39)) (o := 1) rfl
  have g3 := fun W => neqY (p.toNat : Int) (m.toNat : Int) (p.toNat : Int) (m.toNat : Int) W
  have g2 : (!((p.toNat : Int) == (p.toNat : Int) && (m.toNat : Int) == (m.toNat : Int))) = false := by simp
  rw [g2] at g3
  have HB6 := Lib.hid hb6
  clear hb5 hb35 hb6 g2 HB4 HBu lw4
  go_wp2_with fail
  refine wp_gen ?_
  intro w6 hw6
  have r0 := t0 (.cells #[.int .u32 (p.toNat : Int), .int .u32 (m.toNat : Int)] 39)
  have r1 := t1 (.cells #[.int .u32 (p.toNat : Int), .int .u32 (m.toNat : Int)] 39)
  rw [← hw6] at HB6 r0 r1
  have lw6 : w.heap.size < w6.heap.size := by rw [hw6, World.size_alloc]; omega
  obtain ⟨_, _, hv2, hle1, hle2, hcells⟩ := HO3.out.ss.open
  rw [nmL_len] at hv2 hle1
  cases hv2
  have hc6 : ∀ i, i < n → ∃ b off, al = some ⟨b, off, none⟩ ∧ b < w6.heap.size ∧ w6.cell? ⟨b, off + i, none⟩ = some (.string (nmI i)) := fun i hi => by
    obtain ⟨b, off, q1, q2, q3⟩ := hcells i (by rw [nmL_len]; exact hi)
    refine ⟨b, off, q1, Nat.lt_of_lt_of_le q2 HB6.out.size, (HB6.out.cell (p := ⟨b, _, none⟩) q2).trans (q3.trans ?_)⟩
    congr 2
    unfold nmL
    simp
  have HC := Lib.hid hc6
  have HLE := Lib.hid (show n ≤ cl ∧ cl ≤ maxLen from ⟨hle1, hle2⟩)
  clear hw6 t0 t1 s0 s1 g3 lw5 hcells hc6 HO3 c1 c2 f0 f1 lw
  rw [← HR0.out]
  go_loopw [12, 56] (fun v i wr => ∃ k : Nat, k ≤ n ∧ i = .int .i64 (k : Int) ∧ v = .string (rstS n (p, m) k) ∧ Below w6.heap.size w6 wr) (fun _ i _ => n - (intOf i).toNat)
  case atStart => exact ⟨0, Nat.zero_le _, rfl, rfl, Below.refl _ _⟩
  case round =>
    obtain ⟨k, hk, rfl, rfl, hw⟩ := hrel
    rw [HR0.out] at *
    have HW := Lib.hid hw
    clear hw
    by_cases hlt : k < n
    · obtain ⟨b, off, hao, lb, d0⟩ := HC.out k hlt
      have d00 := Lib.hid d0
      have d0 := (HW.out.cell (p := ⟨b, _, none⟩) lb).trans d0
      have q0 := (HW.out.cell (p := ⟨w.heap.size, 0, none⟩) lw6).trans r0
      have q1 := (HW.out.cell (p := ⟨w.heap.size, 1, none⟩) lw6).trans r1
      subst hao
      have hRs := rst_size hn24 (p, m) k
      have bp := shr_bit p k
      have bm := shr_bit m k
      have hx2 : (nmI k).size = 2 := rfl
      have key : ∀ (c : UInt8), rstS n (p, m) k = joinS ((⟨#[c]⟩ ++ nmI k) :: txtL (p, m) (k + 1) ((nmL n).drop (k + 1))) ⟨#[32]⟩ → 3 ≤ (rstS n (p, m) k).size ∧ (∀ W, Gives 39 #[.string (rstS n (p, m) k), .string (⟨#[c]⟩ ++ nmI k)] W (.bool true)) ∧ ∀ W, Gives 40 #[.string ((rstS n (p, m) k).extract 3 (rstS n (p, m) k).size), .string ⟨#[32]⟩] W (.string (rstS n (p, m) (k + 1))) := fun c hR => by
        obtain ⟨z, j1, j2, j3, j4, j5⟩ := join_trim (⟨#[c]⟩ ++ nmI k) (txtL (p, m) (k + 1) ((nmL n).drop (k + 1)))
        rw [← hR] at j1 j2 j3 j4
        have hy : (⟨#[c]⟩ ++ nmI k : ByteArray).size = 3 := sgn_size c (nmI k)
        have hhp := fun W => hasP_any (rstS n (p, m) k) (⟨#[c]⟩ ++ nmI k) (by omega) (by omega) W
        rw [j2] at hhp
        have htr := fun W => trimp_any z ⟨#[32]⟩ (by omega) (by decide) W
        rw [j5] at htr
        rw [hy] at j1 j3
        rw [← j3] at htr
        exact ⟨j1, hhp, htr⟩
      rcases rst_step hn24 p m hlt with ⟨hp, hR⟩ | ⟨hp, hm, hR⟩ | ⟨hp, hm, hR⟩
      · obtain ⟨j1, j2, j4⟩ := key 43 hR
        rw [hp, if_pos rfl] at bp
        have J2 := Lib.hid j2; have J4 := Lib.hid j4
        clear key bm hR hp j2 j4
        obtain ⟨R', hRR⟩ : ∃ R', rstS n (p, m) (k + 1) = R' := ⟨_, rfl⟩
        rw [hRR] at J4
        have HRR := Lib.hid hRR
        clear hRR
        go_wp2_with fail
        go_at_call 39
        refine Gives.then (J2.out _) ?_
        intro w7 hb7
        have HW7 := Lib.hid (HW.out.trans (hb7.mono HW.out.size))
        have d0 := (HW7.out.cell (p := ⟨b, _, none⟩) lb).trans d00.out
        clear hb7 J2
        go_wp2_with fail
        go_at_call 40
        refine Gives.then (J4.out _) ?_
        intro w8 hb8
        have HW8 := Lib.hid (HW7.out.trans (hb8.mono HW7.out.size))
        clear hb8 J4
        go_wp2_with fail
        go_roundw
        case rel => exact ⟨k + 1, by omega, by go_num, by first | rfl | (rw [HRR.out]), HW8.out⟩
        case measure => simp [intOf]; omega
      · obtain ⟨j1, j2, j4⟩ := key 45 hR
        rw [hp, if_neg (by decide)] at bp
        rw [hm, if_pos rfl] at bm
        have J2 := Lib.hid j2; have J4 := Lib.hid j4
        clear key hR hp hm j2 j4
        obtain ⟨R', hRR⟩ : ∃ R', rstS n (p, m) (k + 1) = R' := ⟨_, rfl⟩
        rw [hRR] at J4
        have HRR := Lib.hid hRR
        clear hRR
        go_wp2_with fail
        go_at_call 39
        refine Gives.then (J2.out _) ?_
        intro w7 hb7
        have HW7 := Lib.hid (HW.out.trans (hb7.mono HW.out.size))
        have d0 := (HW7.out.cell (p := ⟨b, _, none⟩) lb).trans d00.out
        clear hb7 J2
        go_wp2_with fail
        go_at_call 40
        refine Gives.then (J4.out _) ?_
        intro w8 hb8
        have HW8 := Lib.hid (HW7.out.trans (hb8.mono HW7.out.size))
        clear hb8 J4
        go_wp2_with fail
        go_roundw
        case rel => exact ⟨k + 1, by omega, by go_num, by first | rfl | (rw [HRR.out]), HW8.out⟩
        case measure => simp [intOf]; omega
      · rw [hp, if_neg (by decide)] at bp
        rw [hm, if_neg (by decide)] at bm
        clear key hp hm
        have HR := Lib.hid hR
        clear hR
        go_wp2_with fail
        go_roundw
        case rel => exact ⟨k + 1, by omega, by go_num, by rw [HR.out], HW.out⟩
        case measure => simp [intOf]; omega
    · obtain rfl : k = n := by omega
      have hend := rst_end k (p, m)
      rw [hend]
      clear hend
      have hTI : (T.size : Int) ≤ 9223372036854775807 := by omega
      go_wp2_with fail
      go_loopw [93] (fun i wr2 => ∃ q : Nat, q ≤ T.size ∧ i = .int .i64 (q : Int) ∧ Below w6.heap.size w6 wr2) (fun i _ => T.size - (intOf i).toNat)
      case atStart => exact ⟨0, Nat.zero_le _, rfl, HW.out⟩
      case round =>
        obtain ⟨q, hq, rfl, hw⟩ := hrel
        clear HW HC
        have HW := Lib.hid hw
        clear hw
        by_cases hlt2 : q < T.size
        · have hql : q < T.data.toList.length := by rw [len_list]; exact hlt2
          have hbt := HBT.out q hql
          obtain ⟨d, hd⟩ : ∃ d, T.data.toList[q] = d := ⟨_, rfl⟩
          have hbd : ∀ h, T[q]'h = d := by intro h; exact hd
          rw [hd] at hbt
          have hbu := HBU.out wr (T.extract 0 q) (HB6.out.trans (HW.out.mono HB6.out.size)) (by rw [ByteArray.size_extract]; omega)
          have hzr := HW.out.size
          cases hbs : bunS (nmL k) (T.extract 0 q) with
          | some r =>
            rw [hbs] at hbt hbu
            unfold bunV snv at hbu
            have hbt : decide (q = 0 ∨ d = 32) = true := hbt.symm
            have HBu := Lib.hid hbu
            clear hbu hbs hd hql
            go_wp2_with fail
            go_at_call 29
            refine Gives.then HBu.out ?_
            intro w7 hb7
            have hz7 := hb7.size
            have HW7 := Lib.hid ((HW.out.trans (hb7.mono HW.out.size)).alloc (Nat.le_trans hzr hz7) (.cells #[.int .u32 (r.1.toNat : Int), .int .u32 (r.2.toNat : Int)] 39))
            clear hb7 HBu
            by_cases h0 : q = 0
            · have y1 : ((q : Int) == 0) = true := by subst h0; rfl
              have y2 : (q == 0) = true := by subst h0; rfl
              have y3 : decide (q = 0) = true := decide_eq_true h0
              have H0 := Lib.hid h0
              clear hbt h0
              go_wp2_with fail
              go_roundw
              case rel => exact ⟨q + 1, by omega, by go_num, HW7.out⟩
              case measure => simp [intOf]; omega
            · have hd32 : d = 32 := (of_decide_eq_true hbt).resolve_left h0
              have y1 : ((q : Int) == 0) = false := by rw [Bool.eq_false_iff]; intro e; have := beq_iff_eq.1 e; omega
              have y2 : (q == 0) = false := by rw [Bool.eq_false_iff]; intro e; exact h0 (beq_iff_eq.1 e)
              have y3 : decide (q = 0) = false := decide_eq_false h0
              subst hd32
              clear hbt h0
              go_wp2_with fail
              go_roundw
              case rel => exact ⟨q + 1, by omega, by go_num, HW7.out⟩
              case measure => simp [intOf]; omega
          | none =>
            rw [hbs] at hbt hbu
            unfold bunV snv at hbu
            have hbt : decide (q = 0 ∨ d = 32) = false := hbt.symm
            have hno := of_decide_eq_false hbt
            have h0 : q ≠ 0 := fun e => hno (.inl e)
            have hd32 : d ≠ 32 := fun e => hno (.inr e)
            have y1 : ((q : Int) == 0) = false := by rw [Bool.eq_false_iff]; intro e; have := beq_iff_eq.1 e; omega
            have y2 : (q == 0) = false := by rw [Bool.eq_false_iff]; intro e; exact h0 (beq_iff_eq.1 e)
            have y3 : decide (q = 0) = false := decide_eq_false h0
            have hdn : d.toNat ≠ 32 := fun e => hd32 (UInt8.toNat_inj.1 e)
            have y4 : ((d.toNat : Int) == 32) = false := by rw [Bool.eq_false_iff]; intro e; have := beq_iff_eq.1 e; omega
            have y5 : (d.toNat == 32) = false := by rw [Bool.eq_false_iff]; intro e; exact hdn (beq_iff_eq.1 e)
            have HBu := Lib.hid hbu
            clear hbu hbs hd hql hbt hno h0 hd32 hdn
            go_wp2_with fail
            go_at_call 29
            refine Gives.then HBu.out ?_
            intro w7 hb7
            have hz7 := hb7.size
            have HW7 := Lib.hid ((HW.out.trans (hb7.mono HW.out.size)).alloc (Nat.le_trans hzr hz7) (.cells #[.int .u32 ((0#32).toNat : Int), .int .u32 ((0#32).toNat : Int)] 39))
            clear hb7 HBu
            go_wp2_with fail
            go_roundw
            case rel => exact ⟨q + 1, by omega, by go_num, HW7.out⟩
            case measure => simp [intOf]; omega
        · obtain rfl : q = T.size := by omega
          have hfin := HW3.out.trans ((HB6.out.trans (HW.out.mono HB6.out.size)).mono HW3.out.size)
          have HFIN := Lib.hid hfin
          clear hfin
          go_wp2_with (go_at_call 14; refine Gives.then (works_any _) ?_; intro w8 hb8)
          go_returns
          exact ⟨rfl, HFIN.out.trans (hb8.mono HFIN.out.size)⟩
end Go.Proofs.Ytmgikhldkebjbaa
