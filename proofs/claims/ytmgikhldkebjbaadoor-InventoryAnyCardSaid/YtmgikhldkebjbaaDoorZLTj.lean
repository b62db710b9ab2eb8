/-
  Lemmas that the theorem of this claim rests on: 12 texts, one behind the other.
-/
import Derived.Test.YtmgikhldkebjbaaDoorProg
import Derived.Shelf.SlicesE.Reverse
import Derived.Test.YtmgikhldkebjbaaDoorM4
import Derived.Test.YtmgikhldkebjbaaDoorM3
import Derived.Test.YtmgikhldkebjbaaDoorM5
import Derived.Shelf.Strings.Split
import Derived.Shelf.LaysM
import Derived.Test.YtmgikhldkebjbaaDoorM2
import Derived.Deep.RegionLaw
import Derived.Deep.RegionHeld3
import Derived.Shelf.Strings.PiecesUse

/-
  The library's contract of slices.Reverse, laid at this program's own numbers (a plain text).
-/
namespace Go.Proofs.YtmgikhldkebjbaaDoor
open Go.Shelf Go.Proofs
def TrydRevL_ren : Go.Shelf.Ren := ⟨fun | 35 => 12 | n => n, fun | 22 => 26 | 23 => 9 | 3 => 3 | 4 => 4 | 0 => 0 | n => n, fun | n => n⟩
theorem TrydRevL : SlLaysE.n35 Tryd.prog TrydRevL_ren := {
  mixed := by kernel_rfl,
  f35 := ⟨Tryd.f12.name, by decide, Tryd.func12.trans (congrArg some (by kernel_rfl))⟩,
  t0 := Tryd.underlying0,
  a0 := Tryd.isAgg0,
  z0 := Tryd.sizeOf0,
  v0 := Tryd.zeroValue0,
  t3 := Tryd.underlying3,
  a3 := Tryd.isAgg3,
  z3 := Tryd.sizeOf3,
  v3 := Tryd.zeroValue3,
  t4 := Tryd.underlying4,
  a4 := Tryd.isAgg4,
  z4 := Tryd.sizeOf4,
  v4 := Tryd.zeroValue4,
  t22 := Tryd.underlying26,
  a22 := Tryd.isAgg26,
  z22 := Tryd.sizeOf26,
  v22 := Tryd.zeroValue26,
  a23 := Tryd.isAgg9,
  z23 := Tryd.sizeOf9 }
end Go.Proofs.YtmgikhldkebjbaaDoor

/-
  InventoryBack: the items of a text; what stands before a place of it.
-/
namespace Go.Proofs.YtmgikhldkebjbaaDoor
open Go.RowKit Go.Shelf Go.Sort
theorem ljoin_two (x y : List UInt8) (r : List (List UInt8)) : Lib.join (x :: y :: r) [32] = x ++ 32 :: Lib.join (y :: r) [32] := by
  rw [Lib.join_cons, Lib.join_cons]
  simp [Lib.joinTail]
/-- What stands before a place of a text of items: whole items, if a space is there; else the last one of them is not whole. -/
theorem join_take : ∀ (L : List (List UInt8)), (∀ x ∈ L, ∀ c ∈ x, c ≠ 32) → ∀ i, (h : i < (Lib.join L [32]).length) →
    ((Lib.join L [32])[i] = 32 ∧ ∃ k, 1 ≤ k ∧ k < L.length ∧ (Lib.join L [32]).take i = Lib.join (L.take k) [32]) ∨
    ((Lib.join L [32])[i] ≠ 32 ∧ ∃ k, ∃ (hk : k < L.length), ∃ j, j < L[k].length ∧ (Lib.join L [32]).take i = Lib.join (L.take k ++ [L[k].take j]) [32] ∧ (i = 0 ↔ k = 0 ∧ j = 0))
  | [], _, i, h => by simp [Lib.join, List.intercalate] at h
  | [x], hx, i, h => by
    rw [Lib.join_one] at h
    right
    simp only [Lib.join_one]
    exact ⟨hx x (by simp) _ (List.getElem_mem h), 0, by simp, i, h, by simp [Lib.join_one], by simp⟩
  | x :: y :: r, hx, i, h => by
    have ih := join_take (y :: r) (fun z hz => hx z (by simp [hz]))
    simp only [ljoin_two] at h ⊢
    simp only [List.length_append, List.length_cons] at h
    rcases Nat.lt_trichotomy i x.length with h1 | h1 | h1
    · right
      refine ⟨?_, 0, by simp, i, h1, ?_, by simp⟩
      · rw [List.getElem_append_left h1]
        exact hx x (by simp) _ (List.getElem_mem h1)
      · rw [List.take_append_of_le_length (by omega)]
        simp [Lib.join_one]
    · left
      subst h1
      refine ⟨by simp, 1, by omega, by simp, ?_⟩
      rw [List.take_append_of_le_length (by omega)]
      simp [Lib.join_one]
    · obtain ⟨q, rfl⟩ : ∃ q, i = x.length + 1 + q := ⟨i - x.length - 1, by omega⟩
      have hq : q < (Lib.join (y :: r) [32]).length := by omega
      have e1 : (x ++ 32 :: Lib.join (y :: r) [32])[x.length + 1 + q]'(by simp; omega) = (Lib.join (y :: r) [32])[q] := by
        rw [List.getElem_append_right (by omega)]
        have e : x.length + 1 + q - x.length = q + 1 := by omega
        simp only [e, List.getElem_cons_succ]
      have e2 : (x ++ 32 :: Lib.join (y :: r) [32]).take (x.length + 1 + q) = x ++ 32 :: (Lib.join (y :: r) [32]).take q := by
        rw [List.take_append, List.take_of_length_le (by omega)]
        have e : x.length + 1 + q - x.length = q + 1 := by omega
        rw [e, List.take_succ_cons]
      rw [e1, e2]
      rcases ih q hq with ⟨h2, k, hk1, hk2, ht⟩ | ⟨h2, k, hk, j, hj, ht, hz⟩
      · refine .inl ⟨h2, k + 1, by omega, by simp at hk2 ⊢; omega, ?_⟩
        rw [ht]
        obtain ⟨k', rfl⟩ : ∃ k', k = k' + 1 := ⟨k - 1, by omega⟩
        simp only [List.take_succ_cons]
        rw [ljoin_two]
      · refine .inr ⟨h2, k + 1, by simp at hk ⊢; omega, j, by simpa using hj, ?_, by constructor <;> intro h' <;> omega⟩
        rw [ht]
        simp only [List.take_succ_cons, List.getElem_cons_succ, List.cons_append]
        cases k with
        | zero => simp only [List.take_zero, List.nil_append]; rw [ljoin_two]
        | succ k' => simp only [List.take_succ_cons, List.cons_append]; rw [ljoin_two]

/-- No space in a text. -/
def NoSp (x : ByteArray) : Prop := ∀ c ∈ x.data.toList, c ≠ 32
theorem spI_no {x : ByteArray} (h : NoSp x) : spI x = -1 := ib_no 32 _ (fun j hj => h _ (List.getElem_mem hj))
theorem joinS_two (x y : ByteArray) (r : List ByteArray) : joinS (x :: y :: r) ⟨#[32]⟩ = x ++ (⟨#[32]⟩ ++ joinS (y :: r) ⟨#[32]⟩) := bytes_ext (by
  rw [joinS_list, append_list, append_list, joinS_list]
  simp only [List.map_cons]
  exact ljoin_two _ _ _)
theorem spI_two {x t : ByteArray} (h : NoSp x) : spI (x ++ (⟨#[32]⟩ ++ t)) = x.size := by
  unfold spI
  rw [append_list, append_list]
  have e : x.size = x.data.toList.length := by rw [Array.length_toList]; rfl
  rw [e]
  refine ib_at 32 _ _ (by simp) ?_ (fun j hj => ?_)
  · simp
  · rw [List.getElem_append_left hj]
    exact h _ (List.getElem_mem hj)
theorem todo_join : ∀ (L : List ByteArray), (∀ x ∈ L, NoSp x) → L ≠ [] → todo (joinS L ⟨#[32]⟩) true = L
  | [], _, h => absurd rfl h
  | [x], hx, _ => by
    rw [joinS_one, todo_true]
    have h := spI_no (hx x (by simp))
    unfold cutA cutC
    rw [h]
    simp [todo_false]
  | x :: y :: r, hx, _ => by
    have ih := todo_join (y :: r) (fun z hz => hx z (by simp [hz])) (by simp)
    rw [joinS_two, todo_true]
    generalize joinS (y :: r) ⟨#[32]⟩ = t at *
    have h := spI_two (t := t) (hx x (by simp))
    have e : x.size = x.data.toList.length := by rw [Array.length_toList]; rfl
    have e0 : t.size = t.data.toList.length := by rw [Array.length_toList]; rfl
    have ha : cutA (x ++ (⟨#[32]⟩ ++ t)) = x := by
      unfold cutA
      rw [h, if_pos (by omega)]
      refine bytes_ext ?_
      rw [ext_list, append_list, append_list, Int.toNat_natCast, List.drop_zero, Nat.sub_zero, e, List.take_left']
      rfl
    have hc : cutC (x ++ (⟨#[32]⟩ ++ t)) = true := by
      unfold cutC
      rw [h]
      exact decide_eq_true (by omega)
    have hb : cutB (x ++ (⟨#[32]⟩ ++ t)) = t := by
      unfold cutB
      rw [h, if_pos (by omega)]
      refine bytes_ext ?_
      have e3 : (x ++ (⟨#[32]⟩ ++ t) : ByteArray).size = x.size + 1 + t.size := by
        rw [ByteArray.size_append, ByteArray.size_append]
        show x.size + (1 + t.size) = _
        omega
      have e4 : x.data.toList ++ ((⟨#[32]⟩ : ByteArray).data.toList ++ t.data.toList) = (x.data.toList ++ [32]) ++ t.data.toList := by simp
      rw [ext_list, append_list, append_list, Int.toNat_natCast, e3, e4, List.drop_left' (by rw [List.length_append, ← e]; rfl), List.take_of_length_le (by omega)]
    rw [ha, hb, hc, ih]
theorem itemsS_join {L : List ByteArray} (h : ∀ x ∈ L, NoSp x) (hn : L ≠ []) (hs : 0 < (joinS L ⟨#[32]⟩).size) : itemsS (joinS L ⟨#[32]⟩) = L := by
  unfold itemsS
  rw [empty_toList, decide_eq_false (by omega)]
  exact todo_join L h hn
theorem itemsS_none : itemsS ⟨#[]⟩ = [] := by
  unfold itemsS
  rw [empty_toList]
  rfl
end Go.Proofs.YtmgikhldkebjbaaDoor

/-
  InventoryBack: the bundle of a sound's text is the sound.
-/
namespace Go.Proofs.YtmgikhldkebjbaaDoor
open Go.RowKit Go.Shelf Go.Sort
theorem getV_ext {p m p' m' : BitVec 32} (hv : vld p m = true) (hv' : vld p' m' = true) (h : ∀ j, j < 32 → getV p m j = getV p' m' j) : (p, m) = (p', m') := by
  have h1 : p = p' := bv_ext fun j hj => by rw [← (getV_of_vld hv j hj).1, ← (getV_of_vld hv' j hj).1, h j hj]
  have h2 : m = m' := bv_ext fun j hj => by rw [← (getV_of_vld hv j hj).2, ← (getV_of_vld hv' j hj).2, h j hj]
  rw [h1, h2]
theorem featO_at {l : List ByteArray} (h0 : newE l = 0) {k : Nat} (hk : k < l.length) : featO l l[k] = some k := by
  rcases feat_is l l[k] with ⟨j, h1, h2, _, _, h3⟩ | ⟨h1, _⟩
  · rw [h3, nodup_eq (newE_nodup h0) h2 (List.getElem?_eq_getElem hk)]
  · exact absurd (List.getElem?_eq_getElem hk) (h1 k)
theorem sgn_list (c : UInt8) (x : ByteArray) : ((⟨#[c]⟩ : ByteArray) ++ x).data.toList = c :: x.data.toList := by rw [append_list]; rfl
theorem sgn_size (c : UInt8) (x : ByteArray) : ((⟨#[c]⟩ : ByteArray) ++ x).size = 1 + x.size := by rw [ByteArray.size_append]; rfl
theorem sgn_rest (c : UInt8) (x : ByteArray) : ((⟨#[c]⟩ : ByteArray) ++ x).extract 1 ((⟨#[c]⟩ : ByteArray) ++ x).size = x := bytes_ext (by
  rw [ext_list, sgn_list, sgn_size, List.drop_succ_cons, List.drop_zero, List.take_of_length_le (by rw [len_list]; omega)])
theorem sgn_head (c : UInt8) (x : ByteArray) : ((⟨#[c]⟩ : ByteArray) ++ x).data.toList.getD 0 0 = c := by rw [sgn_list]; rfl
/-- What an item of a new feature does. -/
theorem stepB_item {l : List ByteArray} (h0 : newE l = 0) {r : Snd} (hv : vld r.1 r.2 = true) {k : Nat} (hk : k < l.length) (hz : getV r.1 r.2 k = 0) (c : UInt8) (v : Int) (hc : (c = 43 ∧ v = 1) ∨ (c = 45 ∧ v = -1)) :
    stepB l r (⟨#[c]⟩ ++ l[k]) = some (withP r.1 k v, withM r.2 k v) ∧ vld (withP r.1 k v) (withM r.2 k v) = true := by
  rcases stepB_is l (newE_len h0) r hv (⟨#[c]⟩ ++ l[k]) with ⟨h, _⟩ | ⟨_, c', hc', h⟩
  · rw [sgn_size] at h; omega
  · rw [sgn_head] at hc'
    subst hc'
    rcases h with ⟨h1, h2, _⟩ | ⟨_, ⟨h, _⟩ | ⟨j, _, hj, ⟨h, _⟩ | ⟨_, v', hv', hs, hvv⟩⟩⟩
    · rcases hc with ⟨h, _⟩ | ⟨h, _⟩
      · exact absurd h h1
      · exact absurd h h2
    · rw [sgn_rest, featO_at h0 hk] at h; cases h
    · rw [sgn_rest, featO_at h0 hk] at hj
      cases hj
      exact absurd hz h
    · rw [sgn_rest, featO_at h0 hk] at hj
      cases hj
      have e : v' = v := by
        rcases hc with ⟨rfl, rfl⟩ | ⟨rfl, rfl⟩
        · rw [hv']; rfl
        · rw [hv']; rfl
      subst e
      exact ⟨hs, hvv⟩
theorem txt_bundle {l : List ByteArray} (h0 : newE l = 0) {p m : BitVec 32} (hv : vld p m = true) : ∀ k, k ≤ l.length → ∃ r : Snd, bunL l (0#32, 0#32) (txtL (p, m) 0 (l.take k)) = some r ∧ vld r.1 r.2 = true ∧ ∀ j, j < 32 → getV r.1 r.2 j = if j < k then getV p m j else 0
  | 0, _ => ⟨(0#32, 0#32), rfl, by decide, fun j hj => by rw [if_neg (by omega)]; unfold getV; simp⟩
  | k + 1, hk => by
    obtain ⟨r, h1, h2, h3⟩ := txt_bundle h0 hv k (by omega)
    have hl := newE_len h0
    have hz : getV r.1 r.2 k = 0 := by rw [h3 k (by omega), if_neg (by omega)]
    have key : ∀ (c : UInt8) (v : Int), ((c = 43 ∧ v = 1) ∨ (c = 45 ∧ v = -1)) → getV p m k = v → txtL (p, m) 0 (l.take (k + 1)) = txtL (p, m) 0 (l.take k) ++ [⟨#[c]⟩ ++ l[k]'(by omega)] → ∃ r : Snd, bunL l (0#32, 0#32) (txtL (p, m) 0 (l.take (k + 1))) = some r ∧ vld r.1 r.2 = true ∧ ∀ j, j < 32 → getV r.1 r.2 j = if j < k + 1 then getV p m j else 0 := fun c v hc hg ht => by
      obtain ⟨s1, s2⟩ := stepB_item h0 h2 (k := k) (by omega) hz c v hc
      refine ⟨_, by rw [ht, bunL_snoc _ _ _ h1, s1], s2, fun j hj => ?_⟩
      rw [getV_with k v j (by omega) hj (by rcases hc with ⟨_, h⟩ | ⟨_, h⟩ <;> simp [h])]
      by_cases e : j = k
      · subst e; rw [if_pos rfl, if_pos (by omega), hg]
      · rw [if_neg e, h3 j hj]
        by_cases e2 : j < k
        · rw [if_pos e2, if_pos (by omega)]
        · rw [if_neg e2, if_neg (by omega)]
    rcases txtS_step hv l k (by omega) (by omega) with ⟨hg, ht⟩ | ⟨hg, ht⟩ | ⟨hg, ht⟩
    · refine ⟨r, by rw [ht]; exact h1, h2, fun j hj => ?_⟩
      rw [h3 j hj]
      by_cases e : j = k
      · subst e; rw [if_neg (by omega), if_pos (by omega), hg]
      · by_cases e2 : j < k
        · rw [if_pos e2, if_pos (by omega)]
        · rw [if_neg e2, if_neg (by omega)]
    · exact key 43 1 (.inl ⟨rfl, rfl⟩) hg ht
    · exact key 45 (-1) (.inr ⟨rfl, rfl⟩) hg ht
theorem txt_bundle_all {l : List ByteArray} (h0 : newE l = 0) {p m : BitVec 32} (hb : hasB l.length (p, m) = true) : bunL l (0#32, 0#32) (txtL (p, m) 0 l) = some (p, m) := by
  have hl := newE_len h0
  have hv := hasB_vld hl hb
  obtain ⟨r, h1, h2, h3⟩ := txt_bundle h0 hv l.length (Nat.le_refl _)
  rw [List.take_length] at h1
  rw [h1]
  have e : (r.1, r.2) = (p, m) := getV_ext h2 hv fun j hj => by
    rw [h3 j hj]
    by_cases e : j < l.length
    · rw [if_pos e]
    · rw [if_neg e]
      by_cases hz : getV p m j = 0
      · exact hz.symm
      · rw [hasB_get (by omega) hj hz] at hb; cases hb
  exact congrArg some e
end Go.Proofs.YtmgikhldkebjbaaDoor

/-
  InventoryBack: which beginnings of a sound's text are bundles.
-/
namespace Go.Proofs.YtmgikhldkebjbaaDoor
open Go.RowKit Go.Shelf Go.Sort
theorem txtL_form (s : Snd) : ∀ (l : List ByteArray) (f : Nat) (x : ByteArray), x ∈ txtL s f l → ∃ (c : UInt8) (y : ByteArray), (c = 43 ∨ c = 45) ∧ y ∈ l ∧ x = ⟨#[c]⟩ ++ y
  | [], _, x, h => by simp [txtL] at h
  | y :: l, f, x, h => by
    have ih := txtL_form s l (f + 1) x
    have hm : x = ⟨#[43]⟩ ++ y ∨ x = ⟨#[45]⟩ ++ y ∨ x ∈ txtL s (f + 1) l := by
      unfold txtL at h
      split at h
      · rcases List.mem_cons.1 h with h | h
        · exact .inl h
        · exact .inr (.inr h)
      · split at h
        · rcases List.mem_cons.1 h with h | h
          · exact .inr (.inl h)
          · exact .inr (.inr h)
        · exact .inr (.inr h)
    rcases hm with h | h | h
    · exact ⟨43, y, .inl rfl, by simp, h⟩
    · exact ⟨45, y, .inr rfl, by simp, h⟩
    · obtain ⟨c, z, h1, h2, h3⟩ := ih h
      exact ⟨c, z, h1, by simp [h2], h3⟩
theorem nmL_mem {n : Nat} {x : ByteArray} (h : x ∈ nmL n) : ∃ i, i < n ∧ x = nmI i := by
  unfold nmL at h
  obtain ⟨i, hi, rfl⟩ := List.mem_map.1 h
  exact ⟨i, by simpa using hi, rfl⟩
theorem nmI_nosp (i : Nat) (h : i < 24) : ∀ c ∈ (nmI i).data.toList, c ≠ 32 := (by decide +kernel : ∀ k : Fin 24, ∀ c ∈ (nmI k.val).data.toList, c ≠ 32) ⟨i, h⟩
theorem txtL_nosp {n : Nat} (hn : n ≤ 24) {s : Snd} {x : ByteArray} (h : x ∈ txtL s 0 (nmL n)) : NoSp x ∧ x.size = 3 := by
  obtain ⟨c, y, hc, hy, rfl⟩ := txtL_form s _ _ x h
  obtain ⟨i, hi, rfl⟩ := nmL_mem hy
  refine ⟨fun d hd => ?_, by rw [sgn_size]; rfl⟩
  rw [sgn_list] at hd
  rcases List.mem_cons.1 hd with rfl | hd
  · rcases hc with rfl | rfl <;> decide
  · exact nmI_nosp i (by omega) d hd
theorem stepB_short {n : Nat} {r : Snd} {y : ByteArray} (h : y.size ≠ 3) : stepB (nmL n) r y = none := by
  by_cases h0 : y.size = 0
  · unfold stepB; rw [valS_empty h0]
  · have hf : featO (nmL n) (y.extract 1 y.size) = none := by
      rcases feat_is (nmL n) (y.extract 1 y.size) with ⟨j, h1, h2, _⟩ | ⟨_, _, _, h⟩
      · obtain ⟨i, _, e⟩ := nmL_mem (List.mem_of_getElem? h2)
        have e2 : (y.extract 1 y.size).size = 2 := by rw [e]; rfl
        rw [ByteArray.size_extract] at e2
        omega
      · exact h
    unfold stepB; rw [valS_no hf]
theorem bunL_take {l L : List ByteArray} {s r : Snd} (h : bunL l s L = some r) (k : Nat) : ∃ q, bunL l s (L.take k) = some q := by
  cases hq : bunL l s (L.take k) with
  | some q => exact ⟨q, rfl⟩
  | none =>
    have := bunL_stop (L.take k) (L.drop k) s hq
    rw [List.take_append_drop, h] at this
    cases this
/-- The text of a sound is its bundle; a beginning of it is a bundle where it is empty, or a space follows. -/
theorem back_text {n : Nat} (hn : n ≤ 24) {p m : BitVec 32} (hb : hasB (nmL n).length (p, m) = true) : bunS (nmL n) (txtS (nmL n) (p, m)) = some (p, m) := by
  have hB := txt_bundle_all (nmL_new n hn) hb
  unfold bunS txtS
  by_cases h : txtL (p, m) 0 (nmL n) = []
  · rw [h] at hB ⊢
    rw [joinS_nil, itemsS_none]
    exact hB
  · rw [itemsS_join (fun x hx => (txtL_nosp hn hx).1) h (joinS_pos (fun x hx => by have := (txtL_nosp hn hx).2; omega) h)]
    exact hB
theorem back_take {n : Nat} (hn : n ≤ 24) {p m : BitVec 32} (hb : hasB (nmL n).length (p, m) = true) (i : Nat) (hi : i < (txtS (nmL n) (p, m)).data.toList.length) :
    (bunS (nmL n) ((txtS (nmL n) (p, m)).extract 0 i)).isSome = decide (i = 0 ∨ (txtS (nmL n) (p, m)).data.toList[i] = 32) := by
  have hB := txt_bundle_all (nmL_new n hn) hb
  have hns : ∀ x ∈ txtL (p, m) 0 (nmL n), NoSp x ∧ x.size = 3 := fun x hx => txtL_nosp hn hx
  unfold txtS at *
  generalize txtL (p, m) 0 (nmL n) = L at *
  have ht := joinS_list L ⟨#[32]⟩
  have hjt := join_take (L.map (·.data.toList)) (fun x hx => by
    obtain ⟨y, hy, rfl⟩ := List.mem_map.1 hx
    exact (hns y hy).1) i (by rw [← show (joinS L ⟨#[32]⟩).data.toList = _ from ht]; exact hi)
  have hget : (joinS L ⟨#[32]⟩).data.toList[i] = (Lib.join (L.map (·.data.toList)) [32])[i]'(by rw [← show (joinS L ⟨#[32]⟩).data.toList = _ from ht]; exact hi) := by
    congr 1
  have hext : ((joinS L ⟨#[32]⟩).extract 0 i).data.toList = (Lib.join (L.map (·.data.toList)) [32]).take i := by
    rw [ext_list, ht, List.drop_zero, Nat.sub_zero]
  rw [hget]
  unfold bunS
  rcases hjt with ⟨h1, k, hk1, hk2, h2⟩ | ⟨h1, k, hk, j, hj, h2, h3⟩
  · rw [decide_eq_true (Or.inr h1)]
    have e : (joinS L ⟨#[32]⟩).extract 0 i = joinS (L.take k) ⟨#[32]⟩ := bytes_ext (by rw [hext, h2, joinS_list, List.map_take])
    have hne : L.take k ≠ [] := by
      intro e
      have h8 := congrArg List.length e
      have h9 : k < L.length := by simpa using hk2
      rw [List.length_take, List.length_nil] at h8
      omega
    have hmem : ∀ x ∈ L.take k, NoSp x ∧ x.size = 3 := fun x hx => hns x (List.mem_of_mem_take hx)
    rw [e, itemsS_join (fun x hx => (hmem x hx).1) hne (joinS_pos (fun x hx => by have := (hmem x hx).2; omega) hne)]
    obtain ⟨q, hq⟩ := bunL_take hB k
    rw [hq]; rfl
  · by_cases h0 : i = 0
    · subst h0
      rw [decide_eq_true (Or.inl rfl)]
      have e : (joinS L ⟨#[32]⟩).extract 0 0 = ⟨#[]⟩ := bytes_ext (by rw [hext]; rfl)
      rw [e, itemsS_none]; rfl
    · rw [decide_eq_false (by intro h; rcases h with h | h; exact h0 h; exact h1 h)]
      have hk' : k < L.length := by simpa using hk
      have hsz := (hns L[k] (List.getElem_mem hk')).2
      have hj' : j < 3 := by
        have : L[k].data.toList.length = 3 := by rw [len_list]; exact hsz
        simp only [List.getElem_map] at hj
        omega
      have e : (joinS L ⟨#[32]⟩).extract 0 i = joinS (L.take k ++ [L[k].extract 0 j]) ⟨#[32]⟩ := bytes_ext (by
        rw [hext, h2, joinS_list, List.map_append, List.map_take]
        simp [ext_list])
      have hmem : ∀ x ∈ L.take k ++ [L[k].extract 0 j], NoSp x := fun x hx => by
        rcases List.mem_append.1 hx with hx | hx
        · exact (hns x (List.mem_of_mem_take hx)).1
        · rw [List.mem_singleton.1 hx]
          intro c hc
          rw [ext_list] at hc
          exact (hns L[k] (List.getElem_mem hk')).1 c (List.mem_of_mem_drop (List.mem_of_mem_take hc))
      have hpos : 0 < (joinS (L.take k ++ [L[k].extract 0 j]) ⟨#[32]⟩).size := by
        rw [← e, ByteArray.size_extract]
        rw [len_list] at hi
        omega
      rw [e, itemsS_join hmem (by simp) hpos]
      obtain ⟨q, hq⟩ := bunL_take hB k
      rw [bunL_snoc _ _ _ hq, stepB_short (by rw [ByteArray.size_extract]; omega)]
      rfl
end Go.Proofs.YtmgikhldkebjbaaDoor

/-
  InventoryAny: bundles do not depend on the order of their items; texts that are no bundles.
-/
namespace Go.Proofs.YtmgikhldkebjbaaDoor
open Go.RowKit Go.Shelf Go.Sort
theorem valN_or (a b : Snd) : valN (a.1 ||| b.1, a.2 ||| b.2) = valN a ||| valN b := by
  unfold valN
  simp only [BitVec.toNat_or]
  ac_rfl
theorem valN_two (a b c : Nat) : (a &&& b = 0 ∧ (a ||| b) &&& c = 0) ↔ (a &&& c = 0 ∧ (a ||| c) &&& b = 0) := by
  rw [Nat.and_or_distrib_right, Nat.and_or_distrib_right, Nat.or_eq_zero_iff, Nat.or_eq_zero_iff, Nat.and_comm c b]
  constructor
  · rintro ⟨h1, h2, h3⟩; exact ⟨h2, h1, h3⟩
  · rintro ⟨h1, h2, h3⟩; exact ⟨h2, h1, h3⟩
theorem stepB_some {l : List ByteArray} {s r : Snd} {x : ByteArray} : stepB l s x = some r ↔ ∃ o, valS l x = some o ∧ valN s &&& valN o = 0 ∧ r = (s.1 ||| o.1, s.2 ||| o.2) := by
  unfold stepB
  cases h : valS l x with
  | none => simp
  | some o =>
    by_cases h0 : valN s &&& valN o = 0
    · simp only [if_pos h0]
      constructor
      · intro e; exact ⟨o, rfl, h0, (Option.some.inj e).symm⟩
      · rintro ⟨o', e, _, h2⟩; cases e; rw [h2]
    · simp only [if_neg h0]
      constructor
      · intro e; cases e
      · rintro ⟨o', e, h1, _⟩; cases e; exact absurd h1 h0
/-- Two items, one after the other. -/
def two (l : List ByteArray) (s : Snd) (x y : ByteArray) : Option Snd := match stepB l s x with
  | none => none
  | some r => stepB l r y
theorem two_some {l : List ByteArray} {s q : Snd} {x y : ByteArray} : two l s x y = some q ↔ ∃ o u, valS l x = some o ∧ valS l y = some u ∧ (valN s &&& valN o = 0 ∧ (valN s ||| valN o) &&& valN u = 0) ∧ q = ((s.1 ||| o.1) ||| u.1, (s.2 ||| o.2) ||| u.2) := by
  unfold two
  constructor
  · intro h
    cases h1 : stepB l s x with
    | none => rw [h1] at h; cases h
    | some r =>
      rw [h1] at h
      obtain ⟨o, a1, a2, rfl⟩ := stepB_some.1 h1
      obtain ⟨u, b1, b2, rfl⟩ := stepB_some.1 h
      rw [valN_or] at b2
      exact ⟨o, u, a1, b1, ⟨a2, b2⟩, rfl⟩
  · rintro ⟨o, u, a1, b1, ⟨a2, b2⟩, rfl⟩
    rw [stepB_some.2 ⟨o, a1, a2, rfl⟩]
    exact stepB_some.2 ⟨u, b1, by rw [valN_or]; exact b2, rfl⟩
theorem two_swap (l : List ByteArray) (s : Snd) (x y : ByteArray) : two l s x y = two l s y x := by
  refine Option.ext fun q => ?_
  rw [two_some, two_some]
  constructor
  · rintro ⟨o, u, a1, b1, h, rfl⟩
    exact ⟨u, o, b1, a1, (valN_two _ _ _).1 h, by rw [BitVec.or_assoc s.1, BitVec.or_comm o.1, ← BitVec.or_assoc s.1, BitVec.or_assoc s.2, BitVec.or_comm o.2, ← BitVec.or_assoc s.2]⟩
  · rintro ⟨o, u, a1, b1, h, rfl⟩
    exact ⟨u, o, b1, a1, (valN_two _ _ _).1 h, by rw [BitVec.or_assoc s.1, BitVec.or_comm o.1, ← BitVec.or_assoc s.1, BitVec.or_assoc s.2, BitVec.or_comm o.2, ← BitVec.or_assoc s.2]⟩
theorem bunL_two (l : List ByteArray) (s : Snd) (x y : ByteArray) (L : List ByteArray) : bunL l s (x :: y :: L) = match two l s x y with
    | none => none
    | some r => bunL l r L := by
  unfold two
  simp only [bunL]
  cases stepB l s x with
  | none => rfl
  | some r => rfl
theorem bunL_perm {l L L' : List ByteArray} (h : L.Perm L') : ∀ s, bunL l s L = bunL l s L' := by
  induction h with
  | nil => intro s; rfl
  | cons x _ ih =>
    intro s
    simp only [bunL]
    cases stepB l s x with
    | none => rfl
    | some r => exact ih r
  | swap x y L => intro s; rw [bunL_two, bunL_two, two_swap]
  | trans _ _ ih1 ih2 => intro s; rw [ih1 s, ih2 s]
/-- The last step that a bundle's item may be. -/
theorem bunL_last {l L : List ByteArray} {s q : Snd} {x : ByteArray} (h : bunL l s L = some q) (hx : x ∈ L) : ∃ r, stepB l r x = some q := by
  obtain ⟨A, C, rfl⟩ := List.append_of_mem hx
  have hp : (A ++ x :: C).Perm ((A ++ C) ++ [x]) := by
    refine List.perm_middle.trans ?_
    exact (List.perm_append_comm (l₁ := [x]) (l₂ := A ++ C))
  rw [bunL_perm hp] at h
  cases h1 : bunL l s (A ++ C) with
  | none => rw [bunL_stop _ _ _ h1] at h; cases h
  | some r => exact ⟨r, by rw [← bunL_snoc _ _ _ h1]; exact h⟩
theorem bit_pos (j : Nat) (h : j < 24) : (bit j).toNat ≠ 0 := (by decide : ∀ k : Fin 24, (bit k.val).toNat ≠ 0) ⟨j, h⟩
theorem valS_sgn {l : List ByteArray} {c : UInt8} {y : ByteArray} {o : Snd} (h : valS l (⟨#[c]⟩ ++ y) = some o) : ∃ j, featO l y = some j ∧ valN o = (bit j).toNat := by
  have h0 : ¬ ((⟨#[c]⟩ : ByteArray) ++ y).size = 0 := by rw [sgn_size]; omega
  cases hf : featO l y with
  | none =>
    rw [valS_no (by rw [sgn_rest]; exact hf)] at h
    cases h
  | some j =>
    rw [valS_of h0 (by rw [sgn_rest]; exact hf) (sgn_head c y)] at h
    refine ⟨j, rfl, ?_⟩
    split at h
    · cases h; simp [valN]
    · split at h
      · cases h; simp [valN]
      · cases h
/-- A feature that has a value takes no second one. -/
theorem stepB_again {l : List ByteArray} (hl : l.length ≤ 24) {r q : Snd} {c c' : UInt8} {y : ByteArray} (h : stepB l r (⟨#[c]⟩ ++ y) = some q) : stepB l q (⟨#[c']⟩ ++ y) = none := by
  obtain ⟨o, h1, h2, rfl⟩ := stepB_some.1 h
  obtain ⟨j, hj, ho⟩ := valS_sgn h1
  cases h3 : stepB l (r.1 ||| o.1, r.2 ||| o.2) (⟨#[c']⟩ ++ y) with
  | none => rfl
  | some t =>
    obtain ⟨u, a1, a2, _⟩ := stepB_some.1 h3
    obtain ⟨k, hk, hu⟩ := valS_sgn a1
    rw [hj] at hk
    cases hk
    rw [valN_or, hu, ho, Nat.and_or_distrib_right, Nat.and_self, Nat.or_eq_zero_iff] at a2
    exact absurd a2.2 (bit_pos j (by have := (featO_some hj).1; omega))
theorem joinS_data {A : List ByteArray} {t : ByteArray} (h : t.data.toList = Lib.join (A.map (·.data.toList)) [32]) : t = joinS A ⟨#[32]⟩ := bytes_ext (by rw [joinS_list]; exact h)
theorem joinS_app : ∀ (A C : List ByteArray), A ≠ [] → C ≠ [] → joinS (A ++ C) ⟨#[32]⟩ = (joinS A ⟨#[32]⟩ ++ ⟨#[32]⟩) ++ joinS C ⟨#[32]⟩
  | [], _, h, _ => absurd rfl h
  | [x], [], _, h => absurd rfl h
  | [x], y :: C, _, _ => by
    rw [List.cons_append, List.nil_append, joinS_two, joinS_one]
    exact bytes_ext (by simp [append_list])
  | x :: z :: A, C, _, hc => by
    rw [List.cons_append, List.cons_append, joinS_two, ← List.cons_append, joinS_app (z :: A) C (by simp) hc, joinS_two]
    exact bytes_ext (by simp [append_list])
theorem bunS_join {l L : List ByteArray} (h : ∀ x ∈ L, NoSp x) (hn : L ≠ []) (hs : 0 < (joinS L ⟨#[32]⟩).size) : bunS l (joinS L ⟨#[32]⟩) = bunL l (0#32, 0#32) L := by
  unfold bunS
  rw [itemsS_join h hn hs]
theorem noSp_nil : NoSp ⟨#[]⟩ := fun c hc => by cases hc
theorem stepB_nil (l : List ByteArray) (s : Snd) : stepB l s ⟨#[]⟩ = none := by unfold stepB; rw [valS_empty rfl]
theorem bunL_bad {l A C : List ByteArray} {s : Snd} {x : ByteArray} (h : ∀ r, stepB l r x = none) : bunL l s (A ++ x :: C) = none := by
  have e : A ++ x :: C = (A ++ [x]) ++ C := by simp
  rw [e]
  refine bunL_stop _ _ _ ?_
  cases h1 : bunL l s A with
  | none => exact bunL_stop _ _ _ h1
  | some r => rw [bunL_snoc _ _ _ h1]; exact h r
end Go.Proofs.YtmgikhldkebjbaaDoor

/-
  InventoryAny: the texts that the statement hands to Bundle.
-/
namespace Go.Proofs.YtmgikhldkebjbaaDoor
open Go.RowKit Go.Shelf Go.Sort
/-- The items of a sound's text. -/
structure Items (n : Nat) (p m : BitVec 32) (L : List ByteArray) : Prop where
  hn : n ≤ 24
  gives : bunL (nmL n) (0#32, 0#32) L = some (p, m)
  no : ∀ x ∈ L, NoSp x
  three : ∀ x ∈ L, x.size = 3
  ne : L ≠ []
  form : ∀ x ∈ L, ∃ (c : UInt8) (i : Nat), (c = 43 ∨ c = 45) ∧ i < n ∧ x = ⟨#[c]⟩ ++ nmI i
theorem items_of {n : Nat} (hn : n ≤ 24) {p m : BitVec 32} (hb : hasB (nmL n).length (p, m) = true) (h : txtL (p, m) 0 (nmL n) ≠ []) : Items n p m (txtL (p, m) 0 (nmL n)) :=
  ⟨hn, txt_bundle_all (nmL_new n hn) hb, fun _ hx => (txtL_nosp hn hx).1, fun _ hx => (txtL_nosp hn hx).2, h, fun x hx => by
    obtain ⟨c, y, hc, hy, rfl⟩ := txtL_form _ _ _ _ hx
    obtain ⟨i, hi, rfl⟩ := nmL_mem hy
    exact ⟨c, i, hc, hi, rfl⟩⟩
theorem join_pos {L : List ByteArray} (h : ∃ x ∈ L, 0 < x.size) : 0 < (joinS L ⟨#[32]⟩).size := by
  obtain ⟨x, hx, h0⟩ := h
  obtain ⟨A, C, rfl⟩ := List.append_of_mem hx
  cases A with
  | nil =>
    cases C with
    | nil => rw [List.nil_append, joinS_one]; exact h0
    | cons y C => rw [List.nil_append, joinS_two, ByteArray.size_append]; omega
  | cons a A =>
    rw [joinS_app (a :: A) (x :: C) (by simp) (by simp), ByteArray.size_append, ByteArray.size_append]
    have : (⟨#[32]⟩ : ByteArray).size = 1 := rfl
    omega
theorem Items.perm {n : Nat} {p m : BitVec 32} {L L' : List ByteArray} (h : Items n p m L) (hp : L.Perm L') : bunS (nmL n) (joinS L' ⟨#[32]⟩) = some (p, m) := by
  have hne : L' ≠ [] := by
    intro e
    rw [e] at hp
    exact h.ne hp.eq_nil
  rw [bunS_join (fun x hx => h.no x (hp.mem_iff.2 hx)) hne ?_, ← bunL_perm hp]
  · exact h.gives
  · obtain ⟨x, hx⟩ := List.exists_mem_of_ne_nil _ hne
    exact join_pos ⟨x, hx, by rw [h.three x (hp.mem_iff.2 hx)]; omega⟩
theorem Items.turned {n : Nat} {p m : BitVec 32} {L : List ByteArray} (h : Items n p m L) (k : Nat) : bunS (nmL n) (joinS (L.drop k ++ L.take k) ⟨#[32]⟩) = some (p, m) := by
  refine h.perm ?_
  have e := List.perm_append_comm (l₁ := L.take k) (l₂ := L.drop k)
  rw [List.take_append_drop] at e
  exact e
theorem Items.back {n : Nat} {p m : BitVec 32} {L : List ByteArray} (h : Items n p m L) (k : Nat) : bunS (nmL n) (joinS (L.drop k ++ L.take k).reverse ⟨#[32]⟩) = some (p, m) := by
  refine h.perm ?_
  have e := List.perm_append_comm (l₁ := L.take k) (l₂ := L.drop k)
  rw [List.take_append_drop] at e
  exact e.trans (List.reverse_perm _).symm
/-- One item more, or another one, is no bundle. -/
theorem Items.bad {n : Nat} {p m : BitVec 32} {L A C : List ByteArray} {x : ByteArray} (h : Items n p m L) (hA : ∀ y ∈ A, y ∈ L ∨ y = ⟨#[]⟩) (hC : ∀ y ∈ C, y ∈ L) (hx : NoSp x) (hs : ∀ r, stepB (nmL n) r x = none) (hpos : A ++ C ≠ [] ∨ 0 < x.size) (hpos2 : ∃ y ∈ A ++ x :: C, 0 < y.size) : bunS (nmL n) (joinS (A ++ x :: C) ⟨#[32]⟩) = none := by
  rw [bunS_join ?_ (by simp) (join_pos hpos2)]
  · exact bunL_bad hs
  · intro y hy
    rcases List.mem_append.1 hy with hy | hy
    · rcases hA y hy with hy | rfl
      · exact h.no y hy
      · exact noSp_nil
    · rcases List.mem_cons.1 hy with rfl | hy
      · exact hx
      · exact h.no y (hC y hy)
theorem Items.one {n : Nat} {p m : BitVec 32} {L : List ByteArray} (h : Items n p m L) : ∃ y, y ∈ L ∧ 0 < y.size := by
  obtain ⟨x, hx⟩ := List.exists_mem_of_ne_nil _ h.ne
  exact ⟨x, hx, by rw [h.three x hx]; omega⟩
/-- A text behind the items. -/
theorem Items.more {n : Nat} {p m : BitVec 32} {L : List ByteArray} {x : ByteArray} (h : Items n p m L) (hx : NoSp x) (hs : stepB (nmL n) (p, m) x = none) : bunS (nmL n) ((joinS L ⟨#[32]⟩ ++ ⟨#[32]⟩) ++ x) = none := by
  have e : (joinS L ⟨#[32]⟩ ++ ⟨#[32]⟩) ++ x = joinS (L ++ [x]) ⟨#[32]⟩ := by rw [joinS_app L [x] h.ne (by simp), joinS_one]
  rw [e, bunS_join ?_ (by simp) ?_]
  · rw [bunL_snoc _ _ _ h.gives]; exact hs
  · intro y hy
    rcases List.mem_append.1 hy with hy | hy
    · exact h.no y hy
    · rw [List.mem_singleton.1 hy]; exact hx
  · obtain ⟨y, hy, h0⟩ := h.one
    exact join_pos ⟨y, by simp [hy], h0⟩
theorem empty_left (t : ByteArray) : (⟨#[]⟩ : ByteArray) ++ t = t := bytes_ext (by rw [append_list]; rfl)
theorem empty_right (t : ByteArray) : t ++ (⟨#[]⟩ : ByteArray) = t := bytes_ext (by rw [append_list]; simp)
theorem bytes_assoc (a b c : ByteArray) : (a ++ b) ++ c = a ++ (b ++ c) := bytes_ext (by simp [append_list])
theorem bad1 {n : Nat} {p m : BitVec 32} {L : List ByteArray} (h : Items n p m L) : bunS (nmL n) (⟨#[32]⟩ ++ joinS L ⟨#[32]⟩) = none := by
  have e : (⟨#[32]⟩ : ByteArray) ++ joinS L ⟨#[32]⟩ = joinS ([] ++ ⟨#[]⟩ :: L) ⟨#[32]⟩ := by
    obtain ⟨y, r, hl⟩ := List.exists_cons_of_ne_nil h.ne
    rw [hl, List.nil_append, joinS_two, empty_left]
  rw [e]
  obtain ⟨y, hy, h0⟩ := h.one
  exact h.bad (fun y hy => by cases hy) (fun y hy => hy) noSp_nil (stepB_nil _) (.inl (by simpa using h.ne)) ⟨y, by simp [hy], h0⟩
theorem bad2 {n : Nat} {p m : BitVec 32} {L : List ByteArray} (h : Items n p m L) : bunS (nmL n) (joinS L ⟨#[32]⟩ ++ ⟨#[32]⟩) = none := by
  have e := h.more noSp_nil (stepB_nil _ _)
  rw [empty_right] at e
  exact e
theorem bad3 {n : Nat} {p m : BitVec 32} {L : List ByteArray} (h : Items n p m L) (k : Nat) (hk : k < L.length) : bunS (nmL n) ((joinS (L.take k) ⟨#[32]⟩ ++ ⟨#[32, 32]⟩) ++ joinS (L.drop k) ⟨#[32]⟩) = none := by
  have hd : L.drop k ≠ [] := by
    intro e
    have := congrArg List.length e
    rw [List.length_drop, List.length_nil] at this
    omega
  have e0 : (⟨#[32, 32]⟩ : ByteArray) = (⟨#[32]⟩ : ByteArray) ++ ⟨#[32]⟩ := bytes_ext (by rw [append_list]; rfl)
  have hA : ∃ A : List ByteArray, (∀ y ∈ A, y ∈ L ∨ y = ⟨#[]⟩) ∧ (joinS (L.take k) ⟨#[32]⟩ ++ ⟨#[32, 32]⟩) ++ joinS (L.drop k) ⟨#[32]⟩ = joinS (A ++ ⟨#[]⟩ :: L.drop k) ⟨#[32]⟩ := by
    obtain ⟨y, r, hl⟩ := List.exists_cons_of_ne_nil hd
    by_cases h0 : L.take k = []
    · refine ⟨[⟨#[]⟩], fun y hy => .inr (List.mem_singleton.1 hy), ?_⟩
      rw [h0, joinS_nil, empty_left, hl, List.singleton_append, joinS_two, joinS_two, empty_left, empty_left, e0, bytes_assoc]
    · refine ⟨L.take k, fun y hy => .inl (List.mem_of_mem_take hy), ?_⟩
      rw [joinS_app _ _ h0 (by simp), hl, joinS_two, empty_left, e0]
      simp only [bytes_assoc]
  obtain ⟨A, hA, e⟩ := hA
  rw [e]
  obtain ⟨y, hy⟩ := List.exists_mem_of_ne_nil _ hd
  exact h.bad hA (fun y hy => List.mem_of_mem_drop hy) noSp_nil (stepB_nil _) (.inl (by simp [hd])) ⟨y, by simp [hy], by rw [h.three y (List.mem_of_mem_drop hy)]; omega⟩
theorem bad4 {n : Nat} {p m : BitVec 32} {L : List ByteArray} (h : Items n p m L) (k : Nat) (hk : k < L.length) : bunS (nmL n) ((joinS L ⟨#[32]⟩ ++ ⟨#[32]⟩) ++ L[k]) = none := by
  refine h.more (h.no _ (List.getElem_mem hk)) ?_
  obtain ⟨r, hr⟩ := bunL_last h.gives (List.getElem_mem hk)
  obtain ⟨c, i, _, _, e⟩ := h.form L[k] (List.getElem_mem hk)
  rw [e] at hr ⊢
  exact stepB_again (by rw [nmL_len]; exact h.hn) hr
theorem bad5 {n : Nat} {p m : BitVec 32} {L : List ByteArray} (h : Items n p m L) (k : Nat) (hk : k < L.length) (d : UInt8) (hd : d ≠ 32) : bunS (nmL n) (((joinS L ⟨#[32]⟩ ++ ⟨#[32]⟩) ++ ⟨#[d]⟩) ++ L[k].extract 1 L[k].size) = none := by
  obtain ⟨r, hr⟩ := bunL_last h.gives (List.getElem_mem hk)
  have hns := h.no _ (List.getElem_mem hk)
  obtain ⟨c, i, _, _, e⟩ := h.form L[k] (List.getElem_mem hk)
  rw [e] at hr hns ⊢
  rw [sgn_rest, bytes_assoc _ ⟨#[d]⟩]
  refine h.more ?_ (stepB_again (by rw [nmL_len]; exact h.hn) hr)
  intro b hb
  rw [sgn_list] at hb
  rcases List.mem_cons.1 hb with rfl | hb
  · exact hd
  · exact hns b (by rw [sgn_list]; exact List.mem_cons_of_mem _ hb)
theorem bad6 {n : Nat} {p m : BitVec 32} {L : List ByteArray} (h : Items n p m L) (k : Nat) (hk : k < L.length) : bunS (nmL n) (L[k].extract 1 L[k].size) = none := by
  have hns := h.no _ (List.getElem_mem hk)
  obtain ⟨c, i, _, _, e⟩ := h.form L[k] (List.getElem_mem hk)
  rw [e] at hns ⊢
  rw [sgn_rest]
  have e2 : nmI i = joinS [nmI i] ⟨#[32]⟩ := (joinS_one _ _).symm
  have hp : 0 < (nmI i).size := by show 0 < 2; omega
  rw [e2, bunS_join ?_ (by simp) (by rw [← e2]; exact hp)]
  · show (match stepB (nmL n) (0#32, 0#32) (nmI i) with | none => none | some r => some r) = none
    rw [stepB_short (by show (2 : Nat) ≠ 3; omega)]
  · intro y hy
    rw [List.mem_singleton.1 hy]
    intro b hb
    exact hns b (by rw [sgn_list]; exact List.mem_cons_of_mem _ hb)
theorem bad7 {n : Nat} {p m : BitVec 32} {L : List ByteArray} (h : Items n p m L) : bunS (nmL n) (joinS L ⟨#[32]⟩ ++ ⟨#[120]⟩) = none := by
  obtain ⟨A, x, rfl⟩ : ∃ A x, L = A ++ [x] := ⟨L.dropLast, L.getLast h.ne, (List.dropLast_concat_getLast h.ne).symm⟩
  have hx3 := h.three x (by simp)
  have e : joinS (A ++ [x]) ⟨#[32]⟩ ++ ⟨#[120]⟩ = joinS (A ++ (x ++ ⟨#[120]⟩) :: []) ⟨#[32]⟩ := by
    cases A with
    | nil => rw [List.nil_append, List.nil_append, joinS_one, joinS_one]
    | cons a A => rw [joinS_app (a :: A) [x] (by simp) (by simp), joinS_app (a :: A) [x ++ ⟨#[120]⟩] (by simp) (by simp), joinS_one, joinS_one, bytes_assoc]
  rw [e]
  refine h.bad (fun y hy => .inl (by simp [hy])) (fun y hy => by cases hy) ?_ (fun r => stepB_short ?_) (.inr ?_) ⟨x ++ ⟨#[120]⟩, by simp, ?_⟩
  · intro b hb
    rw [append_list] at hb
    rcases List.mem_append.1 hb with hb | hb
    · exact h.no x (by simp) b hb
    · have : b = 120 := by simpa using hb
      rw [this]; decide
  all_goals
    rw [ByteArray.size_append, hx3]
    have : (⟨#[120]⟩ : ByteArray).size = 1 := rfl
    omega
theorem bad8 {n : Nat} {p m : BitVec 32} {L : List ByteArray} (h : Items n p m L) : bunS (nmL n) (joinS L ⟨#[32]⟩ ++ ⟨#[32, 43]⟩) = none := by
  have e0 : (⟨#[32, 43]⟩ : ByteArray) = (⟨#[32]⟩ : ByteArray) ++ ⟨#[43]⟩ := bytes_ext (by rw [append_list]; rfl)
  rw [e0, ← bytes_assoc]
  exact h.more (by intro b hb; have : b = 43 := (by simpa using hb); rw [this]; decide) (stepB_short (by decide))
theorem nmI_z9 : ∀ k : Fin 24, nmI k.val ≠ ⟨#[122, 57]⟩ := by decide
theorem bad9 {n : Nat} {p m : BitVec 32} {L : List ByteArray} (h : Items n p m L) : bunS (nmL n) (joinS L ⟨#[32]⟩ ++ ⟨#[32, 45, 122, 57]⟩) = none := by
  have e0 : (⟨#[32, 45, 122, 57]⟩ : ByteArray) = (⟨#[32]⟩ : ByteArray) ++ (⟨#[45]⟩ ++ ⟨#[122, 57]⟩) := bytes_ext (by rw [append_list, append_list]; rfl)
  rw [e0, ← bytes_assoc]
  refine h.more ?_ ?_
  · intro b hb
    rw [append_list] at hb
    have : b = 45 ∨ b = 122 ∨ b = 57 := by simpa using hb
    rcases this with rfl | rfl | rfl <;> decide
  · cases hs : stepB (nmL n) (p, m) (⟨#[45]⟩ ++ ⟨#[122, 57]⟩) with
    | none => rfl
    | some q =>
      obtain ⟨o, h1, _⟩ := stepB_some.1 hs
      obtain ⟨j, hj, _⟩ := valS_sgn h1
      rcases feat_is (nmL n) ⟨#[122, 57]⟩ with ⟨i, _, h2, _⟩ | ⟨_, _, _, h2⟩
      · obtain ⟨q, hq, e⟩ := nmL_mem (List.mem_of_getElem? h2)
        exact absurd e.symm (nmI_z9 ⟨q, by have := h.hn; omega⟩)
      · rw [h2] at hj; cases hj
/-- A single space is no bundle. -/
theorem bad0 (n : Nat) : bunS (nmL n) ⟨#[32]⟩ = none := by
  have e : (⟨#[32]⟩ : ByteArray) = joinS [⟨#[]⟩, ⟨#[]⟩] ⟨#[32]⟩ := by rw [joinS_two, joinS_one, empty_left, empty_right]
  rw [e, bunS_join (fun x hx => by
    have : x = ⟨#[]⟩ := by simpa using hx
    rw [this]; exact noSp_nil) (by simp) (by rw [← e]; decide)]
  simp only [bunL, stepB_nil]
end Go.Proofs.YtmgikhldkebjbaaDoor

/-
  strings.Split at a space, of texts that were joined.
-/
namespace Go.Proofs.YtmgikhldkebjbaaDoor
open Go.RowKit Go.Shelf Go.Sort
theorem ix_spI (t : ByteArray) : Lib.indexB t ⟨#[32]⟩ = spI t := Lib.index_one _ _
theorem split_join : ∀ (L : List ByteArray), (∀ x ∈ L, NoSp x) → L ≠ [] → Lib.countB (joinS L ⟨#[32]⟩) ⟨#[32]⟩ = L.length - 1 ∧ Lib.splitB ⟨#[32]⟩ 0 (L.length - 1) (joinS L ⟨#[32]⟩) = L
  | [], _, h => absurd rfl h
  | [x], hx, _ => by
    rw [joinS_one]
    have h : Lib.indexB x ⟨#[32]⟩ = -1 := (ix_spI x).trans (spI_no (hx x (by simp)))
    exact ⟨Lib.countB_miss _ _ h, Lib.splitB_miss _ _ _ _ h⟩
  | x :: y :: r, hx, _ => by
    obtain ⟨ih1, ih2⟩ := split_join (y :: r) (fun z hz => hx z (by simp [hz])) (by simp)
    rw [joinS_two]
    generalize joinS (y :: r) ⟨#[32]⟩ = t at *
    have h : Lib.indexB (x ++ (⟨#[32]⟩ ++ t)) ⟨#[32]⟩ = x.size := (ix_spI _).trans (spI_two (hx x (by simp)))
    have e : x.size = x.data.toList.length := by rw [Array.length_toList]; rfl
    have e0 : t.size = t.data.toList.length := by rw [Array.length_toList]; rfl
    have e1 : (⟨#[32]⟩ : ByteArray).size = 1 := rfl
    have hb : (x ++ (⟨#[32]⟩ ++ t) : ByteArray).extract (x.size + 1) (x ++ (⟨#[32]⟩ ++ t) : ByteArray).size = t := by
      refine bytes_ext ?_
      have e3 : (x ++ (⟨#[32]⟩ ++ t) : ByteArray).size = x.size + 1 + t.size := by
        rw [ByteArray.size_append, ByteArray.size_append]
        show x.size + (1 + t.size) = _
        omega
      have e4 : x.data.toList ++ ((⟨#[32]⟩ : ByteArray).data.toList ++ t.data.toList) = (x.data.toList ++ [32]) ++ t.data.toList := by simp
      rw [ext_list, append_list, append_list, e3, e4, List.drop_left' (by rw [List.length_append, ← e]; rfl), List.take_of_length_le (by omega)]
    have ha : (x ++ (⟨#[32]⟩ ++ t) : ByteArray).extract 0 (x.size + 0) = x := by
      refine bytes_ext ?_
      rw [ext_list, append_list, append_list, List.drop_zero, Nat.add_zero, Nat.sub_zero, e, List.take_left']
      rfl
    refine ⟨?_, ?_⟩
    · rw [Lib.countB_hit _ _ _ (by rw [e1]; omega) h, e1, hb, ih1]
      simp
      omega
    · have e5 : (x :: y :: r).length - 1 = ((y :: r).length - 1) + 1 := by simp
      rw [e5, Lib.splitB_hit _ _ _ _ _ h, ha, e1, hb, ih2]
/-- The library's variable holds some number. -/
def Mx (w : World) : Prop := ∃ m : Int, w.cell? ⟨0, 0, none⟩ = some (.int .i64 m)
theorem cell_in {w : World} {b o : Nat} {v : Value} (h : w.cell? ⟨b, o, none⟩ = some v) : b < w.heap.size := by
  rcases Nat.lt_or_ge b w.heap.size with h1 | h1
  · exact h1
  · have h2 : w.heap[b]? = none := Array.getElem?_eq_none h1
    unfold World.cell? at h
    simp [h2] at h
theorem Mx.below {w w' : World} (h : Mx w) (hb : Below w.heap.size w w') : Mx w' := by
  obtain ⟨m, h⟩ := h
  exact ⟨m, (hb.cell (p := ⟨_, 0, none⟩) (cell_in h)).trans h⟩
end Go.Proofs.YtmgikhldkebjbaaDoor

/-
  slices.Reverse on a row of texts.
-/
namespace Go.Proofs.YtmgikhldkebjbaaDoor
open Go.RowKit Go.Sort Go.Shelf Go.Proofs
theorem holds_texts {w : World} {g : Nat} {cur : Array Value} {ss : List ByteArray} (hh : w.heap[g]? = some (.cells cur 9 (0, 0))) (h3 : ∀ i (h : i < ss.length), w.cell? ⟨g, 0 + i, none⟩ = some (.string ss[i])) : Holds Value.string w g 0 ss.toArray := by
  intro j hj
  rw [List.size_toArray] at hj
  refine ⟨?_, frozen_block hh⟩
  have e : ss.toArray[j]! = ss[j] := by rw [getElem!_pos ss.toArray j (by simpa using hj)]; simp
  rw [e]
  exact h3 j hj
theorem reverse_texts (ss : List ByteArray) (v : Value) (w : World) (B : Nat) (h : OwnS w B v ss) (hl : ss.length ≤ 1000000000) : Calls Tryd.prog 12 #[v] w fun e w' => e = .returned (.tuple #[]) ∧ Ss w' v ss.reverse ∧ w.grownBy w' v.ownBlock := by
  have hss := h.ss
  obtain ⟨_, ⟨rfl, h0⟩ | ⟨g, cap, cur, rfl, hg, hh, hn, hm, hs, ht⟩⟩ := h
  · have hcon := AnyE.slices_Reverse_empty TrydRevL none 0 w
    change Calls Tryd.prog 12 _ _ _ at hcon
    refine hcon.mono ?_
    rintro e w' ⟨rfl, rfl⟩
    have : ss = [] := List.eq_nil_of_length_eq_zero h0
    subst this
    exact ⟨rfl, .inl ⟨rfl, rfl⟩, rfl, rfl, rfl, Nat.le_refl _, fun _ _ _ => rfl⟩
  · have h3 : ∀ i (h : i < ss.length), w.cell? ⟨g, 0 + i, none⟩ = some (.string ss[i]) := by
      rcases hss with ⟨h, _⟩ | ⟨b, off, cap', hv, _, _, _, h3⟩
      · cases h
      · cases hv; exact h3
    have hH := holds_texts hh h3
    have hcon := AnyE.slices_Reverse TrydRevL Value.string (fun _ => rfl) g 0 cap ss w hH (by omega)
    change Calls Tryd.prog 12 _ _ _ at hcon
    refine hcon.mono ?_
    rintro e w' ⟨rfl, n, rfl⟩
    have hP := holds_putRow Value.string (Sort.ahead w n) g 0 ss.toArray ss.reverse.toArray (holds_ahead Value.string w n g 0 ss.toArray hH) (by simp)
    have hgl : g < w.heap.size := (Array.getElem?_eq_some_iff.1 hh).1
    refine ⟨rfl, ?_, rfl, rfl, rfl, ?_, fun k hk hne => ?_⟩
    · refine .inr ⟨g, 0, cap, by rw [List.length_reverse], by rw [List.length_reverse]; exact hn, hm, ?_, fun i hi => ?_⟩
      · rw [size_putRow]; exact hgl
      · have hi' : i < ss.reverse.toArray.size := by simpa using hi
        have e : ss.reverse.toArray[i]! = ss.reverse[i] := by rw [getElem!_pos _ i hi']; simp
        rw [← e]
        exact (hP i hi').1
    · rw [size_putRow]; exact Nat.le_refl _
    · show (w.heap.modify g _)[k]? = w.heap[k]?
      have : k ≠ g := fun e => hne (by rw [e]; rfl)
      rw [Array.getElem?_modify, if_neg (by omega)]
/-- Where a row of one's own lies. -/
theorem ownS_ge {w : World} {base : Nat} {v : Value} {a : List ByteArray} (h : OwnS w base v a) {k : Nat} (e : v.ownBlock = some k) : base ≤ k ∧ k < w.heap.size := by
  refine ⟨?_, own_lt h e⟩
  obtain ⟨_, ⟨hv, _⟩ | ⟨g, _, _, hv, hg, _⟩⟩ := h
  · rw [hv] at e; cases e
  · rw [hv] at e; simp only [Value.ownBlock, Option.some.injEq] at e; omega
end Go.Proofs.YtmgikhldkebjbaaDoor

/-
  The library's contract of strings.Split, laid at this program's own numbers (a plain text).
-/
namespace Go.Proofs.YtmgikhldkebjbaaDoor
open Go.Shelf Go.Proofs
def TrydSplitL_ren : Go.Shelf.Ren := ⟨fun | 146 => 9 | 221 => 21 | 268 => 30 | 138 => 31 | 143 => 32 | 195 => 38 | 197 => 39 | 218 => 40 | 219 => 41 | 260 => 46 | 217 => 47 | 225 => 48 | 224 => 49 | 267 => 50 | 266 => 51 | 314 => 52 | n => n, fun | 9 => 9 | 31 => 26 | 3 => 3 | 4 => 4 | 0 => 0 | 105 => 84 | 21 => 21 | 5 => 5 | 46 => 91 | 119 => 92 | 139 => 95 | 138 => 94 | 146 => 96 | 51 => 22 | n => n, fun | 1 => 0 | 3 => 1 | 4 => 2 | n => n⟩
theorem TrydSplitL : Go.Proofs.Lays.n146 Tryd.prog TrydSplitL_ren := {
  mixed := by kernel_rfl,
  f138 := Tryd.func31.trans (congrArg some (by kernel_rfl)),
  f143 := Tryd.func32.trans (congrArg some (by kernel_rfl)),
  f146 := Tryd.func9.trans (congrArg some (by kernel_rfl)),
  f195 := Tryd.func38.trans (congrArg some (by kernel_rfl)),
  f197 := Tryd.func39.trans (congrArg some (by kernel_rfl)),
  f217 := Tryd.func47.trans (congrArg some (by kernel_rfl)),
  f218 := Tryd.func40.trans (congrArg some (by kernel_rfl)),
  f219 := Tryd.func41.trans (congrArg some (by kernel_rfl)),
  f221 := Tryd.func21.trans (congrArg some (by kernel_rfl)),
  f224 := Tryd.func49.trans (congrArg some (by kernel_rfl)),
  f225 := Tryd.func48.trans (congrArg some (by kernel_rfl)),
  f260 := Tryd.func46.trans (congrArg some (by kernel_rfl)),
  f266 := Tryd.func51.trans (congrArg some (by kernel_rfl)),
  f267 := Tryd.func50.trans (congrArg some (by kernel_rfl)),
  f268 := Tryd.func30.trans (congrArg some (by kernel_rfl)),
  f314 := Tryd.func52.trans (congrArg some (by kernel_rfl)),
  t0 := Tryd.underlying0,
  a0 := Tryd.isAgg0,
  z0 := Tryd.sizeOf0,
  v0 := Tryd.zeroValue0,
  t3 := Tryd.underlying3,
  a3 := Tryd.isAgg3,
  z3 := Tryd.sizeOf3,
  v3 := Tryd.zeroValue3,
  t4 := Tryd.underlying4,
  a4 := Tryd.isAgg4,
  z4 := Tryd.sizeOf4,
  v4 := Tryd.zeroValue4,
  t5 := Tryd.underlying5,
  a5 := Tryd.isAgg5,
  z5 := Tryd.sizeOf5,
  v5 := Tryd.zeroValue5,
  t9 := Tryd.underlying9,
  a9 := Tryd.isAgg9,
  z9 := Tryd.sizeOf9,
  v9 := Tryd.zeroValue9,
  t21 := Tryd.underlying21,
  a21 := Tryd.isAgg21,
  z21 := Tryd.sizeOf21,
  v21 := Tryd.zeroValue21,
  t31 := Tryd.underlying26,
  a31 := Tryd.isAgg26,
  z31 := Tryd.sizeOf26,
  v31 := Tryd.zeroValue26,
  t46 := Tryd.underlying91,
  a46 := Tryd.isAgg91,
  z46 := Tryd.sizeOf91,
  v46 := Tryd.zeroValue91,
  t51 := Tryd.underlying22,
  a51 := Tryd.isAgg22,
  z51 := Tryd.sizeOf22,
  v51 := Tryd.zeroValue22,
  t105 := Tryd.underlying84,
  a105 := Tryd.isAgg84,
  z105 := Tryd.sizeOf84,
  v105 := Tryd.zeroValue84,
  t119 := Tryd.underlying92,
  a119 := Tryd.isAgg92,
  z119 := Tryd.sizeOf92,
  t138 := Tryd.underlying94,
  a138 := Tryd.isAgg94,
  z138 := Tryd.sizeOf94,
  v138 := Tryd.zeroValue94,
  t139 := Tryd.underlying95,
  a139 := Tryd.isAgg95,
  z139 := Tryd.sizeOf95,
  v139 := Tryd.zeroValue95,
  t146 := Tryd.underlying96,
  a146 := Tryd.isAgg96,
  z146 := Tryd.sizeOf96,
  v146 := Tryd.zeroValue96,
  g1 := by kernel_rfl,
  g3 := by kernel_rfl,
  g4 := by kernel_rfl }
end Go.Proofs.YtmgikhldkebjbaaDoor

/-
  InventoryBack: clean.
-/
namespace Go.Proofs.YtmgikhldkebjbaaDoor
open Go.RowKit Go.Shelf Go.Sort
/-- The bits of the first n features. -/
def msk (n : Nat) : BitVec 32 := BitVec.ofNat 32 (2 ^ n - 1)
theorem msk_get (n j : Nat) (hj : j < 32) : (msk n).getLsbD j = decide (j < n) := by
  unfold msk
  rw [BitVec.getLsbD_ofNat, Nat.testBit_two_pow_sub_one]
  simp [hj]
def clP (n : Nat) (p : BitVec 32) : BitVec 32 := p &&& msk n
def clM (n : Nat) (p m : BitVec 32) : BitVec 32 := (m &&& ~~~p) &&& msk n
theorem clean_has (n : Nat) (p m : BitVec 32) : hasB n (clP n p, clM n p m) = true := by
  rw [hasB_bits]
  unfold clP clM
  refine ⟨fun j hj => ?_, fun j hj hj2 => ?_⟩
  · simp only [BitVec.getLsbD_and, BitVec.getLsbD_not, decide_eq_true hj, Bool.true_and]
    cases p.getLsbD j <;> simp
  · simp only [BitVec.getLsbD_and, msk_get n j hj2, decide_eq_false (Nat.not_lt.2 hj), Bool.and_false]
    exact ⟨trivial, trivial⟩
set_option maxRecDepth 100000 in
set_option maxHeartbeats 4000000 in
theorem clean_any (p m : BitVec 32) (n : Nat) (hn : n ≤ 24) (w : World) : Gives 5 #[.agg #[.int .u32 (p.toNat : Int), .int .u32 (m.toNat : Int)], .int .i64 (n : Int)] w (.agg #[.int .u32 ((clP n p).toNat : Int), .int .u32 ((clM n p m).toNat : Int)]) := by
  unfold Gives
  have hb0 := (Below.refl w.heap.size w).alloc (Nat.le_refl _) (.cells #[.int .u32 (p.toNat : Int), .int .u32 (m.toNat : Int)] 24)
  go_enter Tryd.func5, Tryd.ntmps5
  go_wp2_with fail
  have e1 : ((2 : Int) ^ n - 1) % 4294967296 = ((msk n).toNat : Int) := (by decide : ∀ k : Fin 25, ((2 : Int) ^ k.val - 1) % 4294967296 = ((msk k.val).toNat : Int)) ⟨n, by omega⟩
  have e2 : bits .and .u32 (p.toNat : Int) ((msk n).toNat : Int) = ((clP n p).toNat : Int) := b_and p (msk n)
  have e3 := b_andNot m p
  have e4 : bits .and .u32 ((m &&& ~~~p).toNat : Int) ((msk n).toNat : Int) = ((clM n p m).toNat : Int) := b_and (m &&& ~~~p) (msk n)
  simp only [e1, e2, e3, e4]
  clear e1 e2 e3 e4
  generalize clP n p = P at *
  generalize clM n p m = M at *
  have hb1 := hb0.alloc hb0.size (.cells #[.int .u32 (P.toNat : Int), .int .u32 (M.toNat : Int)] 24)
  go_returns
  exact ⟨rfl, hb1⟩
end Go.Proofs.YtmgikhldkebjbaaDoor

/-
  InventoryAny: Split; append in a region that draws its order; the size of a sound's text.
-/
namespace Go.Proofs.YtmgikhldkebjbaaDoor
open Go.RowKit Go.Shelf Go.Sort Go.Proofs
theorem txt_size {n : Nat} (hn : n ≤ 24) (s : Snd) : (txtS (nmL n) s).size ≤ 432 := by
  unfold txtS
  refine Nat.le_trans (joinS_size _ _ (by decide) (fun x hx => ?_)) ?_
  · have := (txtL_nosp hn hx).2
    omega
  · have := txtL_le s (nmL n) 0
    rw [nmL_len] at this
    omega
theorem split_any {L : List ByteArray} (h : ∀ x ∈ L, NoSp x) (hn : L ≠ []) (hs : (joinS L ⟨#[32]⟩).size < 4294967281) {w : World} (hm : Mx w) : Calls Tryd.prog 9 #[.string (joinS L ⟨#[32]⟩), .string ⟨#[32]⟩] w fun e w' => e = .returned (.slice (some ⟨w.heap.size, 0, none⟩) L.length L.length) ∧ Ss w' (.slice (some ⟨w.heap.size, 0, none⟩) L.length L.length) L ∧ Below w.heap.size w w' := by
  obtain ⟨m, hm⟩ := hm
  obtain ⟨e1, e2⟩ := split_join L h hn
  have hlen : L.length - 1 + 1 = L.length := by
    have := List.length_pos_iff.2 hn
    omega
  have hsz : L.length ≤ maxLen := by
    have h1 := Lib.countB_le ⟨#[32]⟩ (by decide) (joinS L ⟨#[32]⟩).size (joinS L ⟨#[32]⟩) (Nat.le_refl _)
    rw [e1] at h1
    unfold maxLen
    omega
  have hcon := Any.strings_Split TrydSplitL (by kernel_rfl) (joinS L ⟨#[32]⟩) ⟨#[32]⟩ m w hs hm (by decide)
  change Calls Tryd.prog 9 _ _ _ at hcon
  rw [e1, e2, hlen] at hcon
  refine hcon.mono ?_
  rintro e w' ⟨rfl, rfl⟩
  refine ⟨rfl, .inr ⟨w.heap.size, 0, L.length, rfl, Nat.le_refl _, hsz, by rw [World.size_alloc]; omega, fun i hi => ?_⟩, (Below.refl _ w).alloc (Nat.le_refl _) _⟩
  exact Lib.pieces_cell w L _ i L[i] (List.getElem?_eq_getElem hi)
/-- append of one row of texts to another of one's own, at a step of a region that draws its order. -/
theorem step_appT {ops : Array Oper} {o : Oper} {a : Act} {w : World} {K : Act → World → Prop} {Q : Exit → Act → World → Prop} {E : Prop} (hgd : o.guard = none) (s x : Operand)
    (ho : o.op = .call { callee := .builtin .append, args := #[s, x], argTypes := #[26, 26] })
    (base : Nat) (v u : Value) (ss ts : List ByteArray) (hs : a.eval s = v) (hx : a.eval x = u) (hown : OwnS w base v ss) (hw : Ss w u ts) (hlen : ss.length + ts.length ≤ 1000000000000) (hbase : base ≤ w.heap.size)
    (h : ∀ v' w', OwnS w' base v' (ss ++ ts) → w.grownBy w' v.ownBlock → K (a.put o.dst v') w') :
    if Region.wanted o (yielded ops a.tmps) = true then Oper.wp Tryd.prog o a w K Q else E := by
  have hwd : Region.wanted o (yielded ops a.tmps) = true := by simp [Region.wanted, hgd]
  rw [if_pos hwd]
  obtain ⟨i, hi, hz, hs1, hb1⟩ := info_parts infoStr
  rcases hw with ⟨rfl, rfl⟩ | ⟨b, off, cap, rfl, hc, hm, hb, h3⟩
  · have hrun := run_append_owned_none (P := Tryd.prog) (w := w) base 26 o.type 9 i 1 Tryd.underlying26 hi v ss.length (ss.map Value.string) hown
    unfold Oper.wp
    simp [execOp, ho, resolve, invoke, builtin, hs, hx, hrun, Result.andThen]
    exact h v w (by rw [List.append_nil]; exact hown) ⟨rfl, rfl, rfl, Nat.le_refl _, fun _ _ _ => rfl⟩
  · refine wp_append_own w s x 26 ho base _ i _ 1 16 Tryd.underlying26 hi hz hs1 hb1 rfl (by decide) v ss.length (ss.map Value.string) hs hown ⟨b, off, none⟩ ts.length cap (ts.map Value.string) hx (by simp) ?_ ?_ (Nat.le_trans hlen (by decide)) (by omega) hbase ?_
    · intro j y hy
      rw [List.getElem?_map, Option.map_eq_some_iff] at hy
      obtain ⟨z, hz, rfl⟩ := hy
      obtain ⟨hj, rfl⟩ := List.getElem?_eq_some_iff.1 hz
      rw [addr_addS, h3 j hj]
    · intro y hy
      obtain ⟨z, _, rfl⟩ := List.mem_map.1 hy
      rfl
    · intro v' w' ho' hg _
      refine h v' w' ?_ hg
      unfold OwnS
      rw [List.map_append, List.length_append]
      exact ho'
theorem neqY (a b c d : Int) (w : World) : (binOp .neq 24 (.agg #[.int .u32 a, .int .u32 b]) (.agg #[.int .u32 c, .int .u32 d])).run Tryd.prog w = .ok (.bool (!(a == c && b == d))) w := by
  simp only [binOp]
  simp [snd_equal]
theorem sgn_get (c : UInt8) (y : ByteArray) (h : 0 < ((⟨#[c]⟩ : ByteArray) ++ y).size) : ((⟨#[c]⟩ : ByteArray) ++ y)[0]'h = c := by
  show ((⟨#[c]⟩ : ByteArray) ++ y).data[0] = c
  have e : ((⟨#[c]⟩ : ByteArray) ++ y).data.toList[0]? = some c := by rw [sgn_list]; rfl
  rw [Array.getElem?_toList, Array.getElem?_eq_getElem (show 0 < ((⟨#[c]⟩ : ByteArray) ++ y).data.size from h)] at e
  exact Option.some.inj e
theorem Ss.from {w : World} {b N q : Nat} {L : List ByteArray} (h : Ss w (.slice (some ⟨b, 0, none⟩) N N) L) (hN : L.length = N) (hq : q < N) : Ss w (.slice (some ⟨b, q, none⟩) (N - q) (N - q)) (L.drop q) := by
  rcases h with ⟨h, _⟩ | ⟨b', off, cap, hv, hc, hm, hb, h3⟩
  · cases h
  · cases hv
    refine .inr ⟨b, q, L.length - q, by rw [List.length_drop], by rw [List.length_drop]; exact Nat.le_refl _, by omega, hb, fun i hi => ?_⟩
    rw [List.length_drop] at hi
    have := h3 (q + i) (by omega)
    rw [Nat.zero_add] at this
    rw [this, List.getElem_drop]
theorem Ss.upto {w : World} {b N q : Nat} {L : List ByteArray} (h : Ss w (.slice (some ⟨b, 0, none⟩) N N) L) (hN : L.length = N) (hq : q < N) : Ss w (.slice (some ⟨b, 0, none⟩) q N) (L.take q) := by
  rcases h with ⟨h, _⟩ | ⟨b', off, cap, hv, hc, hm, hb, h3⟩
  · cases h
  · cases hv
    have hl : (L.take q).length = q := by rw [List.length_take]; omega
    refine .inr ⟨b, 0, L.length, by rw [hl], by rw [hl]; omega, hm, hb, fun i hi => ?_⟩
    rw [hl] at hi
    have := h3 i (by omega)
    rw [this, List.getElem_take]
/-- A list of texts that was just written out. -/
theorem ss_arr (w : World) (l : List ByteArray) (h : l.length ≤ maxLen) : Ss (w.alloc (.cells (l.map Value.string).toArray 9)) (.slice (some ⟨w.heap.size, 0, none⟩) l.length l.length) l :=
  .inr ⟨w.heap.size, 0, l.length, rfl, Nat.le_refl _, h, by rw [World.size_alloc]; omega, fun i hi => Lib.pieces_cell w l _ i l[i] (List.getElem?_eq_getElem hi)⟩
end Go.Proofs.YtmgikhldkebjbaaDoor

/-
  InventoryAny: the walk.
-/
namespace Go.Proofs.YtmgikhldkebjbaaDoor
open Go.RowKit Go.Shelf Go.Sort
set_option maxRecDepth 100000 in
set_option maxHeartbeats 16000000 in
theorem orders_any (c : Nat) (hc : c ≤ 255) (p0 m0 : BitVec 32) (t : Nat) (ht : t ≤ 255) (w : World) (hMx : Mx w) : Gives 3 #[.int .u8 (c : Int), .agg #[.int .u32 (p0.toNat : Int), .int .u32 (m0.toNat : Int)], .int .u8 (t : Int)] w (.bool true) := by
  unfold Gives
  obtain ⟨n, hn⟩ : ∃ n, c % 25 = n := ⟨_, rfl⟩
  have hn24 : n ≤ 24 := by omega
  have c1 : (c : Int) % 25 = (n : Int) := by omega
  have c2 : Int.tmod (c : Int) 25 = (n : Int) := by rw [Int.tmod_eq_emod_of_nonneg (by omega)]; omega
  have hN := fun W => numbered_any n hn24 W
  have hK := fun W => clean_any p0 m0 n hn24 W
  have hhas := clean_has n p0 m0
  generalize clP n p0 = p at *
  generalize clM n p0 m0 = m at *
  have HN := Lib.hid hN; have HK := Lib.hid hK; have HH := Lib.hid hhas; have HMX := Lib.hid hMx
  have hb0 := (Below.refl w.heap.size w).alloc (Nat.le_refl _) (.cells #[.int .u32 (p0.toNat : Int), .int .u32 (m0.toNat : Int)] 24)
  have k0 := cell_block (World.alloc_heap_new w (.cells #[.int .u32 (p0.toNat : Int), .int .u32 (m0.toNat : Int)] 24)) (o := 0) rfl
  have k1 := cell_block (World.alloc_heap_new w (.cells #[.int .u32 (p0.toNat : Int), .int .u32 (m0.toNat : Int)] 24)) (o := 1) rfl
  clear hN hK hhas hn hMx
  go_enter Tryd.func3, Tryd.ntmps3
  go_wp2_with fail
  go_at_call 4
  refine (HN.out _).mono ?_
  rintro e w1 ⟨hb1, B, nv, bf, bs, by_, lv, rfl, hI, ho⟩
  have hw1 := hb0.trans (hb1.mono hb0.size)
  have r0 := (hb1.cell (p := ⟨w.heap.size, 0, none⟩) (by simp)).trans k0
  have r1 := (hb1.cell (p := ⟨w.heap.size, 1, none⟩) (by simp)).trans k1
  have f0 := (hb1.frozen (p := ⟨w.heap.size, 0, none⟩) (by simp)).trans (frozen_block (World.alloc_heap_new w _))
  have f1 := (hb1.frozen (p := ⟨w.heap.size, 1, none⟩) (by simp)).trans (frozen_block (World.alloc_heap_new w _))
  have lw : w.heap.size < w1.heap.size := by have := hb1.size; rw [World.size_alloc] at this; omega
  rw [World.size_alloc] at hI ho
  obtain ⟨al, cl, hlv, -, -, -⟩ := ho.ss.open
  rw [nmL_len] at hlv
  subst hlv
  have HI1 := Lib.hid hI; have HW1 := Lib.hid hw1
  clear hI ho hw1 hb1 k0 k1 hb0 HN
  go_wp2_with fail
  go_at_call 5
  refine Gives.then (HK.out _) ?_
  intro w2 hb2
  have r0 := (hb2.cell (p := ⟨w.heap.size, 0, none⟩) lw).trans r0
  have r1 := (hb2.cell (p := ⟨w.heap.size, 1, none⟩) lw).trans r1
  have f0 := (hb2.frozen (p := ⟨w.heap.size, 0, none⟩) lw).trans f0
  have f1 := (hb2.frozen (p := ⟨w.heap.size, 1, none⟩) lw).trans f1
  have lw := Nat.lt_of_lt_of_le lw hb2.size
  have HI2 := Lib.hid (HI1.out.below hb2); have HW2 := Lib.hid (HW1.out.trans (hb2.mono HW1.out.size))
  clear hb2 HI1 HW1 HK
  go_wp2_with fail
  obtain ⟨w3, h3⟩ : ∃ x, x = ((w2.setCell ⟨w.heap.size, 0, none⟩ (.int .u32 (p.toNat : Int))).setCell ⟨w.heap.size, 1, none⟩ (.int .u32 (m.toNat : Int))) := ⟨_, rfl⟩
  have hg1 := set_grown w2 w.heap.size 0 (.int .u32 (p.toNat : Int))
  have hg2 := set_grown (w2.setCell ⟨w.heap.size, 0, none⟩ (.int .u32 (p.toNat : Int))) w.heap.size 1 (.int .u32 (m.toNat : Int))
  have hab : Above (w.heap.size + 1) w2 w3 := by
    rw [h3]
    exact fun k q1 q2 => (above_grown hg2 (fun k e => by cases e; omega) k q1 (Nat.lt_of_lt_of_le q2 hg1.size)).trans (above_grown hg1 (fun k e => by cases e; omega) k q1 q2)
  have e0 : w3.cell? ⟨w.heap.size, 0, none⟩ = some (.int .u32 (p.toNat : Int)) := by rw [h3]; go_cell
  have e1 : w3.cell? ⟨w.heap.size, 1, none⟩ = some (.int .u32 (m.toNat : Int)) := by rw [h3]; go_cell
  have hw3 : Below w.heap.size w w3 := by rw [h3]; exact (HW2.out.setCell (p := ⟨w.heap.size, 0, none⟩) (Nat.le_refl _) _).setCell (p := ⟨w.heap.size, 1, none⟩) (Nat.le_refl _) _
  have lw3 : w.heap.size < w3.heap.size := by rw [h3]; exact Nat.lt_of_lt_of_le (Nat.lt_of_lt_of_le lw hg1.size) hg2.size
  have hI3 := HI2.out.above hab
  rw [← h3]
  have hl24 : (nmL n).length ≤ 24 := by rw [nmL_len]; exact hn24
  have hhb : hasB (nmL n).length (p, m) = true := by rw [nmL_len]; exact HH.out
  have htsz : (txtS (nmL n) (p, m)).size ≤ 432 := txt_size hn24 _
  have htx := text_any hI3 hl24 (p, m) hhb (fun x hx => by
    obtain ⟨i, _, rfl⟩ := nmL_mem hx
    show (2 : Nat) ≤ 1000
    omega) (by omega)
  unfold snv at htx
  have hBu : ∀ (W : World) (u : ByteArray), Below w3.heap.size w3 W → u.size ≤ 100000 → Gives 7 #[.pointer (some ⟨B, 0, none⟩), .string u] W (bunV (bunS (nmL n) u)) := fun W u hb hu => bundle_any (hI3.below hb) hl24 u (by omega)
  have HTX := Lib.hid htx; have HBU := Lib.hid hBu; have HW3 := Lib.hid hw3; have HHB := Lib.hid hhb; have HTS := Lib.hid htsz
  clear htx hBu hw3 hI3 hab hg1 hg2 h3 r0 r1 f0 f1 lw HI2 HW2 hhb hl24 htsz
  refine Gives.then HTX.out ?_
  intro w4 hb4
  have r0 := (hb4.cell (p := ⟨w.heap.size, 0, none⟩) lw3).trans e0
  have r1 := (hb4.cell (p := ⟨w.heap.size, 1, none⟩) lw3).trans e1
  have lw4 := Nat.lt_of_lt_of_le lw3 hb4.size
  have HB4 := Lib.hid hb4
  have HW4 := Lib.hid (HW3.out.trans (hb4.mono HW3.out.size))
  clear hb4 e0 e1 HTX lw3
  by_cases hnil : txtL (p, m) 0 (nmL n) = []
  · have hpm := txt_bundle_all (nmL_new n hn24) HHB.out
    have hS : txtS (nmL n) (p, m) = ⟨#[]⟩ := by unfold txtS; rw [hnil]; rfl
    rw [hnil] at hpm
    cases hpm
    rw [hS]
    have hbu := HBU.out w4 ⟨#[32]⟩ HB4.out (by decide)
    rw [bad0] at hbu
    unfold bunV snv at hbu
    have HBu := Lib.hid hbu
    clear hbu hnil hS HBU
    go_wp2_with fail
    go_at_call 7
    refine Gives.then HBu.out ?_
    intro w5 hb5
    have r0 := (hb5.cell (p := ⟨w.heap.size, 0, none⟩) lw4).trans r0
    have r1 := (hb5.cell (p := ⟨w.heap.size, 1, none⟩) lw4).trans r1
    have lw5 := Nat.lt_of_lt_of_le lw4 hb5.size
    have t0 := fun X => cell_past (X := X) lw5 r0
    have t1 := fun X => cell_past (X := X) lw5 r1
    have hw5 := HW4.out.trans (hb5.mono HW4.out.size)
    have HW6 := Lib.hid (hw5.alloc hw5.size (.cells #[.int .u32 0, .int .u32 0] 24))
    clear hb5 hw5 HBu
    go_wp2_with (go_at_call 8; refine Gives.then (works_any _) ?_; intro w7 hb7)
    go_returns
    exact ⟨rfl, HW6.out.trans (hb7.mono HW6.out.size)⟩
  · have hit := items_of hn24 HHB.out hnil
    have hTL : txtS (nmL n) (p, m) = joinS (txtL (p, m) 0 (nmL n)) ⟨#[32]⟩ := rfl
    have hLn : (txtL (p, m) 0 (nmL n)).length ≤ 24 := Nat.le_trans (txtL_le _ _ _) (by rw [nmL_len]; exact hn24)
    have HT2 : Hid ((joinS (txtL (p, m) 0 (nmL n)) ⟨#[32]⟩).size ≤ 432) := Lib.hid HTS.out
    rw [hTL]
    clear hnil hTL HTS
    generalize txtL (p, m) 0 (nmL n) = L at *
    obtain ⟨T, hT⟩ : ∃ T, joinS L ⟨#[32]⟩ = T := ⟨_, rfl⟩
    have hTp : 0 < T.size := by
      obtain ⟨y, hy, h0⟩ := hit.one
      rw [← hT]; exact join_pos ⟨y, hy, h0⟩
    have g1 : T.toList.isEmpty = false := by rw [empty_toList, decide_eq_false (by omega)]
    have hsp := fun W (hm : Mx W) => split_any hit.no hit.ne (by have := HT2.out; omega) (w := W) hm
    rw [hT] at HT2 hsp ⊢
    have HIT := Lib.hid hit; have HSPL := Lib.hid hsp; have HTe := Lib.hid hT
    obtain ⟨N, hNL⟩ : ∃ N, L.length = N := ⟨_, rfl⟩
    have hN0 : 0 < N := by rw [← hNL]; exact List.length_pos_iff.2 hit.ne
    have hN24 : N ≤ 24 := by omega
    have HNL := Lib.hid hNL
    clear hit hsp hLn hT hTp hNL
    go_wp2_with fail
    go_at_call 9
    refine (HSPL.out _ (HMX.out.below HW4.out)).mono ?_
    rintro e w5 ⟨rfl, hs5, hb5⟩
    rw [HNL.out] at hs5 ⊢
    have r0 := (hb5.cell (p := ⟨w.heap.size, 0, none⟩) lw4).trans r0
    have r1 := (hb5.cell (p := ⟨w.heap.size, 1, none⟩) lw4).trans r1
    have lw5 := Nat.lt_of_lt_of_le lw4 hb5.size
    have HB5 := Lib.hid (HB4.out.trans (hb5.mono HB4.out.size)); have HW5 := Lib.hid (HW4.out.trans (hb5.mono HW4.out.size)); have HS5 := Lib.hid hs5
    obtain ⟨q, hq⟩ : ∃ q, t % N = q := ⟨_, rfl⟩
    have hqN : q < N := by rw [← hq]; exact Nat.mod_lt _ hN0
    have c3 : (t : Int) % (N : Int) = (q : Int) := by rw [← hq]; exact (Int.natCast_emod t N).symm
    have c4 : Int.tmod (t : Int) (N : Int) = (q : Int) := by rw [Int.tmod_eq_emod_of_nonneg (by omega)]; exact c3
    have n1 : ¬ (N : Int) = 0 := by omega
    have n2 : ¬ N = 0 := by omega
    have n3 : (N : Int) ≠ -1 := by omega
    clear hb5 hs5 hq HSPL
    have HQ0 := Lib.hid r0; have HQ1 := Lib.hid r1
    have hqN2 : ¬ N = q := by omega
    have hqN3 : q ≤ N := by omega
    have hdr := Below.drew (Below.refl w5.heap.size w5)
    have hS5d := HS5.out.below hdr
    have hfr := hS5d.from HNL.out hqN
    have hcl := cloneS_any (L.drop q) _ w5.drew (by rw [List.length_drop, HNL.out]; omega) hfr
    have HCL := Lib.hid hcl
    have HR1 := Lib.hid (HIT.out.turned q); have HR2 := Lib.hid (HIT.out.back q)
    have HRL : Hid ((L.drop q ++ L.take q).length = N) := Lib.hid (by rw [List.length_append, List.length_drop, List.length_take, HNL.out]; omega)
    have HRX : Hid (∀ x ∈ L.drop q ++ L.take q, x.size ≤ 17) := Lib.hid (fun x hx => by
      have : x ∈ L := by
        rcases List.mem_append.1 hx with h | h
        · exact List.mem_of_mem_drop h
        · exact List.mem_of_mem_take h
      have := HIT.out.three x this
      omega)
    clear hdr hS5d hfr hcl
    go_wp2_with fail
    go_region_law (first
      | (go_simp; go_at_call 10; refine HCL.out.mono ?_; rintro e w6 ⟨v6, rfl, ho6, hb6⟩; obtain ⟨a6, c6, hv6, -, -, -⟩ := ho6.ss.open; rw [List.length_drop, HNL.out] at hv6; subst hv6; have HO6 := Lib.hid ho6; have HB6 : Hid (Below w5.heap.size w5 w6) := Lib.hid ((Below.drew (Below.refl w5.heap.size w5)).trans hb6); clear ho6 hb6)
      | (refine step_appT rfl (.tmp 72) (.tmp 75) rfl w5.heap.size (.slice a6 (N - q) c6) (.slice (some ⟨w4.heap.size, 0, none⟩) q N) (L.drop q) (L.take q) rfl rfl HO6.out ((HS5.out.below HB6.out).upto HNL.out hqN) ?_ ?_ ?_; (next => (rw [List.length_drop, List.length_take, HNL.out]; omega)); (next => exact HB6.out.size); intro v7 w7 ho7 hg7; obtain ⟨a7, c7, hv7, -, -, -⟩ := ho7.ss.open; rw [HRL.out] at hv7; subst hv7; have HO7 := Lib.hid ho7; have HC7 := Lib.hid (HB6.out.grown hg7 HB6.out.size (fun k e => (ownS_ge HO6.out e).1)); clear ho7 hg7))
    generalize L.drop q ++ L.take q = R at *
    obtain ⟨J, hJ⟩ : ∃ J, joinS R ⟨#[32]⟩ = J := ⟨_, rfl⟩
    obtain ⟨J2, hJ2⟩ : ∃ J2, joinS R.reverse ⟨#[32]⟩ = J2 := ⟨_, rfl⟩
    have hJs : J.size ≤ 432 := by
      have := joinS_size R ⟨#[32]⟩ (by decide) HRX.out
      rw [hJ, HRL.out] at this; omega
    have hJ2s : J2.size ≤ 432 := by
      have := joinS_size R.reverse ⟨#[32]⟩ (by decide) (fun x hx => HRX.out x (List.mem_reverse.1 hx))
      rw [hJ2, List.length_reverse, HRL.out] at this; omega
    rw [hJ] at HR1
    rw [hJ2] at HR2
    have hjo := join_any HO7.out.ss ⟨#[32]⟩ (by rw [HRL.out]; omega) (by rw [hJ]; omega)
    rw [hJ] at hjo
    have HJO := Lib.hid hjo; have HJ2 := Lib.hid hJ2; have HJs := Lib.hid hJs; have HJ2s := Lib.hid hJ2s
    clear hjo hJ hJ2 hJs hJ2s HRX HCL HO6 HB6
    go_wp2_with fail
    go_at_call 11
    refine Gives.then HJO.out ?_
    intro w8 hb8
    have HC8 := Lib.hid (HC7.out.trans (hb8.mono HC7.out.size))
    have HO8 := Lib.hid (HO7.out.below hb8)
    have hz8 := hb8.size
    have hbu := HBU.out w8 J (HB5.out.trans (HC8.out.mono HB5.out.size)) (Nat.le_trans HJs.out (by decide))
    rw [HR1.out] at hbu
    unfold bunV snv at hbu
    have HBu := Lib.hid hbu
    clear hb8 hbu HJO
    go_wp2_with fail
    go_at_call 7
    refine Gives.then HBu.out ?_
    intro w9 hb9
    have HC9 := Lib.hid (HC8.out.trans (hb9.mono HC8.out.size))
    have hcw := HC9.out.alloc HC9.out.size (.cells #[.int .u32 (p.toNat : Int), .int .u32 (m.toNat : Int)] 24)
    have ho10 := (HO8.out.below hb9).below ((Below.refl _ w9).alloc (Nat.le_refl _) (.cells #[.int .u32 (p.toNat : Int), .int .u32 (m.toNat : Int)] 24))
    have r0 := (hcw.cell (p := ⟨w.heap.size, 0, none⟩) lw5).trans r0
    have r1 := (hcw.cell (p := ⟨w.heap.size, 1, none⟩) lw5).trans r1
    have s0 := cell_block (World.alloc_heap_new w9 (.cells #[.int .u32 (p.toNat : Int), .int .u32 (m.toNat : Int)] 24)) (o := 0) rfl
    have s1 := cell_block (World.alloc_heap_new w9 (.cells #[.int .u32 (p.toNat : Int), .int .u32 (m.toNat : Int)] 24)) (o := 1) rfl
    have f0 := frozen_block (o := 0) (World.alloc_heap_new w9 (.cells #[.int .u32 (p.toNat : Int), .int .u32 (m.toNat : Int)] 24))
    have f1 := frozen_block (o := 1) (World.alloc_heap_new w9 (.cells #[.int .u32 (p.toNat : Int), .int .u32 (m.toNat : Int)] 24))
    have g3 := fun W => neqY (p.toNat : Int) (m.toNat : Int) (p.toNat : Int) (m.toNat : Int) W
    have g2 : (!((p.toNat : Int) == (p.toNat : Int) && (m.toNat : Int) == (m.toNat : Int))) = false := by simp
    rw [g2] at g3
    obtain ⟨D, hD⟩ : ∃ D, w9.heap.size = D := ⟨_, rfl⟩
    have hz9 := hb9.size
    have hfar : ∀ k, Value.ownBlock (.slice a7 N c7) = some k → w5.heap.size ≤ k ∧ k < D := fun k e => ⟨(ownS_ge HO7.out e).1, by have := (ownS_ge HO7.out e).2; omega⟩
    have hrev := reverse_texts R (.slice a7 N c7) _ w5.heap.size ho10 (by rw [HRL.out]; omega)
    have HREV := Lib.hid hrev; have HFAR := Lib.hid hfar; have HCW := Lib.hid hcw
    have lD : D < (w9.alloc (.cells #[.int .u32 (p.toNat : Int), .int .u32 (m.toNat : Int)] 24)).heap.size := by rw [World.size_alloc]; omega
    clear hb9 hcw ho10 g2 hrev hfar HBu HO7 HO8 hz8 hz9
    have hbD := World.alloc_heap_new w9 (.cells #[.int .u32 (p.toNat : Int), .int .u32 (m.toNat : Int)] 24)
    rw [hD] at hbD
    have HBD := Lib.hid hbD
    clear hbD
    go_wp2_with fail
    go_at_call 12
    refine HREV.out.mono ?_
    rintro e w11 ⟨rfl, hs11, hg11⟩
    have hb11 := (hg11.block D lD (fun e => by have := (HFAR.out D e.symm).2; omega)).trans HBD.out
    have hc11 := HCW.out.grown hg11 HCW.out.size (fun k e => (HFAR.out k e).1)
    have lD := Nat.lt_of_lt_of_le lD hg11.size
    have hjo := join_any hs11 ⟨#[32]⟩ (by rw [List.length_reverse, HRL.out]; omega) (by rw [HJ2.out]; have := HJ2s.out; omega)
    rw [HJ2.out] at hjo
    have HJO := Lib.hid hjo; have HC11 := Lib.hid hc11; have HD11 := Lib.hid hb11
    clear hs11 hg11 hb11 hc11 hjo HREV HCW HBD s0 s1 f0 f1 r0 r1
    go_wp2_with fail
    go_at_call 11
    refine Gives.then HJO.out ?_
    intro w12 hb12
    have HC12 := Lib.hid (HC11.out.trans (hb12.mono HC11.out.size)); have HD12 := Lib.hid ((hb12.block D lD).trans HD11.out)
    have lD := Nat.lt_of_lt_of_le lD hb12.size
    have hbu := HBU.out w12 J2 (HB5.out.trans (HC12.out.mono HB5.out.size)) (Nat.le_trans HJ2s.out (by decide))
    rw [HR2.out] at hbu
    unfold bunV snv at hbu
    have HBu := Lib.hid hbu
    clear hb12 hbu HJO HC11 HD11
    go_wp2_with fail
    go_at_call 7
    refine Gives.then HBu.out ?_
    intro w13 hb13
    have HC13 := Lib.hid (HC12.out.trans (hb13.mono HC12.out.size)); have hD13 := (hb13.block D lD).trans HD12.out
    have lD := Nat.lt_of_lt_of_le lD hb13.size
    have s0 := cell_block hD13 (o := 0) rfl
    have s1 := cell_block hD13 (o := 1) rfl
    have f0 := frozen_block (o := 0) hD13
    have f1 := frozen_block (o := 1) hD13
    have hlD : w.heap.size < D := by rw [← hD]; exact Nat.lt_of_lt_of_le lw5 HC9.out.size
    have hset := (((Below.refl D w13).setCell (p := ⟨D, 0, none⟩) (Nat.le_refl _) (.int .u32 (p.toNat : Int))).setCell (p := ⟨D, 1, none⟩) (Nat.le_refl _) (.int .u32 (m.toNat : Int)))
    have q0 := (hset.cell (p := ⟨w.heap.size, 0, none⟩) hlD).trans ((HC13.out.cell (p := ⟨w.heap.size, 0, none⟩) lw5).trans HQ0.out)
    have q1 := (hset.cell (p := ⟨w.heap.size, 1, none⟩) hlD).trans ((HC13.out.cell (p := ⟨w.heap.size, 1, none⟩) lw5).trans HQ1.out)
    have hqL : q < L.length := by rw [HNL.out]; exact hqN
    obtain ⟨Z, hZe⟩ : ∃ Z, L[q]'hqL = Z := ⟨_, rfl⟩
    have l45 : w4.heap.size < D := by
      obtain ⟨_, _, hv, _, _, hcl⟩ := HS5.out.open
      obtain ⟨_, _, e1, e2, _⟩ := hcl q hqL
      cases hv; cases e1
      rw [← hD]; exact Nat.lt_of_lt_of_le e2 HC9.out.size
    have z5 : w5.cell? ⟨w4.heap.size, q, none⟩ = some (.string Z) := by
      obtain ⟨_, _, hv, _, _, hcl⟩ := HS5.out.open
      obtain ⟨_, _, e1, e2, e3⟩ := hcl q hqL
      cases hv; cases e1
      rw [Nat.zero_add] at e3
      rw [← hZe]; exact e3
    have l5 : w4.heap.size < w5.heap.size := by
      obtain ⟨_, _, hv, _, _, hcl⟩ := HS5.out.open
      obtain ⟨_, _, e1, e2, _⟩ := hcl q hqL
      cases hv; cases e1
      exact e2
    have z14 := (hset.cell (p := ⟨w4.heap.size, q, none⟩) l45).trans ((HC13.out.cell (p := ⟨w4.heap.size, q, none⟩) l5).trans z5)
    obtain ⟨ch, i, hch, hi, hZ⟩ := HIT.out.form _ (List.getElem_mem hqL)
    rw [hZe] at hZ
    have hget : ∀ h : 0 < Z.size, Z[0]'h = ch := by rw [hZ]; exact fun h => sgn_get ch (nmI i) h
    have hZs : Z.size = 3 := by rw [← hZe]; exact HIT.out.three _ (List.getElem_mem hqL)
    have hz1 : 1 ≤ Z.size := by omega
    have hz0 : 0 < Z.size := by omega
    obtain ⟨x, hx⟩ : ∃ x, Z.extract 1 Z.size = x := ⟨_, rfl⟩
    have hxs : x.size = 2 := by rw [← hx, ByteArray.size_extract]; omega
    have HC14 := Lib.hid (HC13.out.trans (hset.mono (by rw [← hD]; exact HC9.out.size)))
    have HZe := Lib.hid hZe; have HX := Lib.hid hx; have HZs := Lib.hid hZs; have HXs := Lib.hid hxs; have HZ5 := Lib.hid z5; have L5 := Lib.hid l5
    clear hb13 hD13 HBu HC12 HD12 hset hZe hx hZs hxs hZ l45 r0 r1 z5 l5
    rcases hch with rfl | rfl
    · go_wp2_with fail
      refine wp_gen ?_
      intro w14 hw14
      rw [← hw14] at HC14
      clear hw14 q0 q1 z14 hget s0 s1 f0 f1 g3 lD hlD
      obtain ⟨P1, hP1⟩ : ∃ P1, joinS (L.take q) ⟨#[32]⟩ = P1 := ⟨_, rfl⟩
      obtain ⟨P2, hP2⟩ : ∃ P2, joinS (L.drop q) ⟨#[32]⟩ = P2 := ⟨_, rfl⟩
      have hP1s : P1.size ≤ 432 := by
        have := joinS_size (L.take q) ⟨#[32]⟩ (by decide) (fun x hx => by have := HIT.out.three x (List.mem_of_mem_take hx); omega)
        rw [hP1, List.length_take, HNL.out] at this; omega
      have hP2s : P2.size ≤ 432 := by
        have := joinS_size (L.drop q) ⟨#[32]⟩ (by decide) (fun x hx => by have := HIT.out.three x (List.mem_of_mem_drop hx); omega)
        rw [hP2, List.length_drop, HNL.out] at this; omega
      have hj1 : ∀ W, Below w5.heap.size w5 W → Gives 11 #[.slice (some ⟨w4.heap.size, 0, none⟩) q N, .string ⟨#[32]⟩] W (.string P1) := fun W hW => by
        have := join_any ((HS5.out.below hW).upto HNL.out hqN) ⟨#[32]⟩ (by rw [List.length_take, HNL.out]; omega) (by rw [hP1]; omega)
        rw [hP1] at this
        exact this
      have hj2 : ∀ W, Below w5.heap.size w5 W → Gives 11 #[.slice (some ⟨w4.heap.size, q, none⟩) (N - q) (N - q), .string ⟨#[32]⟩] W (.string P2) := fun W hW => by
        have := join_any ((HS5.out.below hW).from HNL.out hqN) ⟨#[32]⟩ (by rw [List.length_drop, HNL.out]; omega) (by rw [hP2]; omega)
        rw [hP2] at this
        exact this
      have kz : ∀ W, Below w5.heap.size w5 W → W.cell? ⟨w4.heap.size, q, none⟩ = some (.string Z) ∧ Below w5.heap.size w5 W := fun W h => ⟨(h.cell (p := ⟨w4.heap.size, q, none⟩) L5.out).trans HZ5.out, h⟩
      obtain ⟨M, hM⟩ : ∃ M : List ByteArray, M = [⟨#[32]⟩ ++ T, T ++ ⟨#[32]⟩, (P1 ++ ⟨#[32, 32]⟩) ++ P2, (T ++ ⟨#[32]⟩) ++ Z, ((T ++ ⟨#[32]⟩) ++ ⟨#[45]⟩) ++ x, x, T ++ ⟨#[120]⟩, T ++ ⟨#[32, 43]⟩, T ++ ⟨#[32, 45, 122, 57]⟩] := ⟨_, rfl⟩
      have hMb : ∀ y ∈ M, bunS (nmL n) y = none ∧ y.size ≤ 100000 := by
        have e1 : (⟨#[32]⟩ : ByteArray).size = 1 := rfl
        have e2 : (⟨#[32, 32]⟩ : ByteArray).size = 2 := rfl
        have e3 : (⟨#[45]⟩ : ByteArray).size = 1 := rfl
        have e4 : (⟨#[120]⟩ : ByteArray).size = 1 := rfl
        have e5 : (⟨#[32, 43]⟩ : ByteArray).size = 2 := rfl
        have e6 : (⟨#[32, 45, 122, 57]⟩ : ByteArray).size = 4 := rfl
        have hTs := HT2.out; have hZs := HZs.out; have hXs := HXs.out
        have b1 := bad1 HIT.out; have b2 := bad2 HIT.out; have b3 := bad3 HIT.out q hqL; have b4 := bad4 HIT.out q hqL
        have b5 := bad5 HIT.out q hqL 45 (by decide); have b6 := bad6 HIT.out q hqL; have b7 := bad7 HIT.out; have b8 := bad8 HIT.out; have b9 := bad9 HIT.out
        rw [HTe.out] at b1 b2 b4 b5 b7 b8 b9
        rw [hP1, hP2] at b3
        rw [HZe.out] at b4 b5 b6
        rw [HX.out] at b5 b6
        rw [hM]
        intro y hy
        simp only [List.mem_cons, List.not_mem_nil, or_false] at hy
        rcases hy with rfl | rfl | rfl | rfl | rfl | rfl | rfl | rfl | rfl
        · exact ⟨b1, by rw [ByteArray.size_append]; omega⟩
        · exact ⟨b2, by rw [ByteArray.size_append]; omega⟩
        · exact ⟨b3, by rw [ByteArray.size_append, ByteArray.size_append]; omega⟩
        · exact ⟨b4, by rw [ByteArray.size_append, ByteArray.size_append]; omega⟩
        · exact ⟨b5, by rw [ByteArray.size_append, ByteArray.size_append, ByteArray.size_append]; omega⟩
        · exact ⟨b6, by omega⟩
        · exact ⟨b7, by rw [ByteArray.size_append]; omega⟩
        · exact ⟨b8, by rw [ByteArray.size_append]; omega⟩
        · exact ⟨b9, by rw [ByteArray.size_append]; omega⟩
      have hMs : ∀ w : World, Ss (w.alloc (.cells #[.string (⟨#[32]⟩ ++ T), .string (T ++ ⟨#[32]⟩), .string ((P1 ++ ⟨#[32, 32]⟩) ++ P2), .string ((T ++ ⟨#[32]⟩) ++ Z), .string (((T ++ ⟨#[32]⟩) ++ ⟨#[45]⟩) ++ x), .string x, .string (T ++ ⟨#[120]⟩), .string (T ++ ⟨#[32, 43]⟩), .string (T ++ ⟨#[32, 45, 122, 57]⟩)] 9)) (.slice (some ⟨w.heap.size, 0, none⟩) 9 9) M := fun w => by
        rw [hM]
        exact ss_arr w [⟨#[32]⟩ ++ T, T ++ ⟨#[32]⟩, (P1 ++ ⟨#[32, 32]⟩) ++ P2, (T ++ ⟨#[32]⟩) ++ Z, ((T ++ ⟨#[32]⟩) ++ ⟨#[45]⟩) ++ x, x, T ++ ⟨#[120]⟩, T ++ ⟨#[32, 43]⟩, T ++ ⟨#[32, 45, 122, 57]⟩] (show 9 ≤ maxLen by decide)
      have hTs := HT2.out; have hZs := HZs.out; have hXs := HXs.out
      have o1 : ¬ (9223372036854775807 < 1 + T.size) := by omega
      have o2 : ¬ (9223372036854775807 < T.size + 1) := by omega
      have o3 : ¬ (9223372036854775807 < P1.size + 2) := by omega
      have o4 : ¬ (9223372036854775807 < P1.size + 2 + P2.size) := by omega
      have o5 : ¬ (9223372036854775807 < T.size + 1 + Z.size) := by omega
      have o6 : ¬ (9223372036854775807 < T.size + 1 + 1) := by omega
      have o7 : ¬ (9223372036854775807 < T.size + 1 + 1 + x.size) := by omega
      have o8 : ¬ (9223372036854775807 < T.size + 2) := by omega
      have o9 : ¬ (9223372036854775807 < T.size + 4) := by omega
      have hx := HX.out
      have hz2 : (1 : Int) ≤ (Z.size : Int) := by omega
      have hz3 : (0 : Int) ≤ (q : Int) := by omega
      have hz4 : (q : Int) ≤ (N : Int) := by omega
      have hB0 : Below w5.heap.size w5 w14.drew := HC14.out.drew
      have HJ1 := Lib.hid hj1; have HJ2 := Lib.hid hj2; have KZ := Lib.hid kz; have HMb := Lib.hid hMb; have HMs := Lib.hid hMs
      have hML : M.length = 9 := by rw [hM]; rfl
      have HML := Lib.hid hML
      clear hP1 hP2 hP1s hP2s hj1 hj2 kz hM hMb hMs hML hTs hZs hXs HTe HZe HX HR1 HR2 HJs HJ2s HFAR
      go_region_held3 (fun W => W.cell? ⟨w4.heap.size, q, none⟩ = some (.string Z) ∧ Below w5.heap.size w5 W)
        (first | exact KZ.out _ hB1 | exact KZ.out _ hB0 | exact KZ.out _ (hB1.alloc hB1.size _))
        (first
          | (go_at_call 11; (with_reducible refine Gives.then (HJ1.out _ ?_) ?_); (next => first | exact hB1 | exact hB0); intro wj hbj; have hB1 : Below w5.heap.size w5 wj := chB (by first | exact hB1 | exact hB0) hbj)
          | (go_at_call 11; (with_reducible refine Gives.then (HJ2.out _ ?_) ?_); (next => first | exact hB1 | exact hB0); intro wj hbj; have hB1 : Below w5.heap.size w5 wj := chB (by first | exact hB1 | exact hB0) hbj))
      all_goals (
        have hss := HMs.out wj
        have hbL : Below w5.heap.size w5 (wj.alloc (.cells #[.string (⟨#[32]⟩ ++ T), .string (T ++ ⟨#[32]⟩), .string ((P1 ++ ⟨#[32, 32]⟩) ++ P2), .string ((T ++ ⟨#[32]⟩) ++ Z), .string (((T ++ ⟨#[32]⟩) ++ ⟨#[45]⟩) ++ x), .string x, .string (T ++ ⟨#[120]⟩), .string (T ++ ⟨#[32, 43]⟩), .string (T ++ ⟨#[32, 45, 122, 57]⟩)] 9)) := hB1.alloc hB1.size _
        generalize (wj.alloc (.cells #[.string (⟨#[32]⟩ ++ T), .string (T ++ ⟨#[32]⟩), .string ((P1 ++ ⟨#[32, 32]⟩) ++ P2), .string ((T ++ ⟨#[32]⟩) ++ Z), .string (((T ++ ⟨#[32]⟩) ++ ⟨#[45]⟩) ++ x), .string x, .string (T ++ ⟨#[120]⟩), .string (T ++ ⟨#[32, 43]⟩), .string (T ++ ⟨#[32, 45, 122, 57]⟩)] 9)) = wL at hss hbL ⊢
        generalize wj.heap.size = DL at *
        have HSL := Lib.hid hss; have HBL := Lib.hid hbL
        clear hss hbL hbj hB1 hB0 HMs KZ HJ1 HJ2 o1 o2 o3 o4 o5 o6 o7 o8 o9 hz2 hz3 hz4 hx hz1 hz0
        go_wp2_with fail
        go_loopw [157] (fun i wr => ∃ k : Nat, k ≤ 9 ∧ i = .int .i64 (k : Int) ∧ Below wL.heap.size wL wr) (fun i _ => 9 - (intOf i).toNat)
        case atStart => exact ⟨0, Nat.zero_le _, rfl, Below.refl _ _⟩
        case round =>
          obtain ⟨k, hk, rfl, hwr⟩ := hrel
          by_cases hlt : k < 9
          · have hkM : k < M.length := by rw [HML.out]; exact hlt
            obtain ⟨_, _, hv, _, _, hcl⟩ := HSL.out.open
            obtain ⟨_, _, e1, e2, e3⟩ := hcl k hkM
            rw [HML.out] at hv
            cases hv; cases e1
            rw [Nat.zero_add] at e3
            have d0 := (hwr.cell (p := ⟨DL, k, none⟩) e2).trans e3
            have hy := HMb.out M[k] (List.getElem_mem hkM)
            generalize M[k] = y at *
            have hbr := HBL.out.trans (hwr.mono HBL.out.size)
            have hbu := HBU.out wr y (HB5.out.trans (hbr.mono HB5.out.size)) hy.2
            rw [hy.1] at hbu
            unfold bunV snv at hbu
            have HBu := Lib.hid hbu; have HWR := Lib.hid hwr
            clear hcl hbr hbu hy hwr e2 e3
            go_wp2_with fail
            go_at_call 7
            refine Gives.then HBu.out ?_
            intro w21 hb21
            have hb22 := HWR.out.trans (hb21.mono HWR.out.size)
            have HW22 := Lib.hid (hb22.alloc hb22.size (.cells #[.int .u32 0, .int .u32 0] 24))
            clear hb21 hb22 HBu HWR d0
            go_wp2_with fail
            go_roundw
            case rel => exact ⟨k + 1, by omega, by go_num, HW22.out⟩
            case measure => simp [intOf]; omega
          · obtain rfl : k = 9 := by omega
            have HWR := Lib.hid hwr
            clear hwr hlt
            go_wp2_with (go_at_call 8; refine Gives.then (works_any _) ?_; intro w23 hb23)
            go_returns
            have h1 := HBL.out.trans (HWR.out.mono HBL.out.size)
            have h2 := h1.trans (hb23.mono h1.size)
            exact ⟨rfl, HW5.out.trans (h2.mono HW5.out.size)⟩)
    · go_wp2_with fail
      refine wp_gen ?_
      intro w14 hw14
      rw [← hw14] at HC14
      clear hw14 q0 q1 z14 hget s0 s1 f0 f1 g3 lD hlD
      obtain ⟨P1, hP1⟩ : ∃ P1, joinS (L.take q) ⟨#[32]⟩ = P1 := ⟨_, rfl⟩
      obtain ⟨P2, hP2⟩ : ∃ P2, joinS (L.drop q) ⟨#[32]⟩ = P2 := ⟨_, rfl⟩
      have hP1s : P1.size ≤ 432 := by
        have := joinS_size (L.take q) ⟨#[32]⟩ (by decide) (fun x hx => by have := HIT.out.three x (List.mem_of_mem_take hx); omega)
        rw [hP1, List.length_take, HNL.out] at this; omega
      have hP2s : P2.size ≤ 432 := by
        have := joinS_size (L.drop q) ⟨#[32]⟩ (by decide) (fun x hx => by have := HIT.out.three x (List.mem_of_mem_drop hx); omega)
        rw [hP2, List.length_drop, HNL.out] at this; omega
      have hj1 : ∀ W, Below w5.heap.size w5 W → Gives 11 #[.slice (some ⟨w4.heap.size, 0, none⟩) q N, .string ⟨#[32]⟩] W (.string P1) := fun W hW => by
        have := join_any ((HS5.out.below hW).upto HNL.out hqN) ⟨#[32]⟩ (by rw [List.length_take, HNL.out]; omega) (by rw [hP1]; omega)
        rw [hP1] at this
        exact this
      have hj2 : ∀ W, Below w5.heap.size w5 W → Gives 11 #[.slice (some ⟨w4.heap.size, q, none⟩) (N - q) (N - q), .string ⟨#[32]⟩] W (.string P2) := fun W hW => by
        have := join_any ((HS5.out.below hW).from HNL.out hqN) ⟨#[32]⟩ (by rw [List.length_drop, HNL.out]; omega) (by rw [hP2]; omega)
        rw [hP2] at this
        exact this
      have kz : ∀ W, Below w5.heap.size w5 W → W.cell? ⟨w4.heap.size, q, none⟩ = some (.string Z) ∧ Below w5.heap.size w5 W := fun W h => ⟨(h.cell (p := ⟨w4.heap.size, q, none⟩) L5.out).trans HZ5.out, h⟩
      obtain ⟨M, hM⟩ : ∃ M : List ByteArray, M = [⟨#[32]⟩ ++ T, T ++ ⟨#[32]⟩, (P1 ++ ⟨#[32, 32]⟩) ++ P2, (T ++ ⟨#[32]⟩) ++ Z, ((T ++ ⟨#[32]⟩) ++ ⟨#[43]⟩) ++ x, x, T ++ ⟨#[120]⟩, T ++ ⟨#[32, 43]⟩, T ++ ⟨#[32, 45, 122, 57]⟩] := ⟨_, rfl⟩
      have hMb : ∀ y ∈ M, bunS (nmL n) y = none ∧ y.size ≤ 100000 := by
        have e1 : (⟨#[32]⟩ : ByteArray).size = 1 := rfl
        have e2 : (⟨#[32, 32]⟩ : ByteArray).size = 2 := rfl
        have e3 : (⟨#[43]⟩ : ByteArray).size = 1 := rfl
        have e4 : (⟨#[120]⟩ : ByteArray).size = 1 := rfl
        have e5 : (⟨#[32, 43]⟩ : ByteArray).size = 2 := rfl
        have e6 : (⟨#[32, 45, 122, 57]⟩ : ByteArray).size = 4 := rfl
        have hTs := HT2.out; have hZs := HZs.out; have hXs := HXs.out
        have b1 := bad1 HIT.out; have b2 := bad2 HIT.out; have b3 := bad3 HIT.out q hqL; have b4 := bad4 HIT.out q hqL
        have b5 := bad5 HIT.out q hqL 43 (by decide); have b6 := bad6 HIT.out q hqL; have b7 := bad7 HIT.out; have b8 := bad8 HIT.out; have b9 := bad9 HIT.out
        rw [HTe.out] at b1 b2 b4 b5 b7 b8 b9
        rw [hP1, hP2] at b3
        rw [HZe.out] at b4 b5 b6
        rw [HX.out] at b5 b6
        rw [hM]
        intro y hy
        simp only [List.mem_cons, List.not_mem_nil, or_false] at hy
        rcases hy with rfl | rfl | rfl | rfl | rfl | rfl | rfl | rfl | rfl
        · exact ⟨b1, by rw [ByteArray.size_append]; omega⟩
        · exact ⟨b2, by rw [ByteArray.size_append]; omega⟩
        · exact ⟨b3, by rw [ByteArray.size_append, ByteArray.size_append]; omega⟩
        · exact ⟨b4, by rw [ByteArray.size_append, ByteArray.size_append]; omega⟩
        · exact ⟨b5, by rw [ByteArray.size_append, ByteArray.size_append, ByteArray.size_append]; omega⟩
        · exact ⟨b6, by omega⟩
        · exact ⟨b7, by rw [ByteArray.size_append]; omega⟩
        · exact ⟨b8, by rw [ByteArray.size_append]; omega⟩
        · exact ⟨b9, by rw [ByteArray.size_append]; omega⟩
      have hMs : ∀ w : World, Ss (w.alloc (.cells #[.string (⟨#[32]⟩ ++ T), .string (T ++ ⟨#[32]⟩), .string ((P1 ++ ⟨#[32, 32]⟩) ++ P2), .string ((T ++ ⟨#[32]⟩) ++ Z), .string (((T ++ ⟨#[32]⟩) ++ ⟨#[43]⟩) ++ x), .string x, .string (T ++ ⟨#[120]⟩), .string (T ++ ⟨#[32, 43]⟩), .string (T ++ ⟨#[32, 45, 122, 57]⟩)] 9)) (.slice (some ⟨w.heap.size, 0, none⟩) 9 9) M := fun w => by
        rw [hM]
        exact ss_arr w [⟨#[32]⟩ ++ T, T ++ ⟨#[32]⟩, (P1 ++ ⟨#[32, 32]⟩) ++ P2, (T ++ ⟨#[32]⟩) ++ Z, ((T ++ ⟨#[32]⟩) ++ ⟨#[43]⟩) ++ x, x, T ++ ⟨#[120]⟩, T ++ ⟨#[32, 43]⟩, T ++ ⟨#[32, 45, 122, 57]⟩] (show 9 ≤ maxLen by decide)
      have hTs := HT2.out; have hZs := HZs.out; have hXs := HXs.out
      have o1 : ¬ (9223372036854775807 < 1 + T.size) := by omega
      have o2 : ¬ (9223372036854775807 < T.size + 1) := by omega
      have o3 : ¬ (9223372036854775807 < P1.size + 2) := by omega
      have o4 : ¬ (9223372036854775807 < P1.size + 2 + P2.size) := by omega
      have o5 : ¬ (9223372036854775807 < T.size + 1 + Z.size) := by omega
      have o6 : ¬ (9223372036854775807 < T.size + 1 + 1) := by omega
      have o7 : ¬ (9223372036854775807 < T.size + 1 + 1 + x.size) := by omega
      have o8 : ¬ (9223372036854775807 < T.size + 2) := by omega
      have o9 : ¬ (9223372036854775807 < T.size + 4) := by omega
      have hx := HX.out
      have hz2 : (1 : Int) ≤ (Z.size : Int) := by omega
      have hz3 : (0 : Int) ≤ (q : Int) := by omega
      have hz4 : (q : Int) ≤ (N : Int) := by omega
      have hB0 : Below w5.heap.size w5 w14.drew := HC14.out.drew
      have HJ1 := Lib.hid hj1; have HJ2 := Lib.hid hj2; have KZ := Lib.hid kz; have HMb := Lib.hid hMb; have HMs := Lib.hid hMs
      have hML : M.length = 9 := by rw [hM]; rfl
      have HML := Lib.hid hML
      clear hP1 hP2 hP1s hP2s hj1 hj2 kz hM hMb hMs hML hTs hZs hXs HTe HZe HX HR1 HR2 HJs HJ2s HFAR
      go_region_held3 (fun W => W.cell? ⟨w4.heap.size, q, none⟩ = some (.string Z) ∧ Below w5.heap.size w5 W)
        (first | exact KZ.out _ hB1 | exact KZ.out _ hB0 | exact KZ.out _ (hB1.alloc hB1.size _))
        (first
          | (go_at_call 11; (with_reducible refine Gives.then (HJ1.out _ ?_) ?_); (next => first | exact hB1 | exact hB0); intro wj hbj; have hB1 : Below w5.heap.size w5 wj := chB (by first | exact hB1 | exact hB0) hbj)
          | (go_at_call 11; (with_reducible refine Gives.then (HJ2.out _ ?_) ?_); (next => first | exact hB1 | exact hB0); intro wj hbj; have hB1 : Below w5.heap.size w5 wj := chB (by first | exact hB1 | exact hB0) hbj))
      all_goals (
        have hss := HMs.out wj
        have hbL : Below w5.heap.size w5 (wj.alloc (.cells #[.string (⟨#[32]⟩ ++ T), .string (T ++ ⟨#[32]⟩), .string ((P1 ++ ⟨#[32, 32]⟩) ++ P2), .string ((T ++ ⟨#[32]⟩) ++ Z), .string (((T ++ ⟨#[32]⟩) ++ ⟨#[43]⟩) ++ x), .string x, .string (T ++ ⟨#[120]⟩), .string (T ++ ⟨#[32, 43]⟩), .string (T ++ ⟨#[32, 45, 122, 57]⟩)] 9)) := hB1.alloc hB1.size _
        generalize (wj.alloc (.cells #[.string (⟨#[32]⟩ ++ T), .string (T ++ ⟨#[32]⟩), .string ((P1 ++ ⟨#[32, 32]⟩) ++ P2), .string ((T ++ ⟨#[32]⟩) ++ Z), .string (((T ++ ⟨#[32]⟩) ++ ⟨#[43]⟩) ++ x), .string x, .string (T ++ ⟨#[120]⟩), .string (T ++ ⟨#[32, 43]⟩), .string (T ++ ⟨#[32, 45, 122, 57]⟩)] 9)) = wL at hss hbL ⊢
        generalize wj.heap.size = DL at *
        have HSL := Lib.hid hss; have HBL := Lib.hid hbL
        clear hss hbL hbj hB1 hB0 HMs KZ HJ1 HJ2 o1 o2 o3 o4 o5 o6 o7 o8 o9 hz2 hz3 hz4 hx hz1 hz0
        go_wp2_with fail
        go_loopw [157] (fun i wr => ∃ k : Nat, k ≤ 9 ∧ i = .int .i64 (k : Int) ∧ Below wL.heap.size wL wr) (fun i _ => 9 - (intOf i).toNat)
        case atStart => exact ⟨0, Nat.zero_le _, rfl, Below.refl _ _⟩
        case round =>
          obtain ⟨k, hk, rfl, hwr⟩ := hrel
          by_cases hlt : k < 9
          · have hkM : k < M.length := by rw [HML.out]; exact hlt
            obtain ⟨_, _, hv, _, _, hcl⟩ := HSL.out.open
            obtain ⟨_, _, e1, e2, e3⟩ := hcl k hkM
            rw [HML.out] at hv
            cases hv; cases e1
            rw [Nat.zero_add] at e3
            have d0 := (hwr.cell (p := ⟨DL, k, none⟩) e2).trans e3
            have hy := HMb.out M[k] (List.getElem_mem hkM)
            generalize M[k] = y at *
            have hbr := HBL.out.trans (hwr.mono HBL.out.size)
            have hbu := HBU.out wr y (HB5.out.trans (hbr.mono HB5.out.size)) hy.2
            rw [hy.1] at hbu
            unfold bunV snv at hbu
            have HBu := Lib.hid hbu; have HWR := Lib.hid hwr
            clear hcl hbr hbu hy hwr e2 e3
            go_wp2_with fail
            go_at_call 7
            refine Gives.then HBu.out ?_
            intro w21 hb21
            have hb22 := HWR.out.trans (hb21.mono HWR.out.size)
            have HW22 := Lib.hid (hb22.alloc hb22.size (.cells #[.int .u32 0, .int .u32 0] 24))
            clear hb21 hb22 HBu HWR d0
            go_wp2_with fail
            go_roundw
            case rel => exact ⟨k + 1, by omega, by go_num, HW22.out⟩
            case measure => simp [intOf]; omega
          · obtain rfl : k = 9 := by omega
            have HWR := Lib.hid hwr
            clear hwr hlt
            go_wp2_with (go_at_call 8; refine Gives.then (works_any _) ?_; intro w23 hb23)
            go_returns
            have h1 := HBL.out.trans (HWR.out.mono HBL.out.size)
            have h2 := h1.trans (hb23.mono h1.size)
            exact ⟨rfl, HW5.out.trans (h2.mono HW5.out.size)⟩)
end Go.Proofs.YtmgikhldkebjbaaDoor
