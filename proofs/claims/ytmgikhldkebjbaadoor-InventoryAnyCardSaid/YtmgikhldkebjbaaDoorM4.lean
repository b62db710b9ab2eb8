/-
  Lemmas that the theorem of this claim rests on: 7 texts, one behind the other.
-/
import Derived.Test.YtmgikhldkebjbaaDoorM3

/-
  Numbers and names of features, and lists of texts that are compared.
-/
namespace Go.Proofs.YtmgikhldkebjbaaDoor
open Go.RowKit Go.Shelf Go.Sort
theorem numT_mem {l : List ByteArray} {x : ByteArray} {u : Value} : ∀ {n : Nat}, n ≤ l.length → (x, u) ∈ numT l n → ∃ j : Nat, j < n ∧ u = .int .i64 (j : Int) ∧ l[j]? = some x
  | 0, _, h => by simp [numT] at h
  | n + 1, hn, h => by
    rw [numT_succ (by omega)] at h
    rcases put_mem h with h | h
    · cases h
      exact ⟨n, by omega, rfl, List.getElem?_eq_getElem (by omega)⟩
    · obtain ⟨j, h1, h2, h3⟩ := numT_mem (by omega) h
      exact ⟨j, by omega, h2, h3⟩
theorem fnd_key {k : ByteArray} {p : Nat} {u : Value} : ∀ {l : List (ByteArray × Value)} {i : Nat}, fnd k l i = some (p, u) → (k, u) ∈ l
  | [], _, h => by cases h
  | x :: l, i, h => by
    unfold fnd at h
    by_cases hk : k = x.1
    · rw [if_pos hk] at h
      simp only [Option.some.injEq, Prod.mk.injEq] at h
      rw [hk, ← h.2]; simp
    · rw [if_neg hk] at h
      exact List.mem_cons_of_mem _ (fnd_key h)
theorem fnd_nokey {k : ByteArray} {u : Value} : ∀ {l : List (ByteArray × Value)} {i : Nat}, fnd k l i = none → (k, u) ∉ l
  | [], _, _ => by simp
  | x :: l, i, h => by
    unfold fnd at h
    by_cases hk : k = x.1
    · rw [if_pos hk] at h; cases h
    · rw [if_neg hk] at h
      intro hm
      rcases List.mem_cons.1 hm with e | e
      · exact hk (by rw [← e])
      · exact fnd_nokey h e
/-- The number of a name, if there is one. -/
theorem feat_is (l : List ByteArray) (k : ByteArray) : (∃ j, j < l.length ∧ l[j]? = some k ∧ featN l k = .int .i64 (j : Int) ∧ featB l k = true ∧ featO l k = some j) ∨ ((∀ j : Nat, l[j]? ≠ some k) ∧ featN l k = .int .i64 0 ∧ featB l k = false ∧ featO l k = none) := by
  unfold featN featB featO
  cases hf : fnd k (numT l l.length) 0 with
  | none =>
    right
    refine ⟨fun j e => ?_, rfl, rfl, rfl⟩
    have hj : j < l.length := (List.getElem?_eq_some_iff.1 e).1
    obtain ⟨u, hu⟩ := (numT_keys (x := k) l.length (Nat.le_refl _)).2 ⟨j, hj, e⟩
    exact fnd_nokey hf hu
  | some y =>
    obtain ⟨p, u⟩ := y
    obtain ⟨j, h1, rfl, h3⟩ := numT_mem (Nat.le_refl _) (fnd_key hf)
    exact .inl ⟨j, h1, h3, rfl, rfl, rfl⟩
theorem nodup_eq {l : List ByteArray} {k : ByteArray} {i j : Nat} (hd : ¬ Dup l l.length) (hi : l[i]? = some k) (hj : l[j]? = some k) : i = j := by
  have h1 : i < l.length := (List.getElem?_eq_some_iff.1 hi).1
  have h2 : j < l.length := (List.getElem?_eq_some_iff.1 hj).1
  rcases Nat.lt_trichotomy i j with h | h | h
  · exact absurd ⟨j, i, h, h2, k, hj, hi⟩ hd
  · exact h
  · exact absurd ⟨i, j, h, h1, k, hi, hj⟩ hd
theorem newE_nodup {l : List ByteArray} (h : newE l = 0) : ¬ Dup l l.length := fun hd => by
  have := newE_dup (newE_len h) (newE_all h) hd
  rw [h] at this; cases this
end Go.Proofs.YtmgikhldkebjbaaDoor

/-
  Lists of texts that are compared; the lists of the names of features.
-/
namespace Go.Proofs.YtmgikhldkebjbaaDoor
open Go.RowKit Go.Shelf Go.Sort
theorem preS_eq {xs ys : List ByteArray} {k : Nat} (h : k < xs.length) (h' : k < ys.length) (hp : xs.take k = ys.take k) (he : xs[k] = ys[k]) : xs.take (k + 1) = ys.take (k + 1) := by
  rw [List.take_succ_eq_append_getElem h, List.take_succ_eq_append_getElem h', hp, he]
end Go.Proofs.YtmgikhldkebjbaaDoor

/-
  InventoryNews: the walk.
-/
namespace Go.Proofs.YtmgikhldkebjbaaDoor
open Go.RowKit Go.Shelf Go.Sort
theorem wpList_appSg {ops : Array Oper} {rest : List Oper} {o : Oper} {a : Act} {w : World} {Q : Exit → Act → World → Prop} (hgd : o.guard = none) (s x : Operand)
    (ho : o.op = .call { callee := .builtin .append, args := #[s, x], argTypes := #[26, 26] })
    (base : Nat) (v u : Value) (xs ys : List ByteArray) (hs : a.eval s = v) (hx : a.eval x = u) (hown : OwnS w base v xs) (hw : Ss w u ys) (hlen : xs.length + ys.length ≤ 1000000000000) (hbase : base ≤ w.heap.size)
    (h : ∀ v' w', OwnS w' base v' (xs ++ ys) → w.grownBy w' v.ownBlock → wpList Tryd.prog ops Q rest (a.put o.dst v') w') : wpList Tryd.prog ops Q (o :: rest) a w := by
  obtain ⟨i, hi, hz, hs1, hb1⟩ := info_parts infoStr
  rcases hw with ⟨rfl, rfl⟩ | ⟨b, off, cap, rfl, hc, hm, hb, h3⟩
  · refine wpList_append_own_none hgd s x 26 ho base _ i 1 Tryd.underlying26 hi v xs.length (xs.map Value.string) hs hown hx ?_
    exact h v w (by rw [List.append_nil]; exact hown) ⟨rfl, rfl, rfl, Nat.le_refl _, fun _ _ _ => rfl⟩
  · refine wpList_append_own w hgd s x 26 ho base _ i _ 1 16 Tryd.underlying26 hi hz hs1 hb1 rfl (by decide) v xs.length (xs.map Value.string) hs hown ⟨b, off, none⟩ ys.length cap (ys.map Value.string) hx (by simp) ?_ ?_ (Nat.le_trans hlen (by decide)) (by omega) hbase ?_
    · intro j y hy
      rw [List.getElem?_map, Option.map_eq_some_iff] at hy
      obtain ⟨z, hz, rfl⟩ := hy
      obtain ⟨hj, rfl⟩ := List.getElem?_eq_some_iff.1 hz
      rw [addr_addS, h3 j hj]
    · intro y hy
      obtain ⟨z, _, rfl⟩ := List.mem_map.1 hy
      rfl
    · intro v' w' ho' hg _
      refine h v' w' ?_ hg
      unfold OwnS
      rw [List.map_append, List.length_append]
      exact ho'
/-- What lies at block n or behind it stands. -/
def Above (n : Nat) (w w' : World) : Prop := ∀ k, n ≤ k → k < w.heap.size → w'.heap[k]? = w.heap[k]?
theorem row_above {w w' : World} {base n : Nat} {e : TypeId} {size : Nat} {v : Value} {xs : List Value} (h : w.ownsRow base e size v n xs) (ha : Above base w w') : w'.ownsRow base e size v n xs := by
  obtain ⟨hl, h0 | ⟨g, cap, cur, hv, hg, hh, hr⟩⟩ := h
  · exact ⟨hl, .inl h0⟩
  · exact ⟨hl, .inr ⟨g, cap, cur, hv, hg, (ha g hg (Array.getElem?_eq_some_iff.1 hh).1).trans hh, hr⟩⟩
theorem Inv.above {w w' : World} {base B : Nat} {l : List ByteArray} {a : List (ByteArray × Snd)} {nv av : Value} {bf bs by_ : Nat} (h : Inv w base B l a nv av bf bs by_) (ha : Above base w w') : Inv w' base B l a nv av bf bs by_ :=
  ⟨(ha B h.hB h.lt).trans h.blk, row_above h.names ha, h.feats.keep (ha bf h.hf h.feats.lt), row_above h.added ha, h.sounds.keep (ha bs h.hs h.sounds.lt), h.symbols.keep (ha by_ h.hy h.symbols.lt), h.hB, h.hf, h.hs, h.hy, h.n1, h.n2, h.n3⟩
theorem above_grown {w w' : World} {n : Nat} {row : Option Nat} (hg : w.grownBy w' row) (hr : ∀ k, row = some k → k < n) : Above n w w' := fun k hn hk => hg.block k hk (fun e => by have := hr k e.symm; omega)
/-- A call that returns a list of texts of its own. -/
def GivesS (f : Nat) (args : Array Value) (w : World) (l : List ByteArray) : Prop := Calls Tryd.prog f args w fun e w' => ∃ v', e = .returned v' ∧ OwnS w' w.heap.size v' l ∧ Below w.heap.size w w'
theorem givesS_nil {f : Nat} {args : Array Value} {w : World} (h : Gives f args w (.slice none 0 0)) : GivesS f args w [] := Calls.mono h fun e w' ⟨he, hb⟩ => ⟨_, he, OwnS.nil _ _, hb⟩
end Go.Proofs.YtmgikhldkebjbaaDoor

/-
  The specification's items of a text: the same items as the program's.
-/
namespace Go.Proofs.YtmgikhldkebjbaaDoor
open Go.RowKit Go.Shelf Go.Sort
theorem ib_at (c : UInt8) : ∀ (l : List UInt8) (n : Nat) (h : n < l.length), l[n] = c → (∀ j (hj : j < n), l[j]'(by omega) ≠ c) → Lib.indexByte l c = n
  | [], _, h, _, _ => by simp at h
  | b :: l, 0, _, e, _ => by
    have e : b = c := e
    simp [Lib.indexByte, e]
  | b :: l, n + 1, h, e, hn => by
    have ih := ib_at c l n (by simpa using h) (by simpa using e) (fun j hj => by have := hn (j + 1) (by omega); simpa using this)
    have hb : b ≠ c := hn 0 (by omega)
    simp only [Lib.indexByte, ih]
    rw [if_neg (by simpa using hb), if_neg (by rw [beq_iff_eq]; omega)]
    omega
theorem ib_no (c : UInt8) : ∀ (l : List UInt8), (∀ j (hj : j < l.length), l[j] ≠ c) → Lib.indexByte l c = -1
  | [], _ => rfl
  | b :: l, hn => by
    have ih := ib_no c l (fun j hj => by have := hn (j + 1) (by simpa using hj); simpa using this)
    have hb : b ≠ c := hn 0 (by simp)
    simp only [Lib.indexByte, ih]
    rw [if_neg (by simpa using hb), if_pos (by rfl)]
theorem ext_list (t : ByteArray) (a b : Nat) : (t.extract a b).data.toList = (t.data.toList.drop a).take (b - a) := by
  rw [ByteArray.data_extract, Array.toList_extract, List.extract_eq_take_drop]
theorem ext_get (t : ByteArray) (a j : Nat) (h : j < (t.extract a t.size).data.toList.length) (h2 : a + j < t.data.toList.length) : (t.extract a t.size).data.toList[j] = t.data.toList[a + j] := by
  simp only [ext_list, List.getElem_take, List.getElem_drop]
theorem ext_len (t : ByteArray) (a : Nat) : (t.extract a t.size).data.toList.length = t.size - a := by
  have e : t.data.toList.length = t.size := by rw [Array.length_toList]; rfl
  rw [ext_list, List.length_take, List.length_drop, e]
  omega
theorem len_list (t : ByteArray) : t.data.toList.length = t.size := by rw [Array.length_toList]; rfl
/-- A part ends at a space. -/
theorem todo_at (t : ByteArray) (a i : Nat) (h1 : a ≤ i) (h2 : i < t.size) (hs : t.data.toList[i]'(by rw [len_list]; exact h2) = 32) (hn : ∀ j (hj : j < t.data.toList.length), a ≤ j → j < i → t.data.toList[j] ≠ 32) :
    todo (t.extract a t.size) true = t.extract a i :: todo (t.extract (i + 1) t.size) true := by
  have hsp : spI (t.extract a t.size) = ((i - a : Nat) : Int) := by
    unfold spI
    refine ib_at 32 _ (i - a) (by rw [ext_len]; omega) ?_ (fun j hj => ?_)
    · rw [ext_get _ _ _ _ (by rw [len_list]; omega)]
      simp only [show a + (i - a) = i from by omega]
      exact hs
    · rw [ext_get _ _ _ _ (by rw [len_list]; omega)]
      exact hn (a + j) (by rw [len_list]; omega) (by omega) (by omega)
  have e0 : (0 : Int) ≤ spI (t.extract a t.size) := by omega
  have eA : cutA (t.extract a t.size) = t.extract a i := by
    unfold cutA
    rw [if_pos e0, hsp, Int.toNat_natCast]
    apply bytes_ext
    simp only [ext_list, List.drop_zero, List.take_take]
    congr 1
    omega
  have eB : cutB (t.extract a t.size) = t.extract (i + 1) t.size := by
    unfold cutB
    rw [if_pos e0, hsp, Int.toNat_natCast]
    apply bytes_ext
    have e2 : (t.extract a t.size).size = t.size - a := by rw [← ext_len, len_list]
    rw [e2]
    simp only [ext_list, List.drop_take, List.drop_drop, List.take_take]
    congr 1
    · omega
    · congr 1; omega
  have eC : cutC (t.extract a t.size) = true := decide_eq_true e0
  rw [todo_true, eA, eB, eC]
/-- The last part. -/
theorem todo_end (t : ByteArray) (a : Nat) (hn : ∀ j (hj : j < t.data.toList.length), a ≤ j → t.data.toList[j] ≠ 32) :
    todo (t.extract a t.size) true = [t.extract a t.size] := by
  have hsp : spI (t.extract a t.size) = -1 := by
    unfold spI
    refine ib_no 32 _ (fun j hj => ?_)
    rw [ext_len] at hj
    rw [ext_get _ _ _ _ (by rw [len_list]; omega)]
    exact hn (a + j) (by rw [len_list]; omega) (by omega)
  have e0 : ¬ (0 : Int) ≤ spI (t.extract a t.size) := by omega
  have eA : cutA (t.extract a t.size) = t.extract a t.size := by unfold cutA; rw [if_neg e0]
  have eC : cutC (t.extract a t.size) = false := decide_eq_false e0
  rw [todo_true, eA, eC, todo_false]
theorem todo_whole (t : ByteArray) : t.extract 0 t.size = t := by
  apply bytes_ext
  rw [ext_list, List.drop_zero, List.take_of_length_le (by rw [len_list]; omega)]
/-- Where the loop over the bytes is. -/
def ItR (t : ByteArray) (w : World) (v f i : Value) (wr : World) : Prop :=
  (∃ (D : List ByteArray) (a k : Nat), a ≤ k ∧ k ≤ t.size ∧ D.length ≤ k ∧ f = .int .i64 (a : Int) ∧ i = .int .i64 (k : Int) ∧ OwnS wr w.heap.size v D ∧ todo t true = D ++ todo (t.extract a t.size) true ∧ (∀ j (hj : j < t.data.toList.length), a ≤ j → j < k → t.data.toList[j] ≠ 32) ∧ Below w.heap.size w wr) ∨
  (i = .int .i64 ((t.size + 1 : Nat) : Int) ∧ OwnS wr w.heap.size v (todo t true) ∧ Below w.heap.size w wr)
end Go.Proofs.YtmgikhldkebjbaaDoor

/-
  The specification's Bundle: what an item does.
-/
namespace Go.Proofs.YtmgikhldkebjbaaDoor
open Go.RowKit Go.Shelf Go.Sort
/-- The sound of one feature, and whether a sound has a value for it. -/
theorem valN_bit (r : Snd) (hv : vld r.1 r.2 = true) (j : Nat) (hj : j < 24) : (valN r &&& (bit j).toNat = 0) ↔ getV r.1 r.2 j = 0 := by
  have e : valN r = (r.1 ||| r.2).toNat := by unfold valN; rw [BitVec.toNat_or]
  rw [e, and_bit _ j (by omega), BitVec.getLsbD_or]
  unfold getV
  cases r.1.getLsbD j <;> cases r.2.getLsbD j <;> simp
theorem with_plus (r : Snd) (j : Nat) (hj : j < 24) (h : getV r.1 r.2 j = 0) : withP r.1 j 1 = r.1 ||| bit j ∧ withM r.2 j 1 = r.2 ||| 0#32 := by
  unfold getV at h
  have hp : r.1.getLsbD j = false := by cases hh : r.1.getLsbD j <;> simp [hh] at h ⊢
  have hm : r.2.getLsbD j = false := by cases hh : r.2.getLsbD j <;> simp [hh, hp] at h ⊢
  constructor
  · apply BitVec.eq_of_getLsbD_eq
    intro i hi
    rw [withP_get _ _ _ _ (by omega) hi, BitVec.getLsbD_or, bit_get j i (by omega)]
    by_cases e : i = j
    · subst e; simp
    · simp [e]
  · apply BitVec.eq_of_getLsbD_eq
    intro i hi
    rw [withM_get _ _ _ _ (by omega) hi, BitVec.getLsbD_or]
    by_cases e : i = j
    · subst e; simp [hm]
    · simp [e]
theorem with_minus (r : Snd) (j : Nat) (hj : j < 24) (h : getV r.1 r.2 j = 0) : withP r.1 j (-1) = r.1 ||| 0#32 ∧ withM r.2 j (-1) = r.2 ||| bit j := by
  unfold getV at h
  have hp : r.1.getLsbD j = false := by cases hh : r.1.getLsbD j <;> simp [hh] at h ⊢
  have hm : r.2.getLsbD j = false := by cases hh : r.2.getLsbD j <;> simp [hh, hp] at h ⊢
  constructor
  · apply BitVec.eq_of_getLsbD_eq
    intro i hi
    rw [withP_get _ _ _ _ (by omega) hi, BitVec.getLsbD_or]
    by_cases e : i = j
    · subst e; simp [hp]
    · simp [e]
  · apply BitVec.eq_of_getLsbD_eq
    intro i hi
    rw [withM_get _ _ _ _ (by omega) hi, BitVec.getLsbD_or, bit_get j i (by omega)]
    by_cases e : i = j
    · subst e; simp
    · simp [e]
/-- What becomes of a valid sound by one item: nothing, or one value more. -/
theorem stepB_is (l : List ByteArray) (hl : l.length ≤ 24) (r : Snd) (hv : vld r.1 r.2 = true) (x : ByteArray) :
    (x.size = 0 ∧ stepB l r x = none) ∨
    (0 < x.size ∧ ∃ c, x.data.toList.getD 0 0 = c ∧
      ((c ≠ 43 ∧ c ≠ 45 ∧ stepB l r x = none) ∨
       ((c = 43 ∨ c = 45) ∧
        ((featO l (x.extract 1 x.size) = none ∧ stepB l r x = none) ∨
         ∃ j, j < 24 ∧ featO l (x.extract 1 x.size) = some j ∧
          ((getV r.1 r.2 j ≠ 0 ∧ stepB l r x = none) ∨
           (getV r.1 r.2 j = 0 ∧ ∃ v : Int, (v = if c = 43 then 1 else -1) ∧ stepB l r x = some (withP r.1 j v, withM r.2 j v) ∧ vld (withP r.1 j v) (withM r.2 j v) = true)))))) := by
  by_cases h0 : x.size = 0
  · left
    exact ⟨h0, by unfold stepB; rw [valS_empty h0]⟩
  · right
    refine ⟨by omega, _, rfl, ?_⟩
    generalize hc : x.data.toList.getD 0 0 = c
    cases hf : featO l (x.extract 1 x.size) with
    | none =>
      have hs : stepB l r x = none := by unfold stepB; rw [valS_no hf]
      by_cases h43 : c = 43
      · exact .inr ⟨.inl h43, .inl ⟨rfl, hs⟩⟩
      · by_cases h45 : c = 45
        · exact .inr ⟨.inr h45, .inl ⟨rfl, hs⟩⟩
        · exact .inl ⟨h43, h45, hs⟩
    | some j =>
      have hj : j < 24 := by
        obtain ⟨h1, _⟩ := featO_some hf
        omega
      have hval := valS_of (l := l) h0 hf hc
      by_cases h43 : c = 43
      · subst h43
        rw [if_pos rfl] at hval
        refine .inr ⟨.inl rfl, .inr ⟨j, hj, rfl, ?_⟩⟩
        have hb := valN_bit r hv j hj
        have hs : stepB l r x = if getV r.1 r.2 j = 0 then some (r.1 ||| bit j, r.2 ||| 0#32) else none := by
          unfold stepB; rw [hval]
          have e : valN (bit j, 0#32) = (bit j).toNat := by unfold valN; simp
          simp only [e]
          by_cases hg : getV r.1 r.2 j = 0
          · rw [if_pos hg, if_pos (hb.2 hg)]
          · rw [if_neg hg, if_neg (fun e => hg (hb.1 e))]
        by_cases hg : getV r.1 r.2 j = 0
        · obtain ⟨w1, w2⟩ := with_plus r j hj hg
          exact .inr ⟨hg, 1, by simp, by rw [hs, if_pos hg, w1, w2], vld_with hv j 1 hj⟩
        · exact .inl ⟨hg, by rw [hs, if_neg hg]⟩
      · by_cases h45 : c = 45
        · subst h45
          rw [if_neg (by decide), if_pos rfl] at hval
          refine .inr ⟨.inr rfl, .inr ⟨j, hj, rfl, ?_⟩⟩
          have hb := valN_bit r hv j hj
          have hs : stepB l r x = if getV r.1 r.2 j = 0 then some (r.1 ||| 0#32, r.2 ||| bit j) else none := by
            unfold stepB; rw [hval]
            have e : valN (0#32, bit j) = (bit j).toNat := by unfold valN; simp
            simp only [e]
            by_cases hg : getV r.1 r.2 j = 0
            · rw [if_pos hg, if_pos (hb.2 hg)]
            · rw [if_neg hg, if_neg (fun e => hg (hb.1 e))]
          by_cases hg : getV r.1 r.2 j = 0
          · obtain ⟨w1, w2⟩ := with_minus r j hj hg
            exact .inr ⟨hg, -1, by simp, by rw [hs, if_pos hg, w1, w2], vld_with hv j (-1) hj⟩
          · exact .inl ⟨hg, by rw [hs, if_neg hg]⟩
        · refine .inl ⟨h43, h45, ?_⟩
          rw [if_neg h43, if_neg h45] at hval
          unfold stepB; rw [hval]
end Go.Proofs.YtmgikhldkebjbaaDoor

/-
  The specification's Bundle: the walk.
-/
namespace Go.Proofs.YtmgikhldkebjbaaDoor
open Go.RowKit Go.Shelf Go.Sort
theorem gb_below {W0 W W' : World} {b : Option Nat} (h : W0.grownBy W b) (hb : Below W.heap.size W W') : W0.grownBy W' b :=
  ⟨hb.os.trans h.os, hb.tape.trans h.tape, hb.output.trans h.output, Nat.le_trans h.size hb.size, fun k hk hne => (hb.block k (Nat.lt_of_lt_of_le hk h.size)).trans (h.block k hk hne)⟩
theorem gb_set {W0 W : World} {b o : Nat} {v : Value} (h : W0.grownBy W (some b)) : W0.grownBy (W.setCell ⟨b, o, none⟩ v) (some b) := by
  have g := set_grown W b o v
  exact ⟨g.os.trans h.os, g.tape.trans h.tape, g.output.trans h.output, Nat.le_trans h.size g.size, fun k hk hne => (g.block k (Nat.lt_of_lt_of_le hk h.size) hne).trans (h.block k hk hne)⟩
theorem block_set {W : World} {b o : Nat} {v : Value} {cs : Array Value} {T : Nat} {fz : Nat × Nat} (h : W.heap[b]? = some (.cells cs T fz)) : (W.setCell ⟨b, o, none⟩ v).heap[b]? = some (.cells (cs.setIfInBounds o v) T fz) := by
  simp only [World.setCell]
  rw [Array.getElem?_modify, if_pos rfl, h]
  simp [Array.setIfInBounds_def]
theorem gb_cell {W0 W : World} {b B o : Nat} {v : Value} (h : W0.grownBy W (some b)) (hB : B < W0.heap.size) (hne : B ≠ b) (hc : W0.cell? ⟨B, o, none⟩ = some v) : W.cell? ⟨B, o, none⟩ = some v :=
  (World.cell?_of_block (h.block B hB (by simpa using hne))).trans hc
theorem gb_row {W0 W : World} {base n b : Nat} {e : TypeId} {size : Nat} {v : Value} {xs : List Value} (h : W0.ownsRow base e size v n xs) (hg : W0.grownBy W (some b)) (hb : v.ownBlock ≠ some b) : W.ownsRow base e size v n xs := by
  obtain ⟨hl, h0 | ⟨g, cap, cur, hv, hg2, hh, hr⟩⟩ := h
  · exact ⟨hl, .inl h0⟩
  · refine ⟨hl, .inr ⟨g, cap, cur, hv, hg2, (hg.block g (Array.getElem?_eq_some_iff.1 hh).1 (fun e => hb ?_)).trans hh, hr⟩⟩
    rw [hv, ← e]; rfl
theorem row_lt {W : World} {base n : Nat} {e : TypeId} {size : Nat} {v : Value} {xs : List Value} {k b : Nat} (h : W.ownsRow base e size v n xs) (hb : W.heap.size ≤ b) : v.ownBlock ≠ some b := fun e => by have := own_lt h e; omega
theorem itemsF_le : ∀ (n : Nat) (r : ByteArray) (m : Bool), ∀ x ∈ itemsF n r m, x.size ≤ r.size
  | 0, _, _, x, h => by cases h
  | n + 1, r, false, x, h => by cases h
  | n + 1, r, true, x, h => by
    have h : x ∈ cutA r :: itemsF n (cutB r) (cutC r) := h
    rcases List.mem_cons.1 h with rfl | h
    · exact cutA_le r
    · exact Nat.le_trans (itemsF_le n _ _ x h) (cutB_le r)
theorem feat_none {l : List ByteArray} {k : ByteArray} (h : featO l k = none) : featN l k = .int .i64 0 ∧ featB l k = false := by
  rcases feat_is l k with ⟨j, _, _, _, _, e⟩ | ⟨_, e1, e2, _⟩
  · rw [h] at e; cases e
  · exact ⟨e1, e2⟩
theorem feat_some {l : List ByteArray} {k : ByteArray} {j : Nat} (h : featO l k = some j) : featN l k = .int .i64 (j : Int) ∧ featB l k = true := by
  rcases feat_is l k with ⟨i, _, _, e1, e2, e⟩ | ⟨_, _, _, e⟩
  · rw [h] at e; cases e; exact ⟨e1, e2⟩
  · rw [h] at e; cases e
/-- Where the loop over the items is. -/
def BuR (l : List ByteArray) (L : List ByteArray) (W0 : World) (b6 : Nat) (i : Value) (wr : World) : Prop :=
  ∃ (k : Nat) (r : Snd), k ≤ L.length ∧ i = .int .i64 (k : Int) ∧ bunL l (0#32, 0#32) (L.take k) = some r ∧ vld r.1 r.2 = true ∧ wr.heap[b6]? = some (.cells #[.int .u32 (r.1.toNat : Int), .int .u32 (r.2.toNat : Int)] 24 (0, 0)) ∧ W0.grownBy wr (some b6)
theorem bunL_at {l L : List ByteArray} {k : Nat} {r : Snd} (hk : k < L.length) (h : bunL l (0#32, 0#32) (L.take k) = some r) : bunL l (0#32, 0#32) (L.take (k + 1)) = stepB l r L[k] := by
  rw [List.take_succ_eq_append_getElem hk]
  exact bunL_snoc _ _ _ h
theorem bunL_fail {l L : List ByteArray} {k : Nat} {r : Snd} (hk : k < L.length) (h : bunL l (0#32, 0#32) (L.take k) = some r) (hs : stepB l r L[k] = none) : bunL l (0#32, 0#32) L = none := by
  have h1 := bunL_at hk h
  rw [hs] at h1
  have := bunL_stop (L.take (k + 1)) (L.drop (k + 1)) _ h1
  rwa [List.take_append_drop] at this
end Go.Proofs.YtmgikhldkebjbaaDoor

/-
  InventoryBundles: the walk.
-/
namespace Go.Proofs.YtmgikhldkebjbaaDoor
open Go.RowKit Go.Shelf Go.Sort
end Go.Proofs.YtmgikhldkebjbaaDoor
