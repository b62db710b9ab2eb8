/-
  Rows of named sounds of one's own beside an inventory; lists of steps.
-/
import Derived.Test.YtmgikhldkebjbaaOa
namespace Go.Proofs.Ytmgikhldkebjbaa
open Go.RowKit Go.Sort
/-- A list of steps that is read: a symbol and a sound each. -/
def Sp (w : World) (v : Value) (l : List (ByteArray × Snd)) : Prop :=
  (v = .slice none 0 0 ∧ l = []) ∨ ∃ b off cap, v = .slice (some ⟨b, off, none⟩) l.length cap ∧ l.length ≤ cap ∧ cap ≤ maxLen ∧ b < w.heap.size ∧ ∀ i (h : i < l.length), w.cell? ⟨b, off + i * 3, none⟩ = some (.string l[i].1) ∧ w.cell? ⟨b, off + i * 3 + 1, none⟩ = some (.int .u32 (l[i].2.1.toNat : Int)) ∧ w.cell? ⟨b, off + i * 3 + 2, none⟩ = some (.int .u32 (l[i].2.2.toNat : Int))
theorem Sp.below {w w' : World} {v : Value} {l : List (ByteArray × Snd)} (h : Sp w v l) (hb : Below w.heap.size w w') : Sp w' v l := by
  rcases h with h | ⟨b, off, cap, hv, h1, h2, h3, h4⟩
  · exact .inl h
  · refine .inr ⟨b, off, cap, hv, h1, h2, Nat.lt_of_lt_of_le h3 hb.size, fun i hi => ?_⟩
    obtain ⟨c0, c1, c2⟩ := h4 i hi
    exact ⟨(hb.cell (p := ⟨b, _, none⟩) h3).trans c0, (hb.cell (p := ⟨b, _, none⟩) h3).trans c1, (hb.cell (p := ⟨b, _, none⟩) h3).trans c2⟩
theorem Sp.open {w : World} {v : Value} {l : List (ByteArray × Snd)} (h : Sp w v l) : ∃ ao cap, v = .slice ao l.length cap ∧ l.length ≤ cap ∧ cap ≤ maxLen ∧ ∀ i (hi : i < l.length), ∃ b off, ao = some ⟨b, off, none⟩ ∧ b < w.heap.size ∧ w.cell? ⟨b, off + i * 3, none⟩ = some (.string l[i].1) ∧ w.cell? ⟨b, off + i * 3 + 1, none⟩ = some (.int .u32 (l[i].2.1.toNat : Int)) ∧ w.cell? ⟨b, off + i * 3 + 2, none⟩ = some (.int .u32 (l[i].2.2.toNat : Int)) := by
  rcases h with ⟨rfl, rfl⟩ | ⟨b, off, cap, rfl, h1, h2, h3, h4⟩
  · exact ⟨none, 0, rfl, by simp, by simp [maxLen], fun i hi => by simp at hi⟩
  · exact ⟨_, cap, rfl, h1, h2, fun i hi => ⟨b, off, rfl, h3, h4 i hi⟩⟩
theorem flatN_get : ∀ (l : List (ByteArray × Snd)) (i : Nat) (h : i < l.length), (flatN l)[i * 3]? = some (.string l[i].1) ∧ (flatN l)[i * 3 + 1]? = some (.int .u32 (l[i].2.1.toNat : Int)) ∧ (flatN l)[i * 3 + 2]? = some (.int .u32 (l[i].2.2.toNat : Int))
  | x :: l, 0, _ => ⟨rfl, rfl, rfl⟩
  | x :: l, i + 1, h => by
    have ih := flatN_get l i (by simpa using h)
    simp only [flatN, List.getElem_cons_succ]
    rw [show (i + 1) * 3 = i * 3 + 3 from by omega]
    exact ih
theorem OwnN.sp {w : World} {base : Nat} {v : Value} {l : List (ByteArray × Snd)} (h : OwnN w base v l) : Sp w v l := by
  obtain ⟨hl, ⟨rfl, h0⟩ | ⟨g, cap, cur, rfl, hg, hh, hn, hm, hs, ht⟩⟩ := h
  · exact .inl ⟨rfl, List.eq_nil_of_length_eq_zero h0⟩
  · refine .inr ⟨g, 0, cap, rfl, hn, hm, (Array.getElem?_eq_some_iff.1 hh).1, fun i hi => ?_⟩
    obtain ⟨e0, e1, e2⟩ := flatN_get l i hi
    have key : ∀ j u, j < l.length * 3 → (flatN l)[j]? = some u → w.cell? ⟨g, 0 + j, none⟩ = some u := fun j u hj e => by
      rw [Nat.zero_add]
      refine cell_block hh ?_
      rw [← e, ← ht, List.getElem?_take_of_lt hj, Array.getElem?_toList]
    refine ⟨key _ _ (by omega) e0, ?_, ?_⟩
    · rw [Nat.add_assoc]; exact key _ _ (by omega) e1
    · rw [Nat.add_assoc]; exact key _ _ (by omega) e2
theorem wpList_appN2 {ops : Array Oper} {rest : List Oper} {o : Oper} {a : Act} {w : World} {Q : Exit → Act → World → Prop} (hgd : o.guard = none) (s x : Operand)
    (ho : o.op = .call { callee := .builtin .append, args := #[s, x], argTypes := #[46, 46] })
    (base D : Nat) (v : Value) (xs : List (ByteArray × Snd)) (k : ByteArray) (p m : BitVec 32) (hs : a.eval s = v) (hx : a.eval x = .slice (some ⟨D, 0, none⟩) 1 1) (hB : w.heap[D]? = some (.cells #[.string k, .int .u32 p.toNat, .int .u32 m.toNat] 47 (0, 0))) (hown : OwnN w base v xs) (hlen : xs.length + 1 ≤ 1000000) (hbase : base ≤ w.heap.size)
    (h : ∀ g cap n w', OwnN w' base (.slice (some ⟨g, 0, none⟩) n cap) (xs ++ [(k, (p, m))]) → w.grownBy w' v.ownBlock → (v.ownBlock = some g ∨ g = w.heap.size) → n = xs.length + 1 → wpList Try.prog ops Q rest (a.put o.dst (.slice (some ⟨g, 0, none⟩) n cap)) w') :
    wpList Try.prog ops Q (o :: rest) a w := by
  obtain ⟨i, hi, hz, hs1, hb1⟩ := info_parts infoNamed
  refine wpList_append_lies w hgd s x 46 ho base 47 i _ 3 24 Try.underlying46 hi hz hs1 hb1 rfl (by decide) v xs.length (flatN xs) hs hown ⟨D, 0, none⟩ 1 1 [.string k, .int .u32 p.toNat, .int .u32 m.toNat] hx rfl (World.news_of_block (cs := #[.string k, .int .u32 p.toNat, .int .u32 m.toNat]) hB) (by simp [Value.oneCell']) (by decide) (Nat.le_trans hlen (by decide)) (by omega) hbase w.heap.size rfl ?_
  intro g cap w' h1 hg hn _
  refine h g cap (xs.length + 1) w' ?_ hg hn rfl
  unfold OwnN
  rw [flatN_append, List.length_append]
  exact h1
/-- Two rows that share no block. -/
def Apart (v u : Value) : Prop := ∀ k, v.ownBlock = some k → u.ownBlock ≠ some k
/-- A row of one's own that grows leaves the inventory as it was. -/
theorem Inv.beside {w w' : World} {base base' B : Nat} {l : List ByteArray} {a a' : List (ByteArray × Snd)} {nv av hv : Value} {bf bs by_ : Nat} (h : Inv w base B l a nv av bf bs by_) (hh : OwnN w base' hv a') (hd : Apart hv av) (hg : w.grownBy w' hv.ownBlock) : Inv w' base B l a nv av bf bs by_ := by
  obtain ⟨e1, e2, e3⟩ := h.feats.obj
  obtain ⟨s1, s2, s3⟩ := h.sounds.obj
  obtain ⟨y1, y2, y3⟩ := h.symbols.obj
  have kB := hg.block B h.lt (fun e => own_far hh h.blk (by intro cs fz e; simp at e) e.symm)
  have kf := hg.block bf h.feats.lt (fun e => own_far hh e3 (by intro cs fz e; cases e) e.symm)
  have ks := hg.block bs h.sounds.lt (fun e => own_far hh s3 (by intro cs fz e; cases e) e.symm)
  have ky := hg.block by_ h.symbols.lt (fun e => own_far hh y3 (by intro cs fz e; cases e) e.symm)
  have nn : OwnS w' base nv l := World.ownsRow.kept h.names hg (by
    cases hv2 : nv.ownBlock with
    | none => exact .inl rfl
    | some q =>
      refine .inr fun e => ?_
      obtain ⟨_, ⟨rfl, _⟩ | ⟨g1, _, _, rfl, _, hh2, _⟩⟩ := h.names
      · cases hv2
      · exact own_far hh hh2 (by intro cs fz e; simp at e) (by simp only [Value.ownBlock] at hv2 e ⊢; rw [← e, hv2]))
  have na : OwnN w' base av a := World.ownsRow.kept h.added hg (by
    cases hv2 : hv.ownBlock with
    | none =>
      cases ha : av.ownBlock with
      | none => exact .inl rfl
      | some q => exact .inr (by simp)
    | some q => exact .inr (hd q hv2))
  exact ⟨kB.trans h.blk, nn, h.feats.keep kf, na, h.sounds.keep ks, h.symbols.keep ky, h.hB, h.hf, h.hs, h.hy, h.n1, h.n2, h.n3⟩
/-- Add leaves a row of one's own as it was. -/
theorem OwnN.touch {w w' : World} {base base' B : Nat} {l : List ByteArray} {a a' : List (ByteArray × Snd)} {nv av hv : Value} {bf bs by_ : Nat} (hh : OwnN w base' hv a') (h : Inv w base B l a nv av bf bs by_) (hd : Apart hv av) (ht : Touch w w' B bs by_ av) : OwnN w' base' hv a' := by
  obtain ⟨s1, s2, s3⟩ := h.sounds.obj
  obtain ⟨y1, y2, y3⟩ := h.symbols.obj
  have n1 := own_far hh h.blk (by intro cs fz e; simp at e)
  have n2 := own_far hh s3 (by intro cs fz e; cases e)
  have n3 := own_far hh y3 (by intro cs fz e; cases e)
  obtain ⟨hl, h0 | ⟨g, cap, cur, hv2, hg, hb, hr⟩⟩ := hh
  · exact ⟨hl, .inl h0⟩
  · subst hv2
    simp only [Value.ownBlock, ne_eq, Option.some.injEq] at n1 n2 n3
    exact ⟨hl, .inr ⟨g, cap, cur, rfl, hg, (ht.2.2.2.2 g (Array.getElem?_eq_some_iff.1 hb).1 n1 n2 n3 (hd g rfl)).trans hb, hr⟩⟩
/-- The sounds that are taken, one after the other. -/
def grw (a : List (ByteArray × Snd)) : List (ByteArray × Snd) → List (ByteArray × Snd)
  | [] => a
  | x :: l => grw (if addE (nmL 24) a x.1 x.2 = 0 then a ++ [x] else a) l
theorem grw_snoc (x : ByteArray × Snd) : ∀ (l a : List (ByteArray × Snd)), grw a (l ++ [x]) = if addE (nmL 24) (grw a l) x.1 x.2 = 0 then grw a l ++ [x] else grw a l
  | [], a => rfl
  | y :: l, a => by
    simp only [List.cons_append, grw]
    exact grw_snoc x l _
theorem addE_len {l : List ByteArray} {a : List (ByteArray × Snd)} {k : ByteArray} {s : Snd} (h : addE l a k s = 0) : a.length < 256 := by
  unfold addE at h
  split at h
  · cases h
  · split at h
    · cases h
    · split at h
      · cases h
      · split at h
        · cases h
        · omega
theorem grw_len : ∀ (l a : List (ByteArray × Snd)), a.length ≤ 256 → (grw a l).length ≤ 256
  | [], _, h => h
  | x :: l, a, h => by
    simp only [grw]
    refine grw_len l _ ?_
    split
    · rename_i h0
      have := addE_len h0
      simp; omega
    · exact h
end Go.Proofs.Ytmgikhldkebjbaa
