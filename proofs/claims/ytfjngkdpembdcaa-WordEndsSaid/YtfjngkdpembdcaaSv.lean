/-
  Lists of words that a call has made, word by word.
-/
import Derived.Test.YtfjngkdpembdcaaHq
import Derived.Test.YtfjngkdpembdcaaHg
namespace Go.Proofs.Ytfjngkdpembdcaa
open Go.RowKit Go.Sort
theorem OwnV.nil (w : World) (base : Nat) : OwnV w base (.slice none 0 0) [] := ⟨rfl, .inl ⟨rfl, rfl⟩⟩
theorem OwnV.below {w w' : World} {base : Nat} {v : Value} {cs : List Value} (h : OwnV w base v cs) (hb : Below w.heap.size w w') : OwnV w' base v cs := by
  obtain ⟨hl, h0 | ⟨g, cap, cur, hv, hg, hh, hr⟩⟩ := h
  · exact ⟨hl, .inl h0⟩
  · exact ⟨hl, .inr ⟨g, cap, cur, hv, hg, (hb.block g (Array.getElem?_eq_some_iff.1 hh).1).trans hh, hr⟩⟩
theorem OwnV.row {w : World} {base : Nat} {v : Value} {cs : List Value} (h : OwnV w base v cs) (k : Nat) (hk : v.ownBlock = some k) : base ≤ k := by
  obtain ⟨hl, ⟨rfl, h0⟩ | ⟨g, cap, cur, rfl, hg, hr⟩⟩ := h
  · cases hk
  · cases hk; exact hg
/-- A row of sounds is no row of words. -/
theorem own_ne {w : World} {b b' : Nat} {v u : Value} {ss : List Snd} {cs : List Value} (h : Own w b v ss) (h' : OwnV w b' u cs) : v.ownBlock = none ∨ v.ownBlock ≠ u.ownBlock := by
  obtain ⟨_, ⟨rfl, _⟩ | ⟨g, cap, cur, rfl, _, hh, _⟩⟩ := h
  · exact .inl rfl
  · obtain ⟨_, ⟨rfl, _⟩ | ⟨g', cap', cur', rfl, _, hh', _⟩⟩ := h'
    · exact .inr (by simp [Value.ownBlock])
    · refine .inr fun e => ?_
      simp only [Value.ownBlock, Option.some.injEq] at e
      subst e
      rw [hh] at hh'
      simp at hh'
theorem own_grown {w w' : World} {b b' : Nat} {v u : Value} {ss : List Snd} {cs : List Value} (h : Own w b v ss) (h' : OwnV w b' u cs) (hg : w.grownBy w' u.ownBlock) : Own w' b v ss := World.ownsRow.kept h hg (own_ne h h')
/-- A slice of slices in memory. -/
def Vs (w : World) (u : Value) (ds : List Value) : Prop := (u = .slice none 0 0 ∧ ds = []) ∨ ∃ aa c, u = .slice (some aa) ds.length c ∧ (∀ j x, ds[j]? = some x → w.cell? (aa.add j) = some x) ∧ ∀ x ∈ ds, x.oneCell' = true
theorem Vs.one (w : World) (ao : Option Addr) (n c : Nat) : Vs (w.alloc (.cells #[.slice ao n c] 24)) (.slice (some ⟨w.heap.size, 0, none⟩) 1 1) [.slice ao n c] := by
  refine .inr ⟨⟨w.heap.size, 0, none⟩, 1, rfl, fun j x hx => ?_, by simp [Value.oneCell']⟩
  match j, hx with
  | 0, hx => cases hx; exact cell_block (World.alloc_heap_new w _) rfl
/-- append of some slices to a list of slices that the call has made. -/
theorem wpList_appV {ops : Array Oper} {rest : List Oper} {o : Oper} {a : Act} {w : World} {Q : Exit → Act → World → Prop} (hgd : o.guard = none) (s x : Operand)
    (ho : o.op = .call { callee := .builtin .append, args := #[s, x], argTypes := #[22, 22] })
    (base : Nat) (v u : Value) (cs ds : List Value) (hs : a.eval s = v) (hx : a.eval x = u) (hown : OwnV w base v cs) (hw : Vs w u ds) (hlen : cs.length + ds.length ≤ 1000000000000) (hbase : base ≤ w.heap.size)
    (h : ∀ v' w', OwnV w' base v' (cs ++ ds) → w.grownBy w' v.ownBlock → wpList Try.prog ops Q rest (a.put o.dst v') w') : wpList Try.prog ops Q (o :: rest) a w := by
  obtain ⟨i, hi, hz, hs1, hb1⟩ := info_parts infoWord
  rcases hw with ⟨rfl, rfl⟩ | ⟨aa, c, rfl, hn, h1⟩
  · refine wpList_append_own_none hgd s x _ ho base _ i 1 Try.underlying22 hi v cs.length cs hs hown hx ?_
    exact h v w (by rw [List.append_nil]; exact hown) ⟨rfl, rfl, rfl, Nat.le_refl _, fun _ _ _ => rfl⟩
  · refine wpList_append_own w hgd s x _ ho base _ i _ 1 24 Try.underlying22 hi hz hs1 hb1 rfl (by decide) v cs.length cs hs hown aa ds.length c ds hx (by simp) hn h1 (Nat.le_trans hlen (by decide)) (by omega) hbase ?_
    intro v' w' ho' hg _
    refine h v' w' ?_ hg
    unfold OwnV
    rw [List.length_append]
    exact ho'
/-- A list of words that the call has made: its row, and each of its words. -/
def OwnL (w : World) (base : Nat) (v : Value) (l : List (Value × List Snd)) : Prop := OwnV w base v (l.map (·.1)) ∧ ∀ x ∈ l, Own w base x.1 x.2
theorem OwnL.nil (w : World) (base : Nat) : OwnL w base (.slice none 0 0) [] := ⟨OwnV.nil w base, fun x h => by simp at h⟩
theorem OwnL.below {w w' : World} {base : Nat} {v : Value} {l : List (Value × List Snd)} (h : OwnL w base v l) (hb : Below w.heap.size w w') : OwnL w' base v l := ⟨h.1.below hb, fun x hx => (h.2 x hx).below hb⟩
theorem OwnL.slice {w : World} {base : Nat} {v : Value} {l : List (Value × List Snd)} (h : OwnL w base v l) : ∃ ao cap, v = .slice ao l.length cap := by
  obtain ⟨ao, cap, e⟩ := h.1.slice
  exact ⟨ao, cap, by rw [e, List.length_map]⟩
theorem OwnL.row {w : World} {base : Nat} {v : Value} {l : List (Value × List Snd)} (h : OwnL w base v l) (k : Nat) (hk : v.ownBlock = some k) : base ≤ k := h.1.row k hk
theorem OwnL.ws {w : World} {base : Nat} {v : Value} {l : List (Value × List Snd)} (h : OwnL w base v l) : Ws w v l := by
  obtain ⟨⟨hl, ⟨rfl, h0⟩ | ⟨g, cap, cur, rfl, hg, hh, hn, hm, hs, ht⟩⟩, hw⟩ := h
  · exact .inl ⟨rfl, List.eq_nil_of_length_eq_zero (by simpa using h0)⟩
  · refine .inr ⟨g, 0, cap, by rw [List.length_map], by simpa using hn, hm, (Array.getElem?_eq_some_iff.1 hh).1, fun i hi => ⟨?_, (hw _ (List.getElem_mem hi)).wd⟩⟩
    rw [Nat.zero_add]
    refine cell_block hh ?_
    have key : (l.map (·.1))[i]? = some l[i].1 := by rw [List.getElem?_map, List.getElem?_eq_getElem hi]; rfl
    rw [← key, ← ht, List.getElem?_take_of_lt (by rw [List.length_map]; omega), Array.getElem?_toList]
theorem OwnL.more {w w' : World} {base : Nat} {v v' y : Value} {l : List (Value × List Snd)} {ss : List Snd} (h : OwnL w base v l) (hy : Own w base y ss) (ho : OwnV w' base v' (l.map (·.1) ++ [y])) (hg : w.grownBy w' v.ownBlock) : OwnL w' base v' (l ++ [(y, ss)]) := by
  refine ⟨by rw [List.map_append]; exact ho, fun x hx => ?_⟩
  rcases List.mem_append.1 hx with hx | hx
  · exact own_grown (h.2 x hx) h.1 hg
  · rw [List.mem_singleton] at hx; subst hx
    exact own_grown hy h.1 hg
theorem Ws.get {w : World} {a : Option Addr} {n c : Nat} {l : List (Value × List Snd)} (h : Ws w (.slice a n c) l) : n = l.length ∧ (n ≤ c ∧ c ≤ maxLen) ∧ ∀ i (hi : i < l.length), ∃ b off, a = some ⟨b, off, none⟩ ∧ b < w.heap.size ∧ w.cell? ⟨b, off + i, none⟩ = some l[i].1 ∧ Wd w l[i].1 l[i].2 := by
  obtain ⟨ao, cap, e, h1, h2, h3⟩ := h.open
  cases e
  exact ⟨rfl, ⟨h1, h2⟩, h3⟩
def lenV : Value → Nat
  | .slice _ n _ => n
  | _ => 0
end Go.Proofs.Ytfjngkdpembdcaa
