/-
  append of words to a list of the call's own, in a region that draws its order.
-/
import Derived.Test.YtfjngkdpembdcaaSv
import Derived.Deep.RegionLaw
namespace Go.Proofs.Ytfjngkdpembdcaa
open Go.RowKit Go.Sort
theorem addr_add' (b o j : Nat) : (⟨b, o, none⟩ : Addr).add j = ⟨b, o + j, none⟩ := by
  unfold Addr.add
  first | rfl | (split <;> simp_all) | (simp; omega)
theorem step_appV {ops : Array Oper} {o : Oper} {a : Act} {w : World} {K : Act → World → Prop} {Q : Exit → Act → World → Prop} {E : Prop} (hgd : o.guard = none) (s x : Operand)
    (ho : o.op = .call { callee := .builtin .append, args := #[s, x], argTypes := #[22, 22] })
    (base : Nat) (v u : Value) (cs ds : List Value) (hs : a.eval s = v) (hx : a.eval x = u) (hown : OwnV w base v cs) (hw : Vs w u ds) (hlen : cs.length + ds.length ≤ 1000000000000) (hbase : base ≤ w.heap.size)
    (h : ∀ v' w', OwnV w' base v' (cs ++ ds) → (∀ B a, B ≤ base → Below B a w → Below B a w') → w.heap.size ≤ w'.heap.size → K (a.put o.dst v') w') :
    if Region.wanted o (yielded ops a.tmps) = true then Oper.wp Try.prog o a w K Q else E := by
  have hwd : Region.wanted o (yielded ops a.tmps) = true := by simp [Region.wanted, hgd]
  rw [if_pos hwd]
  obtain ⟨i, hi, hz, hs1, hb1⟩ := info_parts infoWord
  rcases hw with ⟨rfl, rfl⟩ | ⟨aa, c, rfl, hn, h1⟩
  · have hrun := run_append_owned_none (P := Try.prog) (w := w) base 22 o.type 24 i 1 Try.underlying22 hi v cs.length cs hown
    unfold Oper.wp
    simp [execOp, ho, resolve, invoke, builtin, hs, hx, hrun, Result.andThen]
    exact h v w (by rw [List.append_nil]; exact hown) (fun _ _ _ hb => hb) (Nat.le_refl _)
  · refine wp_append_own w s x 22 ho base _ i _ 1 24 Try.underlying22 hi hz hs1 hb1 rfl (by decide) v cs.length cs hs hown aa ds.length c ds hx (by simp) hn h1 (Nat.le_trans hlen (by decide)) (by omega) hbase ?_
    intro v' w' ho' hg _
    refine h v' w' ?_ (fun B a hB hb => hb.grown hg (by omega) (fun k e => Nat.le_trans hB (OwnV.row hown k e))) hg.size
    unfold OwnV
    rw [List.length_append]
    exact ho'
theorem OwnV.slice' {w : World} {base : Nat} {v : Value} {cs : List Value} (h : OwnV w base v cs) : ∃ ao cap, v = .slice ao cs.length cap := h.slice
/-- An empty list that the call has made. -/
theorem OwnV.empty (w : World) : OwnV (w.alloc (.cells #[] 24)) w.heap.size (.slice (some ⟨w.heap.size, 0, none⟩) 0 0) [] :=
  ⟨rfl, .inr ⟨w.heap.size, 0, #[], rfl, Nat.le_refl _, World.alloc_heap_new w _, by simp, by simp, by simp, by simp⟩⟩
theorem OwnV.ws {w : World} {base : Nat} {v : Value} {l : List (Value × List Snd)} (h : OwnV w base v (l.map (·.1))) (hw : ∀ x ∈ l, Wd w x.1 x.2) : Ws w v l := by
  obtain ⟨hl, ⟨rfl, h0⟩ | ⟨g, cap, cur, rfl, hg, hh, hn, hm, hs, ht⟩⟩ := h
  · exact .inl ⟨rfl, List.eq_nil_of_length_eq_zero (by simpa using h0)⟩
  · refine .inr ⟨g, 0, cap, by rw [List.length_map], by simpa using hn, hm, (Array.getElem?_eq_some_iff.1 hh).1, fun i hi => ⟨?_, hw _ (List.getElem_mem hi)⟩⟩
    rw [Nat.zero_add]
    refine cell_block hh ?_
    have key : (l.map (·.1))[i]? = some l[i].1 := by rw [List.getElem?_map, List.getElem?_eq_getElem hi]; rfl
    rw [← key, ← ht, List.getElem?_take_of_lt (by rw [List.length_map]; omega), Array.getElem?_toList]
/-- Some words of a list, as cells. -/
theorem Vs.part {w : World} {b off c : Nat} {l : List (Value × List Snd)} (h : ∀ i (h : i < l.length), w.cell? ⟨b, off + i, none⟩ = some l[i].1 ∧ Wd w l[i].1 l[i].2) : Vs w (.slice (some ⟨b, off, none⟩) l.length c) (l.map (·.1)) := by
  refine .inr ⟨⟨b, off, none⟩, c, by rw [List.length_map], fun j x hx => ?_, fun x hx => ?_⟩
  · rw [List.getElem?_map, Option.map_eq_some_iff] at hx
    obtain ⟨y, hy, rfl⟩ := hx
    obtain ⟨hj, rfl⟩ := List.getElem?_eq_some_iff.1 hy
    rw [addr_add']
    exact (h j hj).1
  · obtain ⟨y, hy, rfl⟩ := List.mem_map.1 hx
    obtain ⟨i, hi, rfl⟩ := List.mem_iff_getElem.1 hy
    obtain ⟨_, _, e, -⟩ := (h i hi).2.open
    rw [e]; simp [Value.oneCell']
theorem Vs.below {w w' : World} {u : Value} {ds : List Value} {b off n c : Nat} (hu : u = .slice (some ⟨b, off, none⟩) n c) (h : Vs w u ds) (hb : Below w.heap.size w w') (hbl : b < w.heap.size) : Vs w' u ds := by
  subst hu
  rcases h with ⟨e, -⟩ | ⟨aa, c', e, h1, h2⟩
  · cases e
  · cases e
    exact .inr ⟨_, _, rfl, fun j x hx => by rw [addr_add', hb.cell (p := ⟨b, off + j, none⟩) hbl, ← addr_add']; exact h1 j x hx, h2⟩
end Go.Proofs.Ytfjngkdpembdcaa
