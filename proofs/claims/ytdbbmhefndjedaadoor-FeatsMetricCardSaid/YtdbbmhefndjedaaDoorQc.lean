/-
  append of weights to an empty row of the call's own, at a step of a region that draws its order; how costs are read.
-/
import Derived.Test.YtdbbmhefndjedaaDoorQb
import Derived.Test.YtdbbmhefndjedaaDoorLa
import Derived.Deep.RegionLaw
namespace Go.Proofs.YtdbbmhefndjedaaDoor
open Go.RowKit Go.Sort Go.ChangeShapes Go.WideShapes Go.ChangeAt Go.Joins
theorem infoI : (Tryd.prog.info? 2).map (fun i => (i.zero, i.size, i.bytes)) = some (some (.int .i64 0), 1, 8) := by kernel_rfl
theorem info_partsI {P : Program} {e : TypeId} {z : Option Value} {n m : Nat} (h : (P.info? e).map (fun i => (i.zero, i.size, i.bytes)) = some (z, n, m)) : ∃ i, P.info? e = some i ∧ i.zero = z ∧ i.size = n ∧ i.bytes = m := by
  cases hi : P.info? e with
  | none => rw [hi] at h; cases h
  | some i =>
    rw [hi] at h
    simp only [Option.map_some, Option.some.injEq, Prod.mk.injEq] at h
    exact ⟨i, rfl, h.1, h.2.1, h.2.2⟩
/-- An empty row that the call has made. -/
theorem ownI_empty (w : World) (g : Nat) (hg : w.heap.size = g) : (w.alloc (.cells #[] 2)).ownsRow g 2 1 (.slice (some ⟨g, 0, none⟩) 0 0) 0 [] := by
  subst hg
  exact ⟨rfl, .inr ⟨w.heap.size, 0, #[], rfl, Nat.le_refl _, World.alloc_heap_new w _, by simp, by simp, by simp, by simp⟩⟩
theorem wts_own {w : World} {base : Nat} {v : Value} {zs : List Int} (h : w.ownsRow base 2 1 v zs.length (zs.map (Value.int .i64))) : Wts w v zs := by
  obtain ⟨hl, ⟨rfl, h0⟩ | ⟨g, cap, cur, rfl, hg, hh, hn, hm, hs, ht⟩⟩ := h
  · exact .inl ⟨rfl, List.eq_nil_of_length_eq_zero h0⟩
  · refine .inr ⟨g, 0, cap, rfl, (Array.getElem?_eq_some_iff.1 hh).1, fun i hi => ?_⟩
    rw [Nat.zero_add]
    refine cell_block hh ?_
    have key : (zs.map (Value.int .i64))[i]? = some (.int .i64 (zs.getD i 0)) := by rw [List.getElem?_map, List.getD_eq_getElem?_getD, List.getElem?_eq_getElem hi]; rfl
    rw [← key, ← ht, List.getElem?_take_of_lt (by omega), Array.getElem?_toList]
theorem addr_addI (b o j : Nat) : (⟨b, o, none⟩ : Addr).add j = ⟨b, o + j, none⟩ := by
  unfold Addr.add
  first | rfl | (split <;> simp_all) | (simp; omega)
theorem step_appI {ops : Array Oper} {o : Oper} {a : Act} {w : World} {K : Act → World → Prop} {Q : Exit → Act → World → Prop} {E : Prop} (hgd : o.guard = none) (s x : Operand)
    (ho : o.op = .call { callee := .builtin .append, args := #[s, x], argTypes := #[38, 38] })
    (g : Nat) (u : Value) (zs : List Int) (hs : a.eval s = .slice (some ⟨g, 0, none⟩) 0 0) (hx : a.eval x = u) (hown : w.ownsRow g 2 1 (.slice (some ⟨g, 0, none⟩) 0 0) 0 []) (hw : Wts w u zs) (hlen : zs.length ≤ 1000000000000) (hbase : g ≤ w.heap.size)
    (h : ∀ v' w', w'.ownsRow g 2 1 v' zs.length (zs.map (Value.int .i64)) → (∀ B a, B ≤ g → Below B a w → Below B a w') → (∀ k, k < w.heap.size → k ≠ g → w'.heap[k]? = w.heap[k]?) → w.heap.size ≤ w'.heap.size → K (a.put o.dst v') w') :
    if Region.wanted o (yielded ops a.tmps) = true then Oper.wp Tryd.prog o a w K Q else E := by
  have hwd : Region.wanted o (yielded ops a.tmps) = true := by simp [Region.wanted, hgd]
  rw [if_pos hwd]
  obtain ⟨i, hi, hz, hs1, hb1⟩ := info_partsI infoI
  rcases hw with ⟨rfl, rfl⟩ | ⟨b, off, c, rfl, lb, h1⟩
  · have hrun := run_append_owned_none (P := Tryd.prog) (w := w) g 38 o.type 2 i 1 Tryd.underlying38 hi (.slice (some ⟨g, 0, none⟩) 0 0) 0 [] hown
    unfold Oper.wp
    simp [execOp, ho, resolve, invoke, builtin, hs, hx, hrun, Result.andThen]
    exact h _ w hown (fun _ _ _ hb => hb) (fun _ _ _ => rfl) (Nat.le_refl _)
  · refine wp_append_own w s x 38 ho g _ i _ 1 8 Tryd.underlying38 hi hz hs1 hb1 rfl (by decide) (.slice (some ⟨g, 0, none⟩) 0 0) 0 [] hs hown ⟨b, off, none⟩ zs.length c (zs.map (Value.int .i64)) hx (by simp) ?_ ?_ (by have : zs.length ≤ maxLen := Nat.le_trans hlen (by decide); omega) (by omega) hbase ?_
    · intro j y hy
      rw [List.getElem?_map, Option.map_eq_some_iff] at hy
      obtain ⟨z, hz, rfl⟩ := hy
      obtain ⟨hj, rfl⟩ := List.getElem?_eq_some_iff.1 hz
      rw [addr_addI, h1 j hj, List.getD_eq_getElem?_getD, List.getElem?_eq_getElem hj]; rfl
    · intro y hy
      obtain ⟨z, _, rfl⟩ := List.mem_map.1 hy
      rfl
    · intro v' w' ho' hg _
      refine h v' w' (by simpa using ho') (fun B a hB hb => hb.grown hg (by omega) (fun k e => by cases e; exact hB)) (fun k hk hne => hg.block k hk (by simpa [Value.ownBlock] using hne)) hg.size
/-- Weights in memory, element by element. -/
theorem Wts.open {w : World} {v : Value} {zs : List Int} (h : Wts w v zs) : ∃ ao cap, v = .slice ao zs.length cap ∧ ∀ i, i < zs.length → ∃ b off, ao = some ⟨b, off, none⟩ ∧ b < w.heap.size ∧ w.cell? ⟨b, off + i, none⟩ = some (.int .i64 (zs.getD i 0)) := by
  rcases h with ⟨rfl, rfl⟩ | ⟨b, off, cap, rfl, lb, h3⟩
  · exact ⟨none, 0, rfl, fun i hi => by simp at hi⟩
  · exact ⟨_, cap, rfl, fun i hi => ⟨b, off, rfl, lb, h3 i hi⟩⟩
theorem Wts.at' {w : World} {ao : Option Addr} {n cap k : Nat} {zs : List Int} (h : Wts w (.slice ao n cap) zs) (hk : k < zs.length) : zs.length = n ∧ ∃ b off, ao = some ⟨b, off, none⟩ ∧ b < w.heap.size ∧ w.cell? ⟨b, off + k, none⟩ = some (.int .i64 (zs.getD k 0)) := by
  obtain ⟨ao', cap', e, h3⟩ := h.open
  cases e
  exact ⟨rfl, h3 k hk⟩
theorem int_cell {H : Type} {enc : TypeId × Value → H} {w : World} {base n : Nat} {spare : Nat → Bool} {held : Bool} {a : Addr} {y : DataW H × List MemPlace}
    (h : (w.cells? base a 1).bind (DataW.trod enc Tryd.prog w base spare held n 2) = some y) : ∃ z : Int, w.cell? a = some (.int .i64 z) := by
  rw [Option.bind_eq_some_iff] at h
  obtain ⟨cs, hc, ht⟩ := h
  unfold World.cells? at hc
  split at hc
  · rw [show List.range 1 = [0] from rfl] at hc
    simp only [List.mapM_cons, List.mapM_nil, Option.bind_eq_bind, Option.pure_def, Option.bind_eq_some_iff, Option.some.injEq] at hc
    obtain ⟨c0, h0, l1, rfl, rfl⟩ := hc
    obtain ⟨z0, e0, _, _⟩ := DataW.trod_int Tryd.underlying2 ht
    simp at e0
    subst e0
    exact ⟨z0, by simpa [Addr.add] using h0⟩
  · cases hc
/-- How costs are read. -/
theorem open_costs {H : Type} {enc : TypeId × Value → H} {w : World} {base : Nat} {spare : Nat → Bool} {held : Bool} {r : Reach} {b0 : Nat} {v : Value} {d : DataW H} {p : List MemPlace}
    (hv : Value.okWide Tryd.prog w r b0 40 v) (h : DataW.Trod enc Tryd.prog w base spare held 40 v d p) : ∃ (sl : Value) (gap : Int) (zs : List Int), zs.length ≤ 9223372036854775807 ∧ Wts w sl zs ∧ v = .agg #[sl, .int .i64 gap] := by
  obtain ⟨v0, v1, y0, y1, n, rfl, _, _, h0, h1⟩ := open_agg2 Tryd.underlying40 (by kernel_rfl) (by kernel_rfl) hv h
  obtain ⟨gap, e1, _, _⟩ := DataW.trod_int Tryd.underlying2 h1
  simp only [List.cons.injEq, and_true] at e1
  subst e1
  have hcell : Cell.okWide Tryd.prog w r b0 38 v0 := by
    simp only [Value.okWide, Tryd.underlying40] at hv
    obtain ⟨cs, e, _, ts, ht, _, hh⟩ := hv
    cases e
    have hts : ts = [38, 2] := Option.some.inj (ht.symm.trans (show Tryd.prog.cellTypes Tryd.prog.depth 40 = some [38, 2] by kernel_rfl))
    subst hts
    obtain ⟨u, hu, hc⟩ := hh 0 v0 rfl
    cases hu
    exact hc
  have hk : Tryd.prog.cellsOf 2 = 1 := by kernel_rfl
  rcases DataW.trod_slice Tryd.underlying38 h0 with ⟨e, _⟩ | ⟨a, len, cap, elems, rest, n', _, hcs, _, _, hl, hm, hlen, hel, _, _⟩
  · simp at e
    subst e
    exact ⟨_, gap, [], by simp, .inl ⟨rfl, rfl⟩, rfl⟩
  · simp at hcs
    subst hcs
    have hok : Cell.ok Tryd.prog w r b0 38 (.slice (some a) len cap) := by
      simpa [Cell.okWide, Tryd.underlying38] using hcell
    have hhas : len ≤ cap ∧ (cap : Int) ≤ IntKind.i64.max ∧ w.has Tryd.prog r b0 a 2 cap := by
      simpa [Cell.ok, Tryd.underlying38] using hok
    obtain ⟨_, hsp, row, cells, hsh, _⟩ := hhas.2.2
    obtain ⟨ab, aoff, asp⟩ := a
    simp only at hsp
    subst hsp
    have hblk : ab < w.heap.size := by
      unfold World.shape? at hsh
      simp only at hsh
      rcases Nat.lt_or_ge ab w.heap.size with h1 | h1
      · exact h1
      · rw [Array.getElem?_eq_none h1] at hsh; cases hsh
    have each : ∀ i, i < len → ∃ z : Int, w.cell? ⟨ab, aoff + i, none⟩ = some (.int .i64 z) := fun i hi => by
      have h1 := hel i hi
      rw [hk, List.getElem?_eq_getElem (by omega)] at h1
      obtain ⟨z, c0⟩ := int_cell h1
      rw [addr_addI, Nat.mul_one] at c0
      exact ⟨z, c0⟩
    obtain ⟨f, hf2⟩ : ∃ f : Nat → Int, ∀ i, i < len → w.cell? ⟨ab, aoff + i, none⟩ = some (.int .i64 (f i)) :=
      ⟨fun i => if h : i < len then Classical.choose (each i h) else 0, fun i hi => by simp only [dif_pos hi]; exact Classical.choose_spec (each i hi)⟩
    have hcm : cap ≤ 9223372036854775807 := hm
    refine ⟨_, gap, (List.range len).map f, by simp; omega, .inr ⟨ab, aoff, cap, by simp, hblk, fun i hi => ?_⟩, rfl⟩
    have hi' : i < len := by simpa using hi
    rw [hf2 i hi', List.getD_eq_getElem?_getD, List.getElem?_map, List.getElem?_range hi']
    rfl
end Go.Proofs.YtdbbmhefndjedaaDoor
