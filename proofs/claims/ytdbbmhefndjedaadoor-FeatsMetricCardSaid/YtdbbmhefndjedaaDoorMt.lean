/-
  Two rows of weights of the call's own, each in a struct's field: one is appended to at a time.
-/
import Derived.Test.YtdbbmhefndjedaaDoorQc
import Derived.Deep.AppendLies
namespace Go.Proofs.YtdbbmhefndjedaaDoor
open Go.RowKit Go.Sort Go.ChangeShapes Go.WideShapes Go.ChangeAt Go.Joins
def OwnI (w : World) (base : Nat) (v : Value) (xs : List Int) : Prop := w.ownsRow base 2 1 v xs.length (xs.map (Value.int .i64))
theorem OwnI.nil (w : World) (base : Nat) : OwnI w base (.slice none 0 0) [] := ⟨rfl, .inl ⟨rfl, rfl⟩⟩
theorem OwnI.kept {w w' : World} {base : Nat} {v : Value} {xs : List Int} {row : Option Nat} (h : OwnI w base v xs) (hg : w.grownBy w' row) (hne : v.ownBlock = none ∨ v.ownBlock ≠ row) : OwnI w' base v xs := World.ownsRow.kept h hg hne
theorem OwnI.far {w : World} {base b : Nat} {v : Value} {xs : List Int} {cs : Array Value} {T : TypeId} {fz : Nat × Nat} (h : OwnI w base v xs) (hb : w.heap[b]? = some (.cells cs T fz)) (hT : T ≠ 2) : v.ownBlock ≠ some b := by
  obtain ⟨_, ⟨rfl, _⟩ | ⟨g, cap, cur, rfl, _, hh, _⟩⟩ := h
  · simp [Value.ownBlock]
  · intro e
    simp only [Value.ownBlock, Option.some.injEq] at e
    subst e
    rw [hb] at hh
    simp only [Option.some.injEq, Obj.cells.injEq] at hh
    exact hT hh.2.1
theorem OwnI.in {w : World} {base g : Nat} {v : Value} {xs : List Int} (h : OwnI w base v xs) (e : v.ownBlock = some g) : g < w.heap.size := by
  obtain ⟨_, ⟨rfl, _⟩ | ⟨g', cap, cur, rfl, _, hh, _⟩⟩ := h
  · simp [Value.ownBlock] at e
  · simp only [Value.ownBlock, Option.some.injEq] at e
    subst e
    exact (Array.getElem?_eq_some_iff.1 hh).1
theorem OwnI.row' {w : World} {base : Nat} {v : Value} {xs : List Int} (h : OwnI w base v xs) (k : Nat) (hk : v.ownBlock = some k) : base ≤ k := by
  obtain ⟨_, ⟨rfl, _⟩ | ⟨g, cap, cur, rfl, hg, _⟩⟩ := h
  · simp [Value.ownBlock] at hk
  · simp only [Value.ownBlock, Option.some.injEq] at hk
    subst hk
    exact hg
theorem OwnI.wts {w : World} {base : Nat} {v : Value} {xs : List Int} (h : OwnI w base v xs) : Wts w v xs := wts_own h
theorem OwnI.slice {w : World} {base : Nat} {v : Value} {xs : List Int} (h : OwnI w base v xs) : ∃ ao cap, v = .slice ao xs.length cap := by
  obtain ⟨hl, ⟨rfl, h0⟩ | ⟨g, cap, cur, rfl, _⟩⟩ := h
  · exact ⟨none, 0, by rw [h0]⟩
  · exact ⟨_, cap, rfl⟩
/-- Costs in memory: a block that holds a row and a gap of 0. -/
def Holds (w : World) (b : Nat) (v : Value) : Prop := w.heap[b]? = some (.cells #[v, .int .i64 0] 40 (0, 0))
theorem Holds.kept {w w' : World} {b : Nat} {v : Value} {row : Option Nat} (h : Holds w b v) (hg : w.grownBy w' row) (hne : some b ≠ row) : Holds w' b v := (hg.block b (Array.getElem?_eq_some_iff.1 h).1 hne).trans h
theorem Holds.lt {w : World} {b : Nat} {v : Value} (h : Holds w b v) : b < w.heap.size := (Array.getElem?_eq_some_iff.1 h).1
theorem Holds.cells {w : World} {b : Nat} {v : Value} (h : Holds w b v) : w.cell? ⟨b, 0, none⟩ = some v ∧ w.cell? ⟨b, 1, none⟩ = some (.int .i64 0) ∧ w.frozen? ⟨b, 0, none⟩ = false := ⟨cell_block h rfl, cell_block h rfl, frozen_block h⟩
theorem Holds.set {w : World} {b : Nat} {v : Value} (h : Holds w b v) (u : Value) : Holds (w.setCell ⟨b, 0, none⟩ u) b u := by
  unfold Holds at *
  simp only [World.setCell]
  rw [Array.getElem?_modify, if_pos rfl, h]
  simp
theorem set_grown (w : World) (b : Nat) (v : Value) : w.grownBy (w.setCell ⟨b, 0, none⟩ v) (some b) := grownBy_setCell' w b v
theorem wtsN {w : World} {base n : Nat} {v : Value} {zs : List Int} (hn : zs.length = n) (h : w.ownsRow base 2 1 v n (zs.map (Value.int .i64))) : Wts w v zs := by
  subst hn
  exact wts_own h
theorem set_grown2 (w : World) (b o : Nat) (v : Value) : w.grownBy (w.setCell ⟨b, o, none⟩ v) (some b) := by
  refine ⟨rfl, rfl, rfl, by simp [World.setCell], fun k hk hne => ?_⟩
  simp only [World.setCell]
  rw [Array.getElem?_modify, if_neg (by intro e; exact hne (by rw [e]))]
theorem heap_new2 (W : World) (E L : Obj) : ((W.alloc E).alloc L).drew.heap[W.heap.size + 1]? = some L := by
  have := World.alloc_heap_new (W.alloc E) L
  rw [World.size_alloc] at this
  exact this
theorem heap_old2 (W : World) (L E : Obj) : ((W.alloc L).alloc E).drew.heap[W.heap.size]? = some L :=
  (Below.heap_alloc (W.alloc L) E W.heap.size (by rw [World.size_alloc]; omega)).trans (World.alloc_heap_new W L)
/-- Both fields of a struct that the call has made are stored. -/
theorem stored2 {w W1 : World} {B bt base n : Nat} {v x y u u' : Value} {xs : List Value} {T : TypeId} (hT : T ≠ 2) (q : w.heap[bt]? = some (.cells #[x, y] T (0, 0))) (ho : w.ownsRow base 2 1 v n xs) (hB : Below B W1 w) (hbt : B ≤ bt) :
    ((w.setCell ⟨bt, 0, none⟩ u).setCell ⟨bt, 1, none⟩ u').cell? ⟨bt, 0, none⟩ = some u ∧ ((w.setCell ⟨bt, 0, none⟩ u).setCell ⟨bt, 1, none⟩ u').cell? ⟨bt, 1, none⟩ = some u' ∧ ((w.setCell ⟨bt, 0, none⟩ u).setCell ⟨bt, 1, none⟩ u').ownsRow base 2 1 v n xs ∧ bt < ((w.setCell ⟨bt, 0, none⟩ u).setCell ⟨bt, 1, none⟩ u').heap.size ∧ Below B W1 ((w.setCell ⟨bt, 0, none⟩ u).setCell ⟨bt, 1, none⟩ u') := by
  have q2 : ((w.setCell ⟨bt, 0, none⟩ u).setCell ⟨bt, 1, none⟩ u').heap[bt]? = some (.cells #[u, u'] T (0, 0)) := by
    simp only [World.setCell]
    rw [Array.getElem?_modify, if_pos rfl, Array.getElem?_modify, if_pos rfl, q]
    simp
  have hne : v.ownBlock ≠ some bt := by
    obtain ⟨_, ⟨rfl, _⟩ | ⟨g, cap, cur, rfl, _, hh, _⟩⟩ := ho
    · simp [Value.ownBlock]
    · intro e
      simp only [Value.ownBlock, Option.some.injEq] at e
      subst e
      rw [q] at hh
      simp only [Option.some.injEq, Obj.cells.injEq] at hh
      exact hT hh.2.1
  exact ⟨cell_block q2 rfl, cell_block q2 rfl, World.ownsRow.kept (World.ownsRow.kept ho (set_grown2 w bt 0 u) (.inr hne)) (set_grown2 _ bt 1 u') (.inr hne), (Array.getElem?_eq_some_iff.1 q2).1, (hB.setCell hbt u).setCell hbt u'⟩
/-- Two rows of weights, each in a block of costs. -/
def Two (w : World) (base bc bo : Nat) (xs ys : List Int) (vc vo : Value) : Prop :=
  Holds w bc vc ∧ Holds w bo vo ∧ OwnI w base vc xs ∧ OwnI w base vo ys ∧ ∀ g, vc.ownBlock = some g → vo.ownBlock ≠ some g
theorem Two.swap {w : World} {base bc bo : Nat} {xs ys : List Int} {vc vo : Value} (h : Two w base bc bo xs ys vc vo) : Two w base bo bc ys xs vo vc := ⟨h.2.1, h.1, h.2.2.2.1, h.2.2.1, fun g e e' => h.2.2.2.2 g e' e⟩
theorem costs_ne : 40 ≠ 2 := by decide
theorem Two.kept {w w' : World} {base bc bo : Nat} {xs ys : List Int} {vc vo : Value} (h : Two w base bc bo xs ys vc vo) (hg : w.grownBy w' none) : Two w' base bc bo xs ys vc vo :=
  ⟨h.1.kept hg (by simp), h.2.1.kept hg (by simp), h.2.2.1.kept hg (by cases hv : vc.ownBlock <;> simp), h.2.2.2.1.kept hg (by cases hv : vo.ownBlock <;> simp), h.2.2.2.2⟩
theorem Two.below {w w' : World} {base bc bo : Nat} {xs ys : List Int} {vc vo : Value} (h : Two w base bc bo xs ys vc vo) (hb : Below w.heap.size w w') : Two w' base bc bo xs ys vc vo :=
  h.kept ⟨hb.os, hb.tape, hb.output, hb.size, fun k hk _ => hb.block k hk⟩
theorem Two.alloc {w : World} {base bc bo : Nat} {xs ys : List Int} {vc vo : Value} (h : Two w base bc bo xs ys vc vo) (o : Obj) : Two (w.alloc o) base bc bo xs ys vc vo := h.kept (World.grownBy_alloc w o none)
theorem Two.drew {w : World} {base bc bo : Nat} {xs ys : List Int} {vc vo : Value} (h : Two w base bc bo xs ys vc vo) : Two w.drew base bc bo xs ys vc vo := h
/-- Behind an append to the second row: the blocks of costs are as they were. -/
theorem Two.grown {w w' : World} {base bc bo g cap m : Nat} {xs ys zs : List Int} {vc vo : Value} (hne : bc ≠ bo) (h : Two w base bc bo xs ys vc vo) (hg : w.grownBy w' vo.ownBlock) (ho : OwnI w' base (.slice (some ⟨g, 0, none⟩) m cap) zs) (hat : vo.ownBlock = some g ∨ g = w.heap.size) :
    Holds w' bo vo ∧ Two (w'.setCell ⟨bo, 0, none⟩ (.slice (some ⟨g, 0, none⟩) m cap)) base bc bo xs zs vc (.slice (some ⟨g, 0, none⟩) m cap) := by
  obtain ⟨h1, h2, h3, h4, h5⟩ := h
  have k1 := h1.kept hg (Ne.symm (h4.far h1 costs_ne))
  have k2 := h2.kept hg (Ne.symm (h4.far h2 costs_ne))
  have k3 : OwnI w' base vc xs := h3.kept hg (by
    cases hv : vc.ownBlock with
    | none => exact .inl rfl
    | some k => exact .inr (fun e => h5 k hv e.symm))
  have hs := set_grown w' bo (.slice (some ⟨g, 0, none⟩) m cap)
  refine ⟨k2, k1.kept hs (by simpa using hne), k2.set _, k3.kept hs (.inr (k3.far k2 costs_ne)), ho.kept hs (.inr (ho.far k2 costs_ne)), fun k hk e => ?_⟩
  simp only [Value.ownBlock, Option.some.injEq] at e
  subst e
  rcases hat with e | e
  · exact h5 _ hk e
  · have := h3.in hk
    omega
theorem holds_pair {ws : World} {N : Nat} (hN : ws.heap.size = N) : Holds ((ws.alloc (.cells #[.slice none 0 0, .int .i64 0] 40)).alloc (.cells #[.slice none 0 0, .int .i64 0] 40)) N (.slice none 0 0) ∧ Holds ((ws.alloc (.cells #[.slice none 0 0, .int .i64 0] 40)).alloc (.cells #[.slice none 0 0, .int .i64 0] 40)) (N + 1) (.slice none 0 0) := by
  subst hN
  exact ⟨heap_old2 ws _ _, heap_new2 ws _ _⟩
theorem getD_take {zs : List Int} {k : Nat} (h : k < zs.length) : zs.take k ++ [zs.getD k 0] = zs.take (k + 1) := by
  rw [List.take_succ_eq_append_getElem h, List.getD_eq_getElem?_getD, List.getElem?_eq_getElem h]; rfl
/-- A slice of uint16 that reads as a list. -/
def Us (w : World) (sl : Value) (zs : List Int) : Prop :=
  ∃ ao cap, sl = .slice ao zs.length cap ∧ ∀ i, i < zs.length → ∃ b off, ao = some ⟨b, off, none⟩ ∧ b < w.heap.size ∧ w.cell? ⟨b, off + i, none⟩ = some (.int .u16 (zs.getD i 0))
theorem u16_cell {H : Type} {enc : TypeId × Value → H} {w : World} {base n : Nat} {spare : Nat → Bool} {held : Bool} {a : Addr} {y : DataW H × List MemPlace}
    (h : (w.cells? base a 1).bind (DataW.trod enc Tryd.prog w base spare held n 52) = some y) : ∃ z : Int, 0 ≤ z ∧ z ≤ 65535 ∧ w.cell? a = some (.int .u16 z) := by
  rw [Option.bind_eq_some_iff] at h
  obtain ⟨cs, hc, ht⟩ := h
  unfold World.cells? at hc
  split at hc
  · rw [show List.range 1 = [0] from rfl] at hc
    simp only [List.mapM_cons, List.mapM_nil, Option.bind_eq_bind, Option.pure_def, Option.bind_eq_some_iff, Option.some.injEq] at hc
    obtain ⟨c0, h0, l1, rfl, rfl⟩ := hc
    obtain ⟨z0, e0, _, w0⟩ := DataW.trod_int Tryd.underlying52 ht
    simp at e0
    subst e0
    have b := bounds_u16 w0
    exact ⟨z0, b.1, b.2, by simpa [Addr.add] using h0⟩
  · cases hc
/-- How a slice of uint16 is read. -/
theorem open_us {H : Type} {enc : TypeId × Value → H} {w : World} {base : Nat} {spare : Nat → Bool} {held : Bool} {r : Reach} {b0 : Nat} {v : Value} {d : DataW H} {p : List MemPlace}
    (hv : Value.okWide Tryd.prog w r b0 51 v) (h : DataW.Trod enc Tryd.prog w base spare held 51 v d p) : ∃ zs : List Int, zs.length ≤ 9223372036854775807 ∧ Us w v zs ∧ ∀ i, 0 ≤ zs.getD i 0 ∧ zs.getD i 0 ≤ 65535 := by
  obtain ⟨fuel, hf⟩ := h
  have hk : Tryd.prog.cellsOf 52 = 1 := by kernel_rfl
  rcases DataW.trod_slice Tryd.underlying51 hf with ⟨h0, _⟩ | ⟨a, len, cap, elems, rest, n, _, hcs, _, _, hl, hm, hlen, hel, _, _⟩
  · simp [Value.cells] at h0
    obtain ⟨ao, ln, cp, rfl⟩ := okWide_slice Tryd.underlying51 hv
    simp at h0
    obtain ⟨rfl, rfl, rfl⟩ := h0
    exact ⟨[], by simp, ⟨none, 0, rfl, fun i hi => by simp at hi⟩, fun i => by simp⟩
  · obtain ⟨ao, ln, cp, rfl⟩ := okWide_slice Tryd.underlying51 hv
    simp [Value.cells] at hcs
    obtain ⟨rfl, rfl, rfl⟩ := hcs
    have hok : Cell.ok Tryd.prog w r b0 51 (.slice (some a) ln cp) := by
      simpa [Value.okWide, Cell.okWide, Tryd.underlying51] using hv
    have hhas : ln ≤ cp ∧ (cp : Int) ≤ IntKind.i64.max ∧ w.has Tryd.prog r b0 a 52 cp := by
      simpa [Cell.ok, Tryd.underlying51] using hok
    obtain ⟨_, hsp, row, cells, hsh, _⟩ := hhas.2.2
    obtain ⟨ab, aoff, asp⟩ := a
    simp only at hsp
    subst hsp
    have hblk : ab < w.heap.size := by
      unfold World.shape? at hsh
      simp only at hsh
      rcases Nat.lt_or_ge ab w.heap.size with h1 | h1
      · exact h1
      · rw [Array.getElem?_eq_none h1] at hsh; cases hsh
    have each : ∀ i, i < ln → ∃ z : Int, 0 ≤ z ∧ z ≤ 65535 ∧ w.cell? ⟨ab, aoff + i, none⟩ = some (.int .u16 z) := fun i hi => by
      have h1 := hel i hi
      rw [hk, List.getElem?_eq_getElem (by omega)] at h1
      obtain ⟨z, z0, z1, c0⟩ := u16_cell h1
      rw [addr_addI, Nat.mul_one] at c0
      exact ⟨z, z0, z1, c0⟩
    obtain ⟨f, hf2⟩ : ∃ f : Nat → Int, ∀ i, i < ln → 0 ≤ f i ∧ f i ≤ 65535 ∧ w.cell? ⟨ab, aoff + i, none⟩ = some (.int .u16 (f i)) :=
      ⟨fun i => if h : i < ln then Classical.choose (each i h) else 0, fun i hi => by simp only [dif_pos hi]; exact Classical.choose_spec (each i hi)⟩
    have hcm : cp ≤ 9223372036854775807 := hm
    have hget : ∀ i, i < ln → ((List.range ln).map f).getD i 0 = f i := fun i hi => by
      rw [List.getD_eq_getElem?_getD, List.getElem?_map, List.getElem?_range hi]; rfl
    refine ⟨(List.range ln).map f, by simp; omega, ⟨some ⟨ab, aoff, none⟩, cp, by simp, fun i hi => ?_⟩, fun i => ?_⟩
    · have hi' : i < ln := by simpa using hi
      exact ⟨ab, aoff, rfl, hblk, by rw [hget i hi', (hf2 i hi').2.2]⟩
    · rcases Nat.lt_or_ge i ln with hi | hi
      · rw [hget i hi]; exact ⟨(hf2 i hi).1, (hf2 i hi).2.1⟩
      · rw [List.getD_eq_getElem?_getD, List.getElem?_eq_none (by simpa using hi)]; simp
end Go.Proofs.YtdbbmhefndjedaaDoor
