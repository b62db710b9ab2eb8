/-
  Lemmas that the theorem of this claim rests on: 3 texts, one behind the other.
-/
import Derived.Test.YtmobilppakjihaaDoorM1
import Derived.Test.YtmobilppakjihaaDoorProg
import Derived.Shelf.SlicesQ.Reverse
import Derived.Deep.AppendLies
import Derived.Test.YtmobilppakjihaaDoorM29
set_option linter.unusedSimpArgs false
set_option linter.unusedVariables false
/-
  The library's contract of slices.Reverse, laid at this program's own numbers: for patterns.
-/
namespace Go.Proofs.YtmobilppakjihaaDoor
open Go.Shelf Go.Proofs
def revP_ren : Go.Shelf.Ren := ⟨fun | 35 => 84 | n => n, fun | 22 => 25 | 23 => 27 | 3 => 3 | 4 => 4 | 0 => 0 | n => n, fun | n => n⟩
theorem revPL : SlLaysE0.n35 Tryd.prog revP_ren := {
  mixed := by kernel_rfl,
  f35 := ⟨Tryd.f84.name, by decide, Tryd.func84.trans (congrArg some (by kernel_rfl))⟩,
  t0 := Tryd.underlying0,
  a0 := Tryd.isAgg0,
  z0 := Tryd.sizeOf0,
  v0 := Tryd.zeroValue0,
  t3 := Tryd.underlying3,
  a3 := Tryd.isAgg3,
  z3 := Tryd.sizeOf3,
  v3 := Tryd.zeroValue3,
  t4 := Tryd.underlying4,
  a4 := Tryd.isAgg4,
  z4 := Tryd.sizeOf4,
  v4 := Tryd.zeroValue4,
  t22 := Tryd.underlying25,
  a22 := Tryd.isAgg25,
  z22 := Tryd.sizeOf25,
  v22 := Tryd.zeroValue25 }
end Go.Proofs.YtmobilppakjihaaDoor

/-
  Patterns by the memory that they rest on; rows of patterns that the call has made.
-/
namespace Go.Proofs.YtmobilppakjihaaDoor
open Go.RowKit Go.Sort
/-- A slice in blocks from lo on, below hi. -/
def SlR (lo hi : Nat) (v : Value) (n : Nat) (P : Nat → Nat → Prop) : Prop :=
  ((v = .slice none 0 0 ∨ ∃ aa, v = .slice (some aa) 0 0) ∧ n = 0) ∨ ∃ b off cap, v = .slice (some ⟨b, off, none⟩) n cap ∧ n ≤ cap ∧ cap ≤ maxLen ∧ lo ≤ b ∧ b < hi ∧ P b off
/-- Rows of patterns begin at each seventh cell of a block that the call made. -/
def Rw7 (w : World) (b o : Nat) : Prop := o % 7 = 0 ∧ ∃ cs, w.heap[b]? = some (.cells cs 27 (0, 0))
theorem Rw7.move {w w' : World} {b o : Nat} (h : Rw7 w b o) (e : w'.heap[b]? = w.heap[b]?) : Rw7 w' b o := ⟨h.1, by rw [e]; exact h.2⟩
def PfR (w : World) (lo hi : Nat) : Fo → Nat → Nat → Prop
  | .nil, _, _ => True
  | .cons d k r, b, o => w.cell? ⟨b, o, none⟩ = some (.int .i64 d.kind) ∧ w.cell? ⟨b, o + 1, none⟩ = some (.int .u32 (d.is.1.toNat : Int)) ∧ w.cell? ⟨b, o + 2, none⟩ = some (.int .u32 (d.is.2.toNat : Int)) ∧ w.cell? ⟨b, o + 3, none⟩ = some (.bool d.neg)
      ∧ w.cell? ⟨b, o + 4, none⟩ = some (.int .i64 d.mi) ∧ w.cell? ⟨b, o + 5, none⟩ = some (.int .i64 d.ma) ∧ w.cell? ⟨b, o + 6, none⟩ = some d.sl ∧ SlR lo hi d.sl k.len (fun b o => Rw7 w b o ∧ PfR w lo hi k b o) ∧ PfR w lo hi r b (o + 7)
abbrev PtR (w : World) (lo hi : Nat) (d : Nd) (k : Fo) : Prop := SlR lo hi d.sl k.len (fun b o => Rw7 w b o ∧ PfR w lo hi k b o)
theorem SlR.imp {lo hi lo' hi' : Nat} {v : Value} {n : Nat} {P Q : Nat → Nat → Prop} (h : SlR lo hi v n P) (h1 : lo' ≤ lo) (h2 : hi ≤ hi') (hPQ : ∀ b o, lo ≤ b → b < hi → P b o → Q b o) : SlR lo' hi' v n Q := by
  rcases h with h | ⟨b, off, cap, a1, a2, a3, a4, a5, a6⟩
  · exact .inl h
  · exact .inr ⟨b, off, cap, a1, a2, a3, by omega, by omega, hPQ _ _ a4 a5 a6⟩
theorem PfR.move {w w' : World} {lo hi lo' hi' : Nat} (h1 : lo' ≤ lo) (h2 : hi ≤ hi') (hb : ∀ b, lo ≤ b → b < hi → w'.heap[b]? = w.heap[b]?) : ∀ (f : Fo) (b o : Nat), lo ≤ b → b < hi → PfR w lo hi f b o → PfR w' lo' hi' f b o
  | .nil, _, _, _, _, _ => trivial
  | .cons d k r, b, o, l1, l2, ⟨c0, c1, c2, c3, c4, c5, c6, c7, c8⟩ =>
    have e := hb b l1 l2
    ⟨(World.cell?_of_block e).trans c0, (World.cell?_of_block e).trans c1, (World.cell?_of_block e).trans c2, (World.cell?_of_block e).trans c3, (World.cell?_of_block e).trans c4, (World.cell?_of_block e).trans c5, (World.cell?_of_block e).trans c6,
      c7.imp h1 h2 (fun b' o' m1 m2 hp => ⟨hp.1.move (hb b' m1 m2), PfR.move h1 h2 hb k b' o' m1 m2 hp.2⟩), PfR.move h1 h2 hb r b (o + 7) l1 l2 c8⟩
theorem PtR.move {w w' : World} {lo hi lo' hi' : Nat} {d : Nd} {k : Fo} (h : PtR w lo hi d k) (h1 : lo' ≤ lo) (h2 : hi ≤ hi') (hb : ∀ b, lo ≤ b → b < hi → w'.heap[b]? = w.heap[b]?) : PtR w' lo' hi' d k :=
  SlR.imp h h1 h2 (fun b o m1 m2 hp => ⟨hp.1.move (hb b m1 m2), PfR.move h1 h2 hb k b o m1 m2 hp.2⟩)
theorem PfR.pf {w : World} {lo hi : Nat} (hh : hi ≤ w.heap.size) : ∀ (f : Fo) (b o : Nat), PfR w lo hi f b o → Pf w f b o
  | .nil, _, _, _ => trivial
  | .cons d k r, b, o, ⟨c0, c1, c2, c3, c4, c5, c6, c7, c8⟩ => ⟨c0, c1, c2, c3, c4, c5, c6, (by
      rcases c7 with h | ⟨b', off, cap, a1, a2, a3, a4, a5, a6⟩
      · exact .inl h
      · exact .inr ⟨b', off, cap, a1, a2, a3, by omega, PfR.pf hh k b' off a6.2⟩), PfR.pf hh r b (o + 7) c8⟩
theorem PtR.pt {w : World} {lo hi : Nat} {d : Nd} {k : Fo} (h : PtR w lo hi d k) (hh : hi ≤ w.heap.size) : Pt w d k := by
  rcases h with h | ⟨b', off, cap, a1, a2, a3, a4, a5, a6⟩
  · exact .inl h
  · exact .inr ⟨b', off, cap, a1, a2, a3, by omega, PfR.pf hh k b' off a6.2⟩
/-- A row of patterns as cells. -/
def rowD (ds : List Nd) : List Value := (ds.map c7).flatten
theorem rowD_length : ∀ ds : List Nd, (rowD ds).length = ds.length * 7
  | [] => rfl
  | d :: ds => by
    show (c7 d ++ rowD ds).length = _
    rw [List.length_append, rowD_length ds]; simp [c7]; omega
theorem rowD_append (xs ys : List Nd) : rowD (xs ++ ys) = rowD xs ++ rowD ys := by simp [rowD]
theorem rowD_get : ∀ (ds : List Nd) (i c : Nat) (h : i < ds.length), c < 7 → (rowD ds)[i * 7 + c]? = (c7 ds[i])[c]?
  | [], i, c, h, _ => by simp at h
  | d :: ds, 0, c, h, hc => by
    show (c7 d ++ rowD ds)[0 * 7 + c]? = _
    rw [List.getElem?_append_left (by simp [c7]; omega), Nat.zero_mul, Nat.zero_add]
    rfl
  | d :: ds, i + 1, c, h, hc => by
    show (c7 d ++ rowD ds)[(i + 1) * 7 + c]? = _
    rw [List.getElem?_append_right (by simp [c7]; omega), show (i + 1) * 7 + c - (c7 d).length = i * 7 + c from by simp [c7]; omega]
    exact rowD_get ds i c (by simpa using h) hc
def OwnD (W : World) (base : Nat) (v : Value) (ds : List Nd) : Prop := W.ownsRow base 27 7 v ds.length (rowD ds)
theorem OwnD.nil (w : World) (base : Nat) : OwnD w base (.slice none 0 0) [] := ⟨rfl, .inl ⟨rfl, rfl⟩⟩
theorem OwnD.below {w w' : World} {base : Nat} {v : Value} {ds : List Nd} (h : OwnD w base v ds) (hb : Below w.heap.size w w') : OwnD w' base v ds := by
  obtain ⟨hl, h0 | ⟨g, cap, cur, hv, hg, hh, hr⟩⟩ := h
  · exact ⟨hl, .inl h0⟩
  · exact ⟨hl, .inr ⟨g, cap, cur, hv, hg, (hb.block g (Array.getElem?_eq_some_iff.1 hh).1).trans hh, hr⟩⟩
theorem OwnD.move {w w' : World} {base : Nat} {v : Value} {ds : List Nd} (h : OwnD w base v ds) (hb : ∀ b, v.ownBlock = some b → w'.heap[b]? = w.heap[b]?) : OwnD w' base v ds := by
  obtain ⟨hl, h0 | ⟨g, cap, cur, rfl, hg, hh, hr⟩⟩ := h
  · exact ⟨hl, .inl h0⟩
  · exact ⟨hl, .inr ⟨g, cap, cur, rfl, hg, (hb g rfl).trans hh, hr⟩⟩
/-- The forest of some patterns. -/
def toFo : List (Nd × Fo) → Fo
  | [] => .nil
  | x :: l => .cons x.1 x.2 (toFo l)
theorem toFo_len : ∀ l, (toFo l).len = l.length
  | [] => rfl
  | x :: l => by simp only [toFo, Fo.len, toFo_len l, List.length_cons]
/-- Patterns in a row that the call has made, each on blocks of its own. -/
def PsR (W : World) (lo : Nat) (v : Value) (ps : List (Nd × Fo)) : Prop := OwnD W lo v (ps.map (·.1)) ∧ ∀ i (h : i < ps.length), ∃ l h', PtR W l h' ps[i].1 ps[i].2 ∧ lo ≤ l ∧ l ≤ h' ∧ h' ≤ W.heap.size ∧ ∀ b, v.ownBlock = some b → b < l ∨ h' ≤ b
theorem PsR.nil (w : World) (lo : Nat) : PsR w lo (.slice none 0 0) [] := ⟨OwnD.nil w lo, fun i h => by simp at h⟩
theorem PsR.below {w w' : World} {lo : Nat} {v : Value} {ps : List (Nd × Fo)} (h : PsR w lo v ps) (hb : Below w.heap.size w w') : PsR w' lo v ps := by
  refine ⟨h.1.below hb, fun i hi => ?_⟩
  obtain ⟨l, h', a1, a2, a3, a4, a5⟩ := h.2 i hi
  exact ⟨l, h', a1.move (Nat.le_refl _) (Nat.le_refl _) (fun b b1 b2 => hb.block b (by omega)), a2, a3, by have := hb.size; omega, a5⟩
theorem pfr_row {W : World} {g : Nat} {lo : Nat} (hlo : lo ≤ g) (hg : g < W.heap.size) : ∀ (ps : List (Nd × Fo)) (o : Nat), (∀ i (h : i < ps.length), ∀ c, c < 7 → W.cell? ⟨g, o + (i * 7 + c), none⟩ = (c7 ps[i].1)[c]?) → (∀ i (h : i < ps.length), PtR W lo W.heap.size ps[i].1 ps[i].2) → PfR W lo W.heap.size (toFo ps) g o
  | [], _, _, _ => trivial
  | x :: ps, o, h, hp => by
    have h0 := fun c hc => h 0 (by simp) c hc
    simp only [Nat.zero_mul, Nat.zero_add, List.getElem_cons_zero] at h0
    refine ⟨h0 0 (by omega), h0 1 (by omega), h0 2 (by omega), h0 3 (by omega), h0 4 (by omega), h0 5 (by omega), h0 6 (by omega), hp 0 (by simp), pfr_row hlo hg ps (o + 7) (fun i hi c hc => ?_) (fun i hi => ?_)⟩
    · have := h (i + 1) (by simpa using hi) c hc
      rw [show o + ((i + 1) * 7 + c) = o + 7 + (i * 7 + c) from by omega] at this
      simpa using this
    · have := hp (i + 1) (by simpa using hi)
      simpa using this
/-- A node whose patterns lie in such a row. -/
theorem PsR.pt {W : World} {lo : Nat} {v : Value} {ps : List (Nd × Fo)} (h : PsR W lo v ps) (d : Nd) (hs : d.sl = v) : PtR W lo W.heap.size d (toFo ps) := by
  obtain ⟨⟨hl, h0⟩, hc⟩ := h
  rcases h0 with ⟨rfl, h0⟩ | ⟨g, cap, cur, rfl, hg, hh, hn, hm, hsz, ht⟩
  · rw [List.length_map] at h0
    exact .inl ⟨.inl hs, by rw [toFo_len]; exact h0⟩
  · have hgl := (Array.getElem?_eq_some_iff.1 hh).1
    rw [List.length_map] at hn ht
    refine .inr ⟨g, 0, cap, by rw [hs, toFo_len, List.length_map], by rw [toFo_len]; exact hn, hm, hg, hgl, ⟨rfl, cur, hh⟩, pfr_row hg hgl ps 0 (fun i hi c hc' => ?_) (fun i hi => ?_)⟩
    · have hget := rowD_get (ps.map (·.1)) i c (by simpa using hi) hc'
      rw [List.getElem_map] at hget
      rw [Nat.zero_add, ← hget, ← ht, List.getElem?_take_of_lt (by omega), Array.getElem?_toList]
      have hlt : i * 7 + c < cur.size := by rw [hsz]; omega
      rw [Array.getElem?_eq_getElem hlt]
      exact cell_block hh (Array.getElem?_eq_getElem hlt)
    · obtain ⟨l, h', a1, a2, a3, a4, -⟩ := hc i hi
      exact a1.move a2 a4 (fun _ _ _ => rfl)
theorem PsR.snoc {wr w3 w4 : World} {lo lo3 : Nat} {v v' : Value} {ps : List (Nd × Fo)} {d : Nd} {k : Fo} {O : Obj} (h : PsR wr lo v ps) (hlo : lo ≤ wr.heap.size) (hb : Below wr.heap.size wr w3) (hr : PtR w3 lo3 w3.heap.size d k) (h1 : wr.heap.size ≤ lo3) (h2 : lo3 ≤ w3.heap.size)
    (ho : OwnD w4 lo v' (ps.map (·.1) ++ [d])) (hg : (w3.alloc O).grownBy w4 v.ownBlock) (hv : v'.ownBlock = v.ownBlock ∨ v'.ownBlock = some (w3.heap.size + 1)) : PsR w4 lo v' (ps ++ [(d, k)]) := by
  have hvb : ∀ b, v.ownBlock = some b → b < wr.heap.size := fun b e => by
    obtain ⟨_, o, hq, _⟩ := ownsRow_block h.1 b e
    exact (Array.getElem?_eq_some_iff.1 hq).1
  have hs4 : w3.heap.size + 1 ≤ w4.heap.size := by have := hg.size; rwa [World.size_alloc] at this
  have hblk : ∀ b, b < w3.heap.size → v.ownBlock ≠ some b → w4.heap[b]? = w3.heap[b]? := fun b hb1 hb2 =>
    (hg.block b (by rw [World.size_alloc]; omega) (fun e => hb2 e.symm)).trans (Below.heap_alloc w3 O b hb1)
  refine ⟨by rw [List.map_append]; exact ho, fun i hi => ?_⟩
  by_cases hlt : i < ps.length
  · obtain ⟨l, h', a1, a2, a3, a4, a5⟩ := h.2 i hlt
    rw [List.getElem_append_left hlt]
    refine ⟨l, h', a1.move (Nat.le_refl _) (Nat.le_refl _) (fun b b1 b2 => ?_), a2, a3, by have := hb.size; omega, fun b e => ?_⟩
    · rw [hblk b (by have := hb.size; omega) (fun e => by rcases a5 b e with h | h <;> omega)]
      exact hb.block b (by omega)
    · rcases hv with hv | hv
      · exact a5 b (hv.symm.trans e)
      · rw [hv] at e; cases e; have := hb.size; exact .inr (by omega)
  · obtain rfl : i = ps.length := by simp at hi; omega
    rw [List.getElem_append_right (Nat.le_refl _)]
    simp only [Nat.sub_self, List.getElem_cons_zero]
    refine ⟨lo3, w3.heap.size, hr.move (Nat.le_refl _) (Nat.le_refl _) (fun b b1 b2 => hblk b b2 (fun e => by have := hvb b e; omega)), by omega, h2, by omega, fun b e => ?_⟩
    rcases hv with hv | hv
    · have := hvb b (hv.symm.trans e); exact .inl (by omega)
    · rw [hv] at e; cases e; exact .inr (by omega)
end Go.Proofs.YtmobilppakjihaaDoor

/-
  slices.Reverse on a row of patterns that the call has made; appends to it.
-/
namespace Go.Proofs.YtmobilppakjihaaDoor
open Go.RowKit Go.Sort Go.Shelf Go.Proofs
instance : Inhabited Nd := ⟨⟨0, (0#32, 0#32), false, 0, 0, .slice none 0 0⟩⟩
def encD (d : Nd) : List Value := [.int .i64 d.kind, .int .u32 (d.is.1.toNat : Int), .int .u32 (d.is.2.toNat : Int), .bool d.neg, .int .i64 d.mi, .int .i64 d.ma, if d.sl.oneCell' = true then d.sl else .slice none 0 0]
theorem encD_c7 {d : Nd} (h : d.sl.oneCell' = true) : encD d = c7 d := by unfold encD c7; rw [if_pos h]
theorem encD_one (d : Nd) : ∀ v ∈ encD d, v.oneCell' = true := by
  intro v hv
  simp only [encD, List.mem_cons, List.not_mem_nil, or_false] at hv
  rcases hv with rfl | rfl | rfl | rfl | rfl | rfl | rfl
  all_goals first
    | rfl
    | (split
       · assumption
       · rfl)
theorem flatD (ds : List Nd) (h1 : ∀ d ∈ ds, d.sl.oneCell' = true) : (flatK encD 7 ds.toArray).toList = rowD ds := by
  apply List.ext_getElem?
  intro t
  by_cases ht : t < ds.length * 7
  · have hi : t / 7 < ds.length := by omega
    have e1 : (flatK encD 7 ds.toArray).toList[t]? = some ((flatK encD 7 ds.toArray)[t]!) := by
      rw [Array.getElem?_toList, getElem!_pos _ t (by simpa using ht), Array.getElem?_eq_getElem (by simpa using ht)]
    rw [e1, get_flatK _ _ _ _ (by simpa using ht)]
    have e2 : ds.toArray[t / 7]! = ds[t / 7] := by rw [getElem!_pos ds.toArray (t / 7) (by simpa using hi)]; simp
    rw [e2, encD_c7 (h1 _ (List.getElem_mem hi))]
    have := rowD_get ds (t / 7) (t % 7) hi (Nat.mod_lt t (by omega))
    rw [show t / 7 * 7 + t % 7 = t from by omega] at this
    rw [this]
    have h7 : t % 7 < (c7 ds[t / 7]).length := by simp [c7]; omega
    rw [List.getElem?_eq_getElem h7, getElem!_pos (c7 ds[t / 7]) (t % 7) h7]
  · rw [List.getElem?_eq_none (by simp; omega), List.getElem?_eq_none (by rw [rowD_length]; omega)]
theorem putCells_take (d cur : Array Value) (h : d.size ≤ cur.size) : (putCells id 0 d cur).toList.take d.size = d.toList := by
  apply List.ext_getElem?
  intro t
  by_cases ht : t < d.size
  · rw [List.getElem?_take_of_lt ht, Array.getElem?_toList, Array.getElem?_toList]
    unfold putCells
    rw [Array.getElem?_mapIdx, Array.getElem?_eq_getElem (by omega : t < cur.size)]
    simp [ht]
  · rw [List.getElem?_eq_none (by simp; omega), List.getElem?_eq_none (by simpa using ht)]
theorem putCells_size (d cur : Array Value) : (putCells id 0 d cur).size = cur.size := by simp [putCells]
theorem mapBlock_at (w : World) (g : Nat) (f : Array Value → Array Value) (cur : Array Value) (T : TypeId) (z : Nat × Nat) (h : w.heap[g]? = some (.cells cur T z)) : (mapBlock w g f).heap[g]? = some (.cells (f cur) T z) := by
  show (w.heap.modify g _)[g]? = _
  rw [Array.getElem?_modify, if_pos rfl, h]
  rfl
/-- slices.Reverse turns a row that the call has made. -/
theorem revD (ds : List Nd) (h1 : ∀ d ∈ ds, d.sl.oneCell' = true) (v : Value) (w : World) (lo : Nat) (h : OwnD w lo v ds) (hl : ds.length ≤ 1000000000) :
    Calls Tryd.prog 84 #[v] w fun e w' => e = .returned (.tuple #[]) ∧ OwnD w' lo v ds.reverse ∧ w'.heap.size = w.heap.size ∧ (∀ b, v.ownBlock ≠ some b → w'.heap[b]? = w.heap[b]?) ∧ ∀ B a, B ≤ lo → Below B a w → Below B a w' := by
  obtain ⟨hlen, ⟨rfl, h0⟩ | ⟨g, cap, cur, rfl, hg, hh, hn, hm, hs, ht⟩⟩ := h
  · have hcon := AnyQ.slices_Reverse_empty revPL none 0 w
    change Calls Tryd.prog 84 _ _ _ at hcon
    refine hcon.mono ?_
    rintro e w' ⟨rfl, rfl⟩
    have : ds = [] := List.eq_nil_of_length_eq_zero h0
    subst this
    exact ⟨rfl, OwnD.nil _ _, rfl, fun _ _ => rfl, fun _ _ _ h => h⟩
  · have hgl := (Array.getElem?_eq_some_iff.1 hh).1
    have hH : HoldsK encD 7 w g 0 ds.toArray := by
      intro j hj
      rw [size_flatK, List.size_toArray] at hj
      refine ⟨?_, frozen_block hh⟩
      have e1 : (flatK encD 7 ds.toArray).toList[j]? = some ((flatK encD 7 ds.toArray)[j]!) := by
        rw [Array.getElem?_toList, getElem!_pos _ j (by simpa using hj), Array.getElem?_eq_getElem (by simpa using hj)]
      rw [flatD ds h1, ← ht, List.getElem?_take_of_lt (by omega), Array.getElem?_toList] at e1
      rw [Nat.zero_add]
      exact cell_block hh e1
    have hcon := AnyQ.slices_Reverse revPL 7 Tryd.isAgg27 Tryd.sizeOf27 encD (fun _ => rfl) (fun x v hv => encD_one x v hv) g 0 cap ds.toArray w hH (by rw [List.size_toArray]; omega)
    change Calls Tryd.prog 84 _ _ _ at hcon
    rw [List.size_toArray] at hcon
    refine hcon.mono ?_
    rintro e w' ⟨rfl, n, rfl⟩
    have hrev : ds.toArray.reverse = ds.reverse.toArray := by simp
    have hother : ∀ b, b ≠ g → (putRowK encD 7 (Sort.ahead w n) g 0 ds.toArray.reverse).heap[b]? = w.heap[b]? := fun b hb => by
      show (w.heap.modify g _)[b]? = w.heap[b]?
      rw [Array.getElem?_modify, if_neg (fun e => hb e.symm)]
    have hsize : (putRowK encD 7 (Sort.ahead w n) g 0 ds.toArray.reverse).heap.size = w.heap.size := by
      show (putRow id (Sort.ahead w n) g 0 _).heap.size = _
      rw [size_putRow]; rfl
    refine ⟨rfl, ⟨?_, .inr ⟨g, cap, putCells id 0 (flatK encD 7 ds.reverse.toArray) cur, by rw [List.length_reverse], hg, ?_, by rw [List.length_reverse]; exact hn, hm, ?_, ?_⟩⟩, hsize, fun b hb => hother b (fun e => hb (by rw [e]; rfl)), fun B a hB hb => ⟨hb.os, hb.tape, hb.output, by rw [hsize]; exact hb.size, fun k hk => ?_⟩⟩
    · rw [rowD_length]
    · rw [← hrev]
      exact mapBlock_at (Sort.ahead w n) g _ cur _ _ hh
    · rw [putCells_size]; exact hs
    · have h2 : (flatK encD 7 ds.reverse.toArray).size = ds.reverse.length * 7 := by simp
      rw [← h2, putCells_take _ _ (by rw [h2, List.length_reverse, hs]; exact Nat.mul_le_mul_right 7 hn)]
      exact flatD ds.reverse (fun d hd => h1 d (by simpa using hd))
    · rw [hother k (by omega)]
      exact hb.block k hk
theorem step_appD {ops : Array Oper} {o : Oper} {a : Act} {w : World} {K : Act → World → Prop} {Q : Exit → Act → World → Prop} {E : Prop} (hgd : o.guard = none) (s x : Operand)
    (ho : o.op = .call { callee := .builtin .append, args := #[s, x], argTypes := #[25, 25] })
    (base D : Nat) (v : Value) (ds : List Nd) (d : Nd) (hone : d.sl.oneCell' = true) (hs : a.eval s = v) (hx : a.eval x = .slice (some ⟨D, 0, none⟩) 1 1) (hc : w.heap[D]? = some (.cells #[.int .i64 d.kind, .int .u32 (d.is.1.toNat : Int), .int .u32 (d.is.2.toNat : Int), .bool d.neg, .int .i64 d.mi, .int .i64 d.ma, d.sl] 27)) (hown : OwnD w base v ds) (hlen : ds.length + 1 ≤ 1000000) (hbase : base ≤ w.heap.size) (H : Nat) (hH : w.heap.size = H)
    (h : ∀ g cap n w', OwnD w' base (.slice (some ⟨g, 0, none⟩) n cap) (ds ++ [d]) → w.grownBy w' v.ownBlock → (v.ownBlock = some g ∨ g = H) → K (a.put o.dst (.slice (some ⟨g, 0, none⟩) n cap)) w') :
    if Region.wanted o (yielded ops a.tmps) = true then Oper.wp Tryd.prog o a w K Q else E := by
  obtain ⟨i, hi, hz, hs1, hb1⟩ := info_parts infoPat
  have hone7 : ∀ u ∈ c7 d, u.oneCell' = true := by
    intro u hu
    have := encD_one d
    rw [encD_c7 hone] at this
    exact this u hu
  refine step_append_lies w hgd s x 25 ho base 27 i _ 7 64 Tryd.underlying25 hi hz hs1 hb1 rfl (by decide) v ds.length (rowD ds) hs hown ⟨D, 0, none⟩ 1 1 (c7 d) hx rfl (World.news_of_block (cs := #[.int .i64 d.kind, .int .u32 (d.is.1.toNat : Int), .int .u32 (d.is.2.toNat : Int), .bool d.neg, .int .i64 d.mi, .int .i64 d.ma, d.sl]) hc) hone7 (by decide) (Nat.le_trans hlen (by decide)) (by omega) hbase H hH ?_
  intro g cap w' h1 hg hv _
  refine h g cap (ds.length + 1) w' ?_ hg hv
  unfold OwnD
  rw [rowD_append, List.length_append]
  have : rowD [d] = c7 d := by simp [rowD]
  rw [this]
  exact h1
end Go.Proofs.YtmobilppakjihaaDoor
