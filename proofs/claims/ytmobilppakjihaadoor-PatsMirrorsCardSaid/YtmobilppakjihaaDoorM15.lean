/-
  Lemmas that the theorem of this claim rests on: 4 texts, one behind the other.
-/
import Derived.Test.YtmobilppakjihaaDoorM12
import Derived.Test.YtmobilppakjihaaDoorM13
import Derived.Test.YtmobilppakjihaaDoorM14
import Derived.Maps.AppendAt
set_option linter.unusedSimpArgs false
set_option linter.unusedVariables false
/-
  Nodes made of patterns: nodesOf.
-/
namespace Go.Proofs.YtmobilppakjihaaDoor
open Go.RowKit Go.Sort
/-- How some patterns match, for any word. -/
def tabFs : Fo → List (List Snd → Tb)
  | .nil => []
  | .cons d k r => (fun ss => tabP ss d k) :: tabFs r
theorem tabFs_map (ss : List Snd) : ∀ f : Fo, (tabFs f).map (fun T => T ss) = tabF ss f
  | .nil => rfl
  | .cons d k r => by simp only [tabFs, List.map_cons, tabFs_map ss r, tabF]; rfl
theorem tabFs_len : ∀ f : Fo, (tabFs f).length = f.len
  | .nil => rfl
  | .cons d k r => by simp only [tabFs, List.length_cons, tabFs_len r, Fo.len]
theorem tabFs_get : ∀ (f : Fo) (j : Nat) (d : Nd) (k r : Fo), f.drop j = .cons d k r → (tabFs f)[j]? = some (fun ss => tabP ss d k)
  | .nil, 0, d, k, r, h => by cases h
  | .nil, j + 1, d, k, r, h => by cases h
  | .cons d' k' r', 0, d, k, r, h => by cases h; rfl
  | .cons d' k' r', j + 1, d, k, r, h => by
    simp only [Fo.drop] at h
    simpa [tabFs] using tabFs_get r' j d k r h
theorem Fo.good_drop : ∀ (f : Fo) (j : Nat), f.good → (f.drop j).good
  | f, 0, h => by rw [Fo.drop_zero]; exact h
  | .nil, j + 1, _ => trivial
  | .cons _ _ r, j + 1, h => Fo.good_drop r j h.2.2
theorem infoNode : (Tryd.prog.info? 94).map (fun i => (i.zero, i.size, i.bytes)) = some (some .nilIface, 1, 16) := by kernel_rfl
/-- Nodes that the call has made. -/
def OwnNs (w : World) (base : Nat) (v : Value) (us : List Value) : Prop := w.ownsRow base 94 1 v us.length us
theorem OwnNs.nil (w : World) (base : Nat) : OwnNs w base (.slice none 0 0) [] := ⟨rfl, .inl ⟨rfl, rfl⟩⟩
theorem OwnNs.below {w w' : World} {base : Nat} {v : Value} {us : List Value} (h : OwnNs w base v us) (hb : Below w.heap.size w w') : OwnNs w' base v us := by
  obtain ⟨hl, h0 | ⟨g, cap, cur, hv, hg, hh, hr⟩⟩ := h
  · exact ⟨hl, .inl h0⟩
  · exact ⟨hl, .inr ⟨g, cap, cur, hv, hg, (hb.block g (Array.getElem?_eq_some_iff.1 hh).1).trans hh, hr⟩⟩
theorem OwnNs.ns {w : World} {base : Nat} {v : Value} {us : List Value} {Ts : List (List Snd → Tb)} (h : OwnNs w base v us) (hl : us.length = Ts.length) (hn : ∀ i (h : i < Ts.length), ∃ u, us[i]? = some u ∧ NodeT w u Ts[i]) : Ns w v Ts := by
  obtain ⟨hl2, ⟨rfl, h0⟩ | ⟨g, cap, cur, rfl, hg, hh, hc, hm, hs, ht⟩⟩ := h
  · exact .inl ⟨rfl, List.eq_nil_of_length_eq_zero (by omega)⟩
  · refine .inr ⟨g, 0, cap, by rw [hl], by omega, hm, (Array.getElem?_eq_some_iff.1 hh).1, fun i hi => ?_⟩
    obtain ⟨u, hu, hnu⟩ := hn i hi
    refine ⟨u, ?_, hnu⟩
    rw [Nat.zero_add]
    refine cell_block hh ?_
    rw [← hu, ← ht, List.getElem?_take_of_lt (by omega), Array.getElem?_toList]
end Go.Proofs.YtmobilppakjihaaDoor

/-
  Nodes by the memory that they rest on.
-/
namespace Go.Proofs.YtmobilppakjihaaDoor
open Go.RowKit Go.Sort
/-- A node that rests on the blocks from lo on, below hi, and on the table. -/
def NodeR (W0 : World) (lo hi : Nat) (v : Value) (T : List Snd → Tb) : Prop := ∃ (t : TypeId) (pl : Value) (f : FuncId), v = .iface t pl ∧ NodeFn t f ∧ (∀ ss : List Snd, ss.length ≤ 32 → OkT ss.length (T ss)) ∧ hi ≤ W0.heap.size ∧
  ∀ W, hi ≤ W.heap.size → (∀ b, lo ≤ b → b < hi → W.heap[b]? = W0.heap[b]?) → Tab64 W → 0 < W.heap.size → ∀ (ss : List Snd) (sv : Value), ss.length ≤ 32 → Wd W sv ss → Gives f #[pl, sv] W (.agg (tbR (T ss)))
theorem NodeR.wider {W0 : World} {lo hi lo' hi' : Nat} {v : Value} {T : List Snd → Tb} (h : NodeR W0 lo hi v T) (h1 : lo' ≤ lo) (h2 : hi ≤ hi') (h3 : hi' ≤ W0.heap.size) : NodeR W0 lo' hi' v T := by
  obtain ⟨t, pl, f, a1, a2, a3, a4, a5⟩ := h
  exact ⟨t, pl, f, a1, a2, a3, h3, fun W hW hb => a5 W (by omega) (fun b hb1 hb2 => hb b (by omega) (by omega))⟩
theorem NodeR.move {W0 W1 : World} {lo hi : Nat} {v : Value} {T : List Snd → Tb} (h : NodeR W0 lo hi v T) (hs : hi ≤ W1.heap.size) (hb : ∀ b, lo ≤ b → b < hi → W1.heap[b]? = W0.heap[b]?) : NodeR W1 lo hi v T := by
  obtain ⟨t, pl, f, a1, a2, a3, a4, a5⟩ := h
  exact ⟨t, pl, f, a1, a2, a3, hs, fun W hW hq => a5 W hW (fun b h1 h2 => (hq b h1 h2).trans (hb b h1 h2))⟩
theorem NodeR.below {W0 W1 : World} {lo hi : Nat} {v : Value} {T : List Snd → Tb} (h : NodeR W0 lo hi v T) (hb : Below W0.heap.size W0 W1) : NodeR W1 lo hi v T := by
  have hh := h
  obtain ⟨t, pl, f, a1, a2, a3, a4, a5⟩ := hh
  exact h.move (by have := hb.size; omega) (fun b h1 h2 => hb.block b (by omega))
theorem NodeR.node {W0 : World} {lo hi : Nat} {v : Value} {T : List Snd → Tb} (h : NodeR W0 lo hi v T) (hT : Tab64 W0) (h0 : 0 < W0.heap.size) : NodeT W0 v T := by
  obtain ⟨t, pl, f, a1, a2, a3, a4, a5⟩ := h
  exact ⟨t, pl, f, a1, a2, a3, fun W hW => a5 W (by have := hW.size; omega) (fun b h1 h2 => hW.block b (by omega)) (hT.below hW h0) (by have := hW.size; omega)⟩
/-- Nodes in a slice that the call has made: each rests on blocks of its own. -/
def NsR (W0 : World) (lo : Nat) (v : Value) (Ts : List (List Snd → Tb)) : Prop := ∃ us : List Value, OwnNs W0 lo v us ∧ us.length = Ts.length ∧ ∀ i (h : i < Ts.length), ∃ u l h', us[i]? = some u ∧ NodeR W0 l h' u Ts[i] ∧ lo ≤ l ∧ l ≤ h' ∧ ∀ b, v.ownBlock = some b → b < l ∨ h' ≤ b
theorem NsR.ns {W0 : World} {lo : Nat} {v : Value} {Ts : List (List Snd → Tb)} (h : NsR W0 lo v Ts) (W : World) (hs : W0.heap.size ≤ W.heap.size) (hb : ∀ b, lo ≤ b → b < W0.heap.size → W.heap[b]? = W0.heap[b]?) (hT : Tab64 W) (h0 : 0 < W.heap.size) : Ns W v Ts := by
  obtain ⟨us, ho, hl, hn⟩ := h
  have ho' : OwnNs W lo v us := by
    obtain ⟨hl2, h0 | ⟨g, cap, cur, hv, hg, hh, hr⟩⟩ := ho
    · exact ⟨hl2, .inl h0⟩
    · exact ⟨hl2, .inr ⟨g, cap, cur, hv, hg, (hb g hg (Array.getElem?_eq_some_iff.1 hh).1).trans hh, hr⟩⟩
  refine ho'.ns hl fun i hi => ?_
  obtain ⟨u, l, h', hu, hr, h1, h2, -⟩ := hn i hi
  have h4 : h' ≤ W0.heap.size := by obtain ⟨_, _, _, _, _, _, a4, _⟩ := hr; exact a4
  exact ⟨u, hu, (hr.move (by omega) (fun b hb1 hb2 => hb b (by omega) (by omega))).node hT h0⟩
theorem nr_empty (W0 : World) (lo hi : Nat) (hh : hi ≤ W0.heap.size) : NodeR W0 lo hi (.iface 116 (.agg #[])) (fun ss => sameT ss.length) :=
  ⟨_, _, _, rfl, nf_empty, fun ss hl => OkT.same (by omega), hh, fun W _ _ _ _ ss sv hl hw => pempty_any ss sv W hl hw⟩
theorem nr_begin (W0 : World) (lo hi : Nat) (hh : hi ≤ W0.heap.size) : NodeR W0 lo hi (.iface 108 (.agg #[])) (fun _ => beginT) :=
  ⟨_, _, _, rfl, nf_begin, fun ss hl a b hm => by
    simp only [mem, beginT] at hm
    split at hm
    · rw [show (1#64) = 1#64 <<< 0 from rfl, one_shl (by omega)] at hm
      have := of_decide_eq_true hm
      omega
    · simp at hm, hh, fun W _ _ _ _ ss sv _ _ => pbegin_any sv W⟩
theorem nr_end (W0 : World) (lo hi : Nat) (hh : hi ≤ W0.heap.size) : NodeR W0 lo hi (.iface 115 (.agg #[])) (fun ss => endT ss.length) :=
  ⟨_, _, _, rfl, nf_end, fun ss hl a b hm => by
    simp only [mem, endT] at hm
    split at hm
    · rw [one_shl (by omega)] at hm
      have := of_decide_eq_true hm
      omega
    · simp at hm, hh, fun W _ _ _ _ ss sv hl hw => pend_any ss sv W hl hw⟩
theorem nr_sound (W0 : World) (lo hi : Nat) (hh : hi ≤ W0.heap.size) (c : Snd) (neg : Bool) : NodeR W0 lo hi (.iface 106 (.agg #[.int .u32 (c.1.toNat : Int), .int .u32 (c.2.toNat : Int), .bool neg])) (fun ss => soundT ss c neg) :=
  ⟨_, _, _, rfl, nf_sound, fun ss hl a b hm => by
    simp only [mem, soundT] at hm
    split at hm
    · simp at hm
    · rename_i s hs
      have ha : a < ss.length := (List.getElem?_eq_some_iff.1 hs).1
      split at hm
      · rw [one_shl (by omega)] at hm
        have := of_decide_eq_true hm
        omega
      · simp at hm, hh, fun W _ _ _ _ ss sv hl hw => psound_any c neg ss sv W hl hw⟩
theorem ok_map {Ts : List (List Snd → Tb)} {ss : List Snd} (h : ∀ T ∈ Ts, OkT ss.length (T ss)) : ∀ t ∈ Ts.map (fun T => T ss), OkT ss.length t := fun t ht => by
  obtain ⟨T, hT, rfl⟩ := List.mem_map.1 ht
  exact h T hT
theorem NsR.ok {W0 : World} {lo : Nat} {v : Value} {Ts : List (List Snd → Tb)} (h : NsR W0 lo v Ts) {ss : List Snd} (hl : ss.length ≤ 32) : ∀ T ∈ Ts, OkT ss.length (T ss) := fun T hT => by
  obtain ⟨us, ho, hl2, hn⟩ := h
  obtain ⟨i, hi, rfl⟩ := List.getElem_of_mem hT
  obtain ⟨u, l, h', hu, ⟨_, _, _, _, _, a3, _⟩, _⟩ := hn i hi
  exact a3 ss hl
theorem nr_seq {W0 : World} {lo : Nat} {v : Value} {Ts : List (List Snd → Tb)} (h : NsR W0 lo v Ts) : NodeR W0 lo W0.heap.size (.iface 110 v) (fun ss => (Ts.map (fun T => T ss)).foldl (thnT ss.length) (sameT ss.length)) :=
  ⟨_, _, _, rfl, nf_seq, fun ss hl => OkT.fold_thn _ _ (OkT.same (by omega)) (ok_map (h.ok hl)), Nat.le_refl _, fun W hs hb hT h0 ss sv hl hw => pseq_any Ts v ss sv W hl hw (h.ns W hs hb hT h0) hT h0⟩
theorem nr_alt {W0 : World} {lo : Nat} {v : Value} {Ts : List (List Snd → Tb)} (h : NsR W0 lo v Ts) : NodeR W0 lo W0.heap.size (.iface 112 v) (fun ss => (Ts.map (fun T => T ss)).foldl orT zeroT) :=
  ⟨_, _, _, rfl, nf_alt, fun ss hl => OkT.fold_or _ _ (OkT.zero _) (ok_map (h.ok hl)), Nat.le_refl _, fun W hs hb hT h0 ss sv hl hw => palt_any Ts v ss sv W hl hw (h.ns W hs hb hT h0) hT h0⟩
theorem nr_rep {W0 : World} {lo hi : Nat} {u : Value} {T : List Snd → Tb} (h : NodeR W0 lo hi u T) (mi : Nat) (ma : Int) (h1 : mi ≤ 32) (h2 : ma = -1 ∨ (mi : Int) ≤ ma ∧ ma ≤ 32) : NodeR W0 lo hi (.iface 114 (.agg #[u, .int .i64 (mi : Int), .int .i64 ma])) (fun ss => repT ss.length (T ss) mi ma) := by
  have hh := h
  obtain ⟨t, pl, f, a1, a2, a3, a4, a5⟩ := hh
  exact ⟨_, _, _, rfl, nf_rep, fun ss hl => OkT.rep (by omega) (a3 ss hl) _ _, a4, fun W hs hb hT h0 ss sv hl hw => prep_any T u mi ma ss sv W hl hw ((h.move hs hb).node hT h0) hT h0 h1 h2⟩
end Go.Proofs.YtmobilppakjihaaDoor

/-
  Nodes made of patterns.
-/
namespace Go.Proofs.YtmobilppakjihaaDoor
open Go.RowKit Go.Sort
theorem ownsRow_slice {w : World} {base e size n : Nat} {v : Value} {xs : List Value} (h : w.ownsRow base e size v n xs) : ∃ ao cap, v = .slice ao n cap := by
  obtain ⟨_, ⟨rfl, h0⟩ | ⟨g, cap, cur, rfl, _⟩⟩ := h
  · exact ⟨none, 0, by rw [h0]⟩
  · exact ⟨_, cap, rfl⟩
/-- A cell, and its mark, behind an append to another row. -/
theorem grown_cell {W W3 : World} {O : Obj} {row : Option Nat} {b : Nat} {v : Value} (hg : (W.alloc O).grownBy W3 row) (hb : b < W.heap.size) (hr : ∀ k, row = some k → b + 1 ≤ k) (ec : W.cell? ⟨b, 0, none⟩ = some v) (ef : W.frozen? ⟨b, 0, none⟩ = false) : W3.cell? ⟨b, 0, none⟩ = some v ∧ W3.frozen? ⟨b, 0, none⟩ = false := by
  have hblk : W3.heap[b]? = W.heap[b]? := (hg.block b (by rw [World.size_alloc]; omega) (fun e => by have := hr b e.symm; omega)).trans (Below.heap_alloc W O b hb)
  exact ⟨(World.cell?_of_block hblk).trans ec, (World.frozen?_of_block hblk).trans ef⟩
theorem ownsRow_block {w : World} {base e size n : Nat} {v : Value} {xs : List Value} (h : w.ownsRow base e size v n xs) (k : Nat) (hk : v.ownBlock = some k) : base ≤ k ∧ ∃ o : Obj, w.heap[k]? = some o ∧ o.isCells = true := by
  obtain ⟨hl, ⟨rfl, h0⟩ | ⟨g, cap, cur, rfl, hg, hh, hr⟩⟩ := h
  · cases hk
  · cases hk; exact ⟨hg, _, hh, rfl⟩
theorem wpList_appN {ops : Array Oper} {rest : List Oper} {o : Oper} {a : Act} {w : World} {Q : Exit → Act → World → Prop} (hgd : o.guard = none) (s x : Operand)
    (ho : o.op = .call { callee := .builtin .append, args := #[s, x], argTypes := #[109, 109] })
    (base D : Nat) (v : Value) (us : List Value) (u : Value) (hu : u.oneCell' = true) (hs : a.eval s = v) (hx : a.eval x = .slice (some ⟨D, 0, none⟩) 1 1) (hc : w.cell? ⟨D, 0, none⟩ = some u) (hown : OwnNs w base v us) (hlen : us.length + 1 ≤ 1000000000) (hbase : base ≤ w.heap.size)
    (h : ∀ v' w', OwnNs w' base v' (us ++ [u]) → w.grownBy w' v.ownBlock → (v'.ownBlock = v.ownBlock ∨ v'.ownBlock = some w.heap.size) → wpList Tryd.prog ops Q rest (a.put o.dst v') w') : wpList Tryd.prog ops Q (o :: rest) a w := by
  obtain ⟨i, hi, hz, hs1, hb1⟩ := info_parts infoNode
  refine wpList_append_own_at w hgd s x 109 ho base _ i _ 1 16 Tryd.underlying109 hi hz hs1 hb1 rfl (by decide) v us.length us hs hown ⟨D, 0, none⟩ 1 1 [u] hx (by simp) ?_ ?_ (Nat.le_trans hlen (by decide)) (by omega) hbase ?_
  · intro j y hy
    obtain ⟨hj, rfl⟩ := List.getElem?_eq_some_iff.1 hy
    obtain rfl : j = 0 := by simpa using hj
    exact hc
  · intro y hy
    rw [List.mem_singleton.1 hy]
    exact hu
  · intro v' w' ho' hg _ hb
    refine h v' w' ?_ hg hb
    unfold OwnNs
    rw [List.length_append]
    exact ho'
theorem nsr_snoc {wr w3 w4 : World} {n0 lo3 : Nat} {v v' u : Value} {us : List Value} {Ts : List (List Snd → Tb)} {T : List Snd → Tb} {O : Obj} (ho : OwnNs wr n0 v us) (hl : us.length = Ts.length) (hn : ∀ i (h : i < Ts.length), ∃ u l h', us[i]? = some u ∧ NodeR wr l h' u Ts[i] ∧ n0 ≤ l ∧ l ≤ h' ∧ ∀ b, v.ownBlock = some b → b < l ∨ h' ≤ b)
    (hn0 : n0 ≤ wr.heap.size) (hb : Below wr.heap.size wr w3) (hr : NodeR w3 lo3 w3.heap.size u T) (h1 : wr.heap.size ≤ lo3) (h2 : lo3 ≤ w3.heap.size) (ho4 : OwnNs w4 n0 v' (us ++ [u])) (hg : (w3.alloc O).grownBy w4 v.ownBlock) (hv : v'.ownBlock = v.ownBlock ∨ v'.ownBlock = some (w3.alloc O).heap.size) : NsR w4 n0 v' (Ts ++ [T]) := by
  have hvb : ∀ b, v.ownBlock = some b → b < wr.heap.size := fun b e => by
    obtain ⟨_, o, hq, _⟩ := ownsRow_block ho b e
    exact (Array.getElem?_eq_some_iff.1 hq).1
  have hs4 : w3.heap.size + 1 ≤ w4.heap.size := by have := hg.size; rwa [World.size_alloc] at this
  have hblk : ∀ b, b < w3.heap.size → v.ownBlock ≠ some b → w4.heap[b]? = w3.heap[b]? := fun b hb1 hb2 =>
    (hg.block b (by rw [World.size_alloc]; omega) (fun e => hb2 e.symm)).trans (Below.heap_alloc w3 O b hb1)
  rw [World.size_alloc] at hv
  refine ⟨us ++ [u], ho4, by simp [hl], fun i hi => ?_⟩
  by_cases hlt : i < Ts.length
  · obtain ⟨u', l, h', hu, hr', ha, hb', hd⟩ := hn i hlt
    have hh4 : h' ≤ wr.heap.size := by obtain ⟨_, _, _, _, _, _, a4, _⟩ := hr'; exact a4
    refine ⟨u', l, h', by rw [List.getElem?_append_left (by omega)]; exact hu, ?_, ha, hb', fun b e => ?_⟩
    · rw [List.getElem_append_left hlt]
      refine (hr'.below hb).move (by omega) (fun b hb1 hb2 => hblk b (by have := hb.size; omega) (fun e => ?_))
      rcases hd b e with h | h <;> omega
    · rcases hv with hv | hv
      · exact hd b (hv.symm.trans e)
      · rw [hv] at e; cases e; have := hb.size; exact .inr (by omega)
  · obtain rfl : i = Ts.length := by simp at hi; omega
    refine ⟨u, lo3, w3.heap.size, by rw [← hl]; simp, ?_, by omega, h2, fun b e => ?_⟩
    · rw [List.getElem_append_right (Nat.le_refl _)]
      simp only [Nat.sub_self, List.getElem_cons_zero]
      exact hr.move (by omega) (fun b hb1 hb2 => hblk b hb2 (fun e => by have := hvb b e; omega))
    · rcases hv with hv | hv
      · have := hvb b (hv.symm.trans e); exact .inl (by omega)
      · rw [hv] at e; cases e; exact .inr (by omega)
/-- What nodeOf does with a pattern. -/
def NodeOfAt (d : Nd) (k : Fo) : Prop := ∀ w, Pt w d k → ndE d k.len = 0 → k.good → k.size ≤ 100 → Calls Tryd.prog 72 #[ndV d] w fun e w' => ∃ v, e = .returned v ∧ NodeR w' w.heap.size w'.heap.size v (fun ss => tabP ss d k) ∧ Below w.heap.size w w'
set_option maxRecDepth 100000 in
set_option maxHeartbeats 2000000 in
theorem nodesOf_any (s : Nat) (ih : ∀ d k, k.size < s → NodeOfAt d k) (k : Fo) (hk : k.size ≤ s) (h100 : k.size ≤ 100) (hg : k.good) (d : Nd) (w : World) (hp : Pt w d k) :
    Calls Tryd.prog 87 #[d.sl] w fun e w' => ∃ sv, e = .returned sv ∧ NsR w' w.heap.size sv (tabFs k) ∧ Below w.heap.size w w' := by
  obtain ⟨ao, cap, hsl, c1, m1, hcell⟩ := hp.open
  have hlk := Fo.len_size k
  obtain ⟨L, hL⟩ : ∃ L, k.len = L := ⟨_, rfl⟩
  rw [hsl, hL]
  rw [hL] at hcell hlk
  have l1 : L ≤ 100 := by omega
  have HC := Lib.hid hcell; have HL := Lib.hid hL; have IH := Lib.hid ih; have HG := Lib.hid hg
  have HK := Lib.hid (And.intro hk h100)
  clear hcell hL ih hg hp hsl c1 m1 hk h100 hlk
  go_enter Tryd.func87, Tryd.ntmps87
  go_wp2_with fail
  go_loopw [8, 3] (fun i sv wr => ∃ j : Nat, j ≤ L ∧ i = .int .i64 (j : Int) ∧ NsR wr w.heap.size sv ((tabFs k).take j) ∧ Below w.heap.size w wr) (fun i _ _ => L - (intOf i).toNat)
  case atStart => exact ⟨0, by omega, rfl, ⟨[], OwnNs.nil _ _, by simp, fun i hi => by simp at hi⟩, Below.refl _ _⟩
  case round =>
    obtain ⟨j, hj, rfl, hns, hw⟩ := hrel
    by_cases hlt : j < L
    · obtain ⟨b, off, hao, lb, hpf⟩ := HC.out j hlt
      subst hao
      obtain ⟨d', k', he⟩ := Fo.drop_step k j (by rw [HL.out]; exact hlt)
      have hget := tabFs_get k j d' k' _ he
      have hgd := Fo.good_drop k j HG.out
      have hsz := Fo.drop_size k j
      rw [he] at hpf hgd hsz
      simp only [Fo.size] at hsz
      obtain ⟨gd1, gd2, -⟩ := hgd
      obtain ⟨e0, e1, e2, e3, e4, e5, e6, e7, -⟩ := hpf
      have hc := fun o v (h : w.cell? ⟨b, o, none⟩ = some v) => (hw.cell (p := ⟨b, o, none⟩) lb).trans h
      have f0 := hc _ _ e0
      have f1 := hc _ _ e1
      have f2 := hc _ _ e2
      have f3 := hc _ _ e3
      have f4 := hc _ _ e4
      have f5 := hc _ _ e5
      have f6 := hc _ _ e6
      obtain ⟨ao', cap', hsl', -, -, -⟩ := Pt.open e7
      have hrec := fun (O : Obj) => IH.out d' k' (by have := HK.out; omega) (wr.alloc O) ((Pt.below e7 hw).below ((Below.refl _ wr).alloc (Nat.le_refl _) O)) gd1 gd2 (by have := HK.out; omega)
      unfold ndV at hrec
      rw [hsl'] at hrec f6
      have hlenT : j < (tabFs k).length := by rw [tabFs_len, HL.out]; exact hlt
      have hgj : (tabFs k)[j] = fun ss => tabP ss d' k' := by
        rw [List.getElem?_eq_getElem hlenT] at hget
        exact Option.some.inj hget
      have htk : (tabFs k).take (j + 1) = (tabFs k).take j ++ [fun ss => tabP ss d' k'] := by rw [List.take_succ_eq_append_getElem hlenT, hgj]
      obtain ⟨us, ho, hlu, hnu⟩ := hns
      have hul : us.length = j := by rw [hlu, List.length_take]; omega
      obtain ⟨so, sc, hsv⟩ := ownsRow_slice ho
      subst hsv
      have HO := Lib.hid ho; have HNU := Lib.hid (And.intro hlu hnu); have HREC := Lib.hid hrec; have HW := Lib.hid hw; have HTK := Lib.hid htk; have HUL := Lib.hid hul
      clear ho hlu hnu hrec hw htk hul hget hgj hlenT hsl' e0 e1 e2 e3 e4 e5 e6 e7 he hsz gd1 gd2 hc HC
      go_wp2_with fail
      go_at_call 72
      refine (HREC.out _).mono ?_
      rintro e w3 ⟨u, rfl, hnr, hb3⟩
      have hnr' := hnr
      obtain ⟨t, pl, f, rfl, -, -, -, -⟩ := hnr'
      have hwq : Below wr.heap.size wr w3 := ((Below.refl _ wr).alloc (Nat.le_refl _) (.cells #[.int .i64 d'.kind, .int .u32 (d'.is.1.toNat : Int), .int .u32 (d'.is.2.toNat : Int), .bool d'.neg, .int .i64 d'.mi, .int .i64 d'.ma, .slice ao' k'.len cap'] 27)).trans (hb3.mono (by rw [World.size_alloc]; omega))
      have hlo3 : (wr.alloc (.cells #[.int .i64 d'.kind, .int .u32 (d'.is.1.toNat : Int), .int .u32 (d'.is.2.toNat : Int), .bool d'.neg, .int .i64 d'.mi, .int .i64 d'.ma, .slice ao' k'.len cap'] 27)).heap.size ≤ w3.heap.size := hb3.size
      have hlo4 : wr.heap.size ≤ (wr.alloc (.cells #[.int .i64 d'.kind, .int .u32 (d'.is.1.toNat : Int), .int .u32 (d'.is.2.toNat : Int), .bool d'.neg, .int .i64 d'.mi, .int .i64 d'.ma, .slice ao' k'.len cap'] 27)).heap.size := by rw [World.size_alloc]; omega
      have ho3 := (HO.out.below hwq).below ((Below.refl _ w3).alloc (Nat.le_refl _) (.cells #[.iface t pl] 94))
      have hw3 := HW.out.trans (hwq.mono HW.out.size)
      have HNR := Lib.hid hnr; have HWQ := Lib.hid hwq; have HLO := Lib.hid (And.intro hlo3 hlo4); have HO3 := Lib.hid ho3; have HW3 := Lib.hid hw3
      clear hnr hwq hlo3 hlo4 ho3 hw3 hb3
      go_wp2_with (at_builtin; refine wpList_appN rfl (.tmp 12) (.tmp 15) rfl w.heap.size w3.heap.size _ us (.iface t pl) rfl rfl rfl (cell_block (World.alloc_heap_new w3 _) rfl) HO3.out (by rw [HUL.out]; omega) (by rw [World.size_alloc]; have := HW3.out.size; omega) ?_; intro v' w4 ho4 hg4 hv4; obtain ⟨vo, vc, hv'⟩ := ownsRow_slice ho4; subst hv')
      have hfin := nsr_snoc HO.out HNU.out.1 HNU.out.2 HW.out.size HWQ.out HNR.out HLO.out.2 HLO.out.1 ho4 hg4 hv4
      have hbf : Below w.heap.size w w4 := (HW3.out.alloc HW3.out.size _).grown hg4 (by rw [World.size_alloc]; have := HW3.out.size; omega) (fun k e => (ownsRow_block HO3.out k e).1)
      go_roundw
      case rel => exact ⟨j + 1, by omega, by go_num, by rw [HTK.out]; have h9 := hfin; rw [List.length_append] at h9; exact h9, hbf⟩
      case measure => simp [intOf]; omega
    · obtain rfl : j = L := by omega
      have htk : (tabFs k).take j = tabFs k := List.take_of_length_le (by rw [tabFs_len, HL.out]; exact Nat.le_refl _)
      rw [htk] at hns
      have hns' := hns
      obtain ⟨us, ho, -, -⟩ := hns'
      obtain ⟨so, sc, hsv⟩ := ownsRow_slice ho
      subst hsv
      have HNS := Lib.hid hns; have HW := Lib.hid hw
      clear hns hw ho htk HC
      go_wp2_with fail
      go_returns
      exact ⟨_, rfl, HNS.out, HW.out⟩
end Go.Proofs.YtmobilppakjihaaDoor

/-
  The node of a pattern.
-/
namespace Go.Proofs.YtmobilppakjihaaDoor
open Go.RowKit Go.Sort
theorem iN {a b : Int} (h : ¬ a = b) : (a == b) = false := by simpa using h
set_option maxRecDepth 100000 in
set_option maxHeartbeats 4000000 in
theorem nodeOf_all : ∀ (s : Nat) (d : Nd) (k : Fo), k.size < s → NodeOfAt d k := by
  intro s
  induction s with
  | zero => intro d k h; omega
  | succ s ih =>
  intro d k hks w hp hnd hg h100
  have hof := nodesOf_any s ih k (by omega) h100 hg d
  obtain ⟨k0, k6, hvd, -, -, -, h5⟩ := ndE_ok hnd
  obtain ⟨ao, cap, hsl, c1, m1, hcell⟩ := hp.open
  have hlk := Fo.len_size k
  have HP := Lib.hid hp; have HOF := Lib.hid hof
  have htab : ∀ K : Int, d.kind = K → ∀ (T : List Snd → Tb), (∀ ss, tabN ss d (tabF ss k) = T ss) → (fun ss => tabP ss d k) = T := fun K _ T h => by funext ss; exact h ss
  have hpd : Pt w d k := hp
  clear hp hof c1 m1 hnd hvd
  obtain ⟨kind, ⟨p, m⟩, neg, mi, ma, sl⟩ := d
  simp only at hsl h5 k0 k6
  subst hsl
  unfold ndV
  simp only
  by_cases e1 : kind = 1
  · subst e1
    clear hcell h5 HP HOF
    go_enter Tryd.func72, Tryd.ntmps72
    go_wp2_with fail
    go_returns
    refine ⟨_, rfl, ?_, by go_grown⟩
    exact (nr_sound _ _ _ (Nat.le_refl _) (p, m) neg)
  by_cases e2 : kind = 2
  · subst e2
    clear hcell h5 HP HOF
    go_enter Tryd.func72, Tryd.ntmps72
    go_wp2_with fail
    go_returns
    refine ⟨_, rfl, ?_, by go_grown⟩
    exact (nr_begin _ _ _ (Nat.le_refl _))
  by_cases e6 : kind = 6
  · subst e6
    clear hcell h5 HP HOF
    go_enter Tryd.func72, Tryd.ntmps72
    go_wp2_with fail
    go_returns
    refine ⟨_, rfl, ?_, by go_grown⟩
    exact (nr_end _ _ _ (Nat.le_refl _))
  by_cases e0 : kind = 0
  · subst e0
    clear hcell h5 HP HOF
    go_enter Tryd.func72, Tryd.ntmps72
    go_wp2_with fail
    go_returns
    refine ⟨_, rfl, ?_, by go_grown⟩
    exact (nr_empty _ _ _ (Nat.le_refl _))
  by_cases e3 : kind = 3
  · subst e3
    clear hcell h5 htab
    go_enter Tryd.func72, Tryd.ntmps72
    go_wp2_with fail
    go_at_call 87
    refine (HOF.out _ (HP.out.below (by go_grown))).mono ?_
    rintro e w3 ⟨sv, rfl, hns, hb3⟩
    have hbw : Below w.heap.size w w3 := ((Below.refl _ w).alloc (Nat.le_refl _) (.cells #[.int .i64 3, .int .u32 (p.toNat : Int), .int .u32 (m.toNat : Int), .bool neg, .int .i64 mi, .int .i64 ma, .slice ao k.len cap] 27)).trans (hb3.mono (by rw [World.size_alloc]; omega))
    have hns2 := (nr_seq hns).wider (lo' := w.heap.size) (by rw [World.size_alloc]; omega) (Nat.le_refl _) (Nat.le_refl _)
    obtain ⟨us, ho, -, -⟩ := hns
    obtain ⟨so, sc, hsv⟩ := ownsRow_slice ho
    subst hsv
    have HN := Lib.hid hns2; have HB := Lib.hid hbw
    clear hns2 hbw ho hb3 HOF HP ih
    go_wp2_with fail
    go_returns
    refine ⟨_, rfl, ?_, HB.out⟩
    have := HN.out
    simp only [tabFs_map] at this
    exact this
  by_cases e4 : kind = 4
  · subst e4
    clear hcell h5 htab
    go_enter Tryd.func72, Tryd.ntmps72
    go_wp2_with fail
    go_at_call 87
    refine (HOF.out _ (HP.out.below (by go_grown))).mono ?_
    rintro e w3 ⟨sv, rfl, hns, hb3⟩
    have hbw : Below w.heap.size w w3 := ((Below.refl _ w).alloc (Nat.le_refl _) (.cells #[.int .i64 4, .int .u32 (p.toNat : Int), .int .u32 (m.toNat : Int), .bool neg, .int .i64 mi, .int .i64 ma, .slice ao k.len cap] 27)).trans (hb3.mono (by rw [World.size_alloc]; omega))
    have hns2 := (nr_alt hns).wider (lo' := w.heap.size) (by rw [World.size_alloc]; omega) (Nat.le_refl _) (Nat.le_refl _)
    obtain ⟨us, ho, -, -⟩ := hns
    obtain ⟨so, sc, hsv⟩ := ownsRow_slice ho
    subst hsv
    have HN := Lib.hid hns2; have HB := Lib.hid hbw
    clear hns2 hbw ho hb3 HOF HP ih
    go_wp2_with fail
    go_returns
    refine ⟨_, rfl, ?_, HB.out⟩
    have := HN.out
    simp only [tabFs_map] at this
    exact this
  have e5 : kind = 5 := by omega
  subst e5
  obtain ⟨hlen, hmi, hmi2, hma⟩ := h5 rfl
  clear htab
  obtain ⟨b, off, hao, lb, hpf⟩ := hcell 0 (by omega)
  subst hao
  obtain ⟨d', k', he⟩ := Fo.drop_step k 0 (by omega)
  have hsz := Fo.drop_size k 0
  rw [he] at hpf hsz
  have hkk : k = .cons d' k' (k.drop 1) := by rw [← he, Fo.drop_zero]
  have hg2 := hg
  rw [hkk] at hg2
  obtain ⟨gd1, gd2, -⟩ := hg2
  simp only [Fo.size] at hsz
  rw [Nat.zero_mul, Nat.add_zero] at hpf
  obtain ⟨f0, f1, f2, f3, f4, f5, f6, e7, -⟩ := hpf
  obtain ⟨ao', cap', hsl', -, -, -⟩ := Pt.open e7
  have hrec := fun (W : World) (hb : Below w.heap.size w W) => ih d' k' (by omega) W (Pt.below e7 hb) gd1 gd2 (by omega)
  unfold ndV at hrec
  rw [hsl'] at hrec f6
  obtain ⟨M, hM⟩ := Int.eq_ofNat_of_zero_le hmi
  subst hM
  have htab : ∀ ss, tabP ss ⟨5, (p, m), neg, (M : Int), ma, .slice (some ⟨b, off, none⟩) k.len cap⟩ k = repT ss.length (tabP ss d' k') M ma := fun ss => by
    rw [hkk]; rfl
  have hM32 : M ≤ 32 := by omega
  have hS : (fun W : World => W.cell? ⟨b, off, none⟩ = some (.int .i64 d'.kind) ∧ W.cell? ⟨b, off + 1, none⟩ = some (.int .u32 (d'.is.1.toNat : Int)) ∧ W.cell? ⟨b, off + 2, none⟩ = some (.int .u32 (d'.is.2.toNat : Int)) ∧ W.cell? ⟨b, off + 3, none⟩ = some (.bool d'.neg) ∧ W.cell? ⟨b, off + 4, none⟩ = some (.int .i64 d'.mi) ∧ W.cell? ⟨b, off + 5, none⟩ = some (.int .i64 d'.ma) ∧ W.cell? ⟨b, off + 6, none⟩ = some (.slice ao' k'.len cap') ∧ W.cell? ⟨w.heap.size, 4, none⟩ = some (.int .i64 (M : Int)) ∧ W.cell? ⟨w.heap.size, 5, none⟩ = some (.int .i64 ma) ∧ W.cell? ⟨w.heap.size, 6, none⟩ = some (.slice (some ⟨b, off, none⟩) 1 cap)) (w.alloc (.cells #[.int .i64 5, .int .u32 (p.toNat : Int), .int .u32 (m.toNat : Int), .bool neg, .int .i64 (M : Int), .int .i64 ma, .slice (some ⟨b, off, none⟩) 1 cap] 27)).drew := by
    simp only [Nat.add_zero] at f0 f1 f2 f3 f4 f5 f6
    have hn := World.alloc_heap_new w (.cells #[.int .i64 5, .int .u32 (p.toNat : Int), .int .u32 (m.toNat : Int), .bool neg, .int .i64 (M : Int), .int .i64 ma, .slice (some ⟨b, off, none⟩) 1 cap] 27)
    exact ⟨keep_alloc f0 lb, keep_alloc f1 lb, keep_alloc f2 lb, keep_alloc f3 lb, keep_alloc f4 lb, keep_alloc f5 lb, keep_alloc f6 lb, cell_block hn rfl, cell_block hn rfl, cell_block hn rfl⟩
  have hcall : Calls Tryd.prog 72 #[.agg #[.int .i64 d'.kind, .int .u32 (d'.is.1.toNat : Int), .int .u32 (d'.is.2.toNat : Int), .bool d'.neg, .int .i64 d'.mi, .int .i64 d'.ma, .slice ao' k'.len cap']] (w.alloc (.cells #[.int .i64 5, .int .u32 (p.toNat : Int), .int .u32 (m.toNat : Int), .bool neg, .int .i64 (M : Int), .int .i64 ma, .slice (some ⟨b, off, none⟩) 1 cap] 27)).drew fun e w3 => ∃ tu pu, e = .returned (.iface tu pu) ∧ (fun W : World => W.cell? ⟨b, off, none⟩ = some (.int .i64 d'.kind) ∧ W.cell? ⟨b, off + 1, none⟩ = some (.int .u32 (d'.is.1.toNat : Int)) ∧ W.cell? ⟨b, off + 2, none⟩ = some (.int .u32 (d'.is.2.toNat : Int)) ∧ W.cell? ⟨b, off + 3, none⟩ = some (.bool d'.neg) ∧ W.cell? ⟨b, off + 4, none⟩ = some (.int .i64 d'.mi) ∧ W.cell? ⟨b, off + 5, none⟩ = some (.int .i64 d'.ma) ∧ W.cell? ⟨b, off + 6, none⟩ = some (.slice ao' k'.len cap') ∧ W.cell? ⟨w.heap.size, 4, none⟩ = some (.int .i64 (M : Int)) ∧ W.cell? ⟨w.heap.size, 5, none⟩ = some (.int .i64 ma) ∧ W.cell? ⟨w.heap.size, 6, none⟩ = some (.slice (some ⟨b, off, none⟩) 1 cap)) w3 ∧ Hid (NodeR w3 w.heap.size w3.heap.size (.iface 114 (.agg #[.iface tu pu, .int .i64 (M : Int), .int .i64 ma])) (fun ss => tabP ss ⟨5, (p, m), neg, (M : Int), ma, .slice (some ⟨b, off, none⟩) k.len cap⟩ k) ∧ Below w.heap.size w w3) := by
    refine (hrec _ ((Below.refl _ w).alloc (Nat.le_refl _) (.cells #[.int .i64 5, .int .u32 (p.toNat : Int), .int .u32 (m.toNat : Int), .bool neg, .int .i64 (M : Int), .int .i64 ma, .slice (some ⟨b, off, none⟩) 1 cap] 27)).drew).mono ?_
    rintro e w3 ⟨u, rfl, hnr, hb3⟩
    obtain ⟨tu, pu, fu, eu, -⟩ := id hnr
    subst eu
    have hlt : w.heap.size < (w.alloc (.cells #[.int .i64 5, .int .u32 (p.toNat : Int), .int .u32 (m.toNat : Int), .bool neg, .int .i64 (M : Int), .int .i64 ma, .slice (some ⟨b, off, none⟩) 1 cap] 27)).drew.heap.size := by show w.heap.size < (w.alloc _).heap.size; rw [World.size_alloc]; omega
    obtain ⟨s0, s1, s2, s3, s4, s5, s6, s7, s8, s9⟩ := hS
    refine ⟨tu, pu, rfl, ?_, ⟨?_, (((Below.refl _ w).alloc (Nat.le_refl _) (.cells #[.int .i64 5, .int .u32 (p.toNat : Int), .int .u32 (m.toNat : Int), .bool neg, .int .i64 (M : Int), .int .i64 ma, .slice (some ⟨b, off, none⟩) 1 cap] 27)).drew).trans (hb3.mono (Nat.le_of_lt hlt))⟩⟩
    · exact ⟨(hb3.cell (Nat.lt_trans lb hlt)).trans s0, (hb3.cell (Nat.lt_trans lb hlt)).trans s1, (hb3.cell (Nat.lt_trans lb hlt)).trans s2, (hb3.cell (Nat.lt_trans lb hlt)).trans s3, (hb3.cell (Nat.lt_trans lb hlt)).trans s4, (hb3.cell (Nat.lt_trans lb hlt)).trans s5, (hb3.cell (Nat.lt_trans lb hlt)).trans s6, (hb3.cell hlt).trans s7, (hb3.cell hlt).trans s8, (hb3.cell hlt).trans s9⟩
    · rw [funext htab]
      exact (nr_rep hnr M ma hM32 hma).wider (Nat.le_of_lt hlt) (Nat.le_refl _) (Nat.le_refl _)
  rw [hlen]
  have HCALL := Lib.hid hcall; have HS := Lib.hid hS
  clear hS hcall hrec htab hma ih hcell HOF HP hpd hg hkk gd1 gd2 hsz he f0 f1 f2 f3 f4 f5 f6 e7 hsl' hmi hmi2 h5 hlk hM32
  go_enter Tryd.func72, Tryd.ntmps72
  go_wp2_with fail
  go_region_held3 (fun W : World => W.cell? ⟨b, off, none⟩ = some (.int .i64 d'.kind) ∧ W.cell? ⟨b, off + 1, none⟩ = some (.int .u32 (d'.is.1.toNat : Int)) ∧ W.cell? ⟨b, off + 2, none⟩ = some (.int .u32 (d'.is.2.toNat : Int)) ∧ W.cell? ⟨b, off + 3, none⟩ = some (.bool d'.neg) ∧ W.cell? ⟨b, off + 4, none⟩ = some (.int .i64 d'.mi) ∧ W.cell? ⟨b, off + 5, none⟩ = some (.int .i64 d'.ma) ∧ W.cell? ⟨b, off + 6, none⟩ = some (.slice ao' k'.len cap') ∧ W.cell? ⟨w.heap.size, 4, none⟩ = some (.int .i64 (M : Int)) ∧ W.cell? ⟨w.heap.size, 5, none⟩ = some (.int .i64 ma) ∧ W.cell? ⟨w.heap.size, 6, none⟩ = some (.slice (some ⟨b, off, none⟩) 1 cap)) (first | exact HS1.out | exact HS.out) (first | (go_at_call 72; (with_reducible refine HCALL.out.mono ?_); rintro e w3 ⟨tu, pu, rfl, hs1, HF⟩; have HS1 := Lib.hid hs1; clear hs1))
  go_wp2_with fail
  go_returns
  exact ⟨_, rfl, HF.out.1, HF.out.2⟩
end Go.Proofs.YtmobilppakjihaaDoor
