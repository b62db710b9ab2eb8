/-
  Lemmas that the theorem of this claim rests on: 3 texts, one behind the other.
-/
import Derived.Test.YtmobilppakjihaaDoorM20
import Derived.Test.YtmobilppakjihaaDoorM1
import Derived.Laws.MakeOwn
import Derived.Lib.QuietBelow
set_option linter.unusedSimpArgs false
set_option linter.unusedVariables false
/-
  Whether a pattern and a word are valid, as the statements ask it (good).
-/
namespace Go.Proofs.YtmobilppakjihaaDoor
open Go.RowKit Go.Sort
set_option maxRecDepth 100000 in
set_option maxHeartbeats 4000000 in
theorem lgood_any (d : Nd) (k : Fo) (ss : List Snd) (sv : Value) (w : World) (hp : Pt w d k) (hW : Wd w sv ss) :
    Gives 38 #[ndV d, sv] w (.bool (decide (mtE d k ss = 0))) := by
  unfold Gives
  have hck := fun (W : World) (hb : Below w.heap.size w W) => pcheck_any d k W (hp.below hb)
  have hcw := fun (W : World) (hb : Below w.heap.size w W) => check_any ss sv W (hW.below hb)
  obtain ⟨wo, wc, rfl, lw, mw, -⟩ := hW.open
  have hml := maxLen_lt (Nat.le_trans lw mw)
  obtain ⟨ao, cap, hsl, -, -, -⟩ := hp.open
  obtain ⟨B, hB⟩ : ∃ B, decide (mtE d k ss = 0) = B := ⟨_, rfl⟩
  obtain ⟨E1, hE1⟩ : ∃ E1, pkE d k = E1 := ⟨_, rfl⟩
  obtain ⟨E2, hE2⟩ : ∃ E2, chk ss = E2 := ⟨_, rfl⟩
  have hBB : B = (decide (E2 = 0) && decide (E1 = 0)) := by
    rw [← hB, mtE, hE1, hE2]
    by_cases h1 : E1 = 0
    · rw [if_pos h1]; simp [h1]
    · rw [if_neg h1]; simp [h1]
  have hlong : 32 < ss.length → E2 ≠ 0 := fun h => by rw [← hE2]; have := chk_long (ss := ss) (by omega); omega
  rw [hB]
  rw [hE1] at hck; rw [hE2] at hcw
  clear hB hE1 hE2
  obtain ⟨L, hL⟩ : ∃ L, ss.length = L := ⟨_, rfl⟩
  rw [hL] at hcw hml hlong ⊢
  obtain ⟨kind, ⟨p, m⟩, neg, mi, ma, sl⟩ := d
  simp only at hsl
  subst hsl
  obtain ⟨kl, hkl⟩ : ∃ kl, k.len = kl := ⟨_, rfl⟩
  rw [hkl] at hck ⊢
  unfold ndV at hck ⊢
  simp only at hck ⊢
  have HCK := Lib.hid hck; have HCW := Lib.hid hcw
  clear hck hcw hp hW lw mw hL hkl
  by_cases h32 : L ≤ 32
  · have hb1 : ∀ O : Obj, Below w.heap.size w (w.alloc O) := fun O => by go_grown
    have h32i : (L : Int) ≤ 32 := by omega
    clear hlong hml
    go_enter Tryd.func38, Tryd.ntmps38
    go_wp2_with fail
    go_at_call 63
    refine Gives.then (HCW.out _ (hb1 _)) ?_
    intro w1 hw1
    have HB1 := Lib.hid ((hb1 (.cells #[.int .i64 kind, .int .u32 (p.toNat : Int), .int .u32 (m.toNat : Int), .bool neg, .int .i64 mi, .int .i64 ma, .slice ao kl cap] 27)).trans (hw1.mono (by rw [World.size_alloc]; omega)))
    have R2 := Lib.hid ((hw1.block w.heap.size (by rw [World.size_alloc]; omega)).trans (World.alloc_heap_new w (.cells #[.int .i64 kind, .int .u32 (p.toNat : Int), .int .u32 (m.toNat : Int), .bool neg, .int .i64 mi, .int .i64 ma, .slice ao kl cap] 27)))
    have g0 := cell_block R2.out (o := 0) rfl; have g1 := cell_block R2.out (o := 1) rfl; have g2 := cell_block R2.out (o := 2) rfl; have g3 := cell_block R2.out (o := 3) rfl; have g4 := cell_block R2.out (o := 4) rfl; have g5 := cell_block R2.out (o := 5) rfl; have g6 := cell_block R2.out (o := 6) rfl
    clear hw1 hb1
    by_cases hE2 : E2 = 0
    · subst hE2
      have hB2 : B = decide (E1 = 0) := by rw [hBB]; simp
      clear hBB
      subst hB2
      go_wp2_with (go_at_call 14; refine Gives.then (HCK.out _ HB1.out) ?_; intro w2 hw2)
      go_returns
      refine ⟨ret_bool ?_, HB1.out.trans (hw2.mono HB1.out.size)⟩
      by_cases h : E1 = 0 <;> simp [h]
    · have hB2 : B = false := by rw [hBB]; simp [hE2]
      clear hBB
      subst hB2
      go_wp2_with fail
      go_returns
      exact ⟨rfl, HB1.out⟩
  · have hE2 := hlong (by omega)
    have hB2 : B = false := by rw [hBB]; simp [hE2]
    clear hBB
    subst hB2
    have h32i : ¬ (L : Int) ≤ 32 := by omega
    clear hlong h32 hml
    go_enter Tryd.func38, Tryd.ntmps38
    go_wp2_with fail
    go_returns
    exact ⟨rfl, by go_grown⟩
end Go.Proofs.YtmobilppakjihaaDoor

/-
  Rows of truth values, and lists of such rows.
-/
namespace Go.Proofs.YtmobilppakjihaaDoor
open Go.RowKit Go.Sort
def bR (L : Nat) (f : Nat → Bool) : Array Value := ((List.range (L + 1)).map fun j => Value.bool (f j)).toArray
theorem bR_size (L : Nat) (f : Nat → Bool) : (bR L f).size = L + 1 := by simp [bR]
theorem bR_get (L : Nat) (f : Nat → Bool) (a : Nat) (h : a ≤ L) : (bR L f)[a]? = some (.bool (f a)) := by
  have h' : a < L + 1 := by omega
  simp [bR, h']
theorem bR_set (L : Nat) (f : Nat → Bool) (a : Nat) : (bR L f).setIfInBounds a (.bool true) = bR L (fun j => if j = a then true else f j) := by
  apply Array.ext
  · simp [bR]
  · intro i h1 h2
    have hi : i < L + 1 := by rw [bR_size] at h2; exact h2
    rw [Array.getElem_setIfInBounds (by rw [bR_size]; exact hi)]
    simp only [bR, List.getElem_toArray, List.getElem_map, List.getElem_range]
    by_cases h : a = i
    · subst h; simp
    · have h' : ¬ i = a := fun e => h e.symm
      simp [h, h']
theorem bR_congr {L : Nat} {f g : Nat → Bool} (h : ∀ a, a ≤ L → f a = g a) : bR L f = bR L g := by
  apply Array.ext_getElem?
  intro i
  by_cases hi : i ≤ L
  · rw [bR_get L f i hi, bR_get L g i hi, h i hi]
  · rw [Array.getElem?_eq_none (by rw [bR_size]; omega), Array.getElem?_eq_none (by rw [bR_size]; omega)]
theorem bR_made (L : Nat) : madeCells #[.bool false] (L + 1) = bR L (fun _ => false) := by
  apply Array.ext_getElem?
  intro i
  by_cases hi : i < L + 1
  · rw [bR_get L _ i (by omega)]
    unfold madeCells
    rw [Array.getElem?_map, Array.getElem?_range, if_pos hi]
    have : i % (#[Value.bool false] : Array Value).size = 0 := by simp [Nat.mod_one]
    simp [Nat.mod_one]
  · rw [Array.getElem?_eq_none (xs := madeCells _ _) (by rw [size_madeCells]; omega), Array.getElem?_eq_none (xs := bR _ _) (by rw [bR_size]; omega)]
def RowB (W : World) (c L : Nat) (f : Nat → Bool) : Prop := W.heap[c]? = some (.cells (bR L f) 4 (0, 0))
theorem RowB.cell {W : World} {c L : Nat} {f : Nat → Bool} (h : RowB W c L f) {a : Nat} (ha : a ≤ L) : W.cell? ⟨c, a, none⟩ = some (.bool (f a)) := cell_block h (bR_get L f a ha)
theorem RowB.frozen {W : World} {c L : Nat} {f : Nat → Bool} (h : RowB W c L f) (a : Nat) : W.frozen? ⟨c, a, none⟩ = false := frozen_of_row W c a _ _ h
theorem RowB.lt {W : World} {c L : Nat} {f : Nat → Bool} (h : RowB W c L f) : c < W.heap.size := (Array.getElem?_eq_some_iff.1 h).1
theorem RowB.below {W W' : World} {c L : Nat} {f : Nat → Bool} (h : RowB W c L f) (hb : Below W.heap.size W W') : RowB W' c L f := (hb.block c h.lt).trans h
theorem RowB.set {W : World} {c L : Nat} {f : Nat → Bool} (h : RowB W c L f) (a : Nat) : RowB (W.setCell ⟨c, a, none⟩ (.bool true)) c L (fun j => if j = a then true else f j) := by
  unfold RowB
  unfold RowB at h
  rw [heap_setCell_same W c a _ _ _ h, bR_set]
theorem infoB : (Tryd.prog.info? 4).map (fun i => (i.zero, i.size, i.bytes)) = some (some (.bool false), 1, 1) := by kernel_rfl
theorem make_rowB (L : Nat) (hn : L ≤ 32) (w : World) : (Instr.makeSlice 56 (.int .i64 ((L : Int) + 1)) (.int .i64 ((L : Int) + 1))).run Tryd.prog w = .ok (.slice (some ⟨w.heap.size, 0, none⟩) (L + 1) (L + 1)) (w.alloc (.cells (bR L (fun _ => false)) 4)) := by
  obtain ⟨i, hi, hz, hs1, hb1⟩ := info_parts infoB
  have h := run_make (P := Tryd.prog) w 56 4 i _ Tryd.underlying56 hi hz .i64 .i64 ((L : Int) + 1) ((L : Int) + 1) (by omega) (Int.le_refl _) (by rw [hb1]; omega) (by omega)
  have e : ((L : Int) + 1).toNat = L + 1 := by omega
  simp only [e, hs1, Nat.mul_one] at h
  rw [show (Value.bool false).cells = #[.bool false] from rfl, bR_made] at h
  exact h
/-- Rows one after the other. -/
def rowVs (L : Nat) (us : List Nat) : List Value := us.map fun c => .slice (some ⟨c, 0, none⟩) (L + 1) (L + 1)
def OwnM (L : Nat) (W : World) (base : Nat) (v : Value) (us : List Nat) : Prop := W.ownsRow base 56 1 v us.length (rowVs L us)
theorem infoRB : (Tryd.prog.info? 56).map (fun i => (i.zero, i.size, i.bytes)) = some (some (.slice none 0 0), 1, 24) := by kernel_rfl
theorem OwnM.nil (L : Nat) (w : World) (base : Nat) : OwnM L w base (.slice none 0 0) [] := ⟨rfl, .inl ⟨rfl, rfl⟩⟩
theorem OwnM.below {L : Nat} {w w' : World} {base : Nat} {v : Value} {us : List Nat} (h : OwnM L w base v us) (hb : Below w.heap.size w w') : OwnM L w' base v us := by
  obtain ⟨hl, h0 | ⟨g, cap, cur, hv, hg, hh, hr⟩⟩ := h
  · exact ⟨hl, .inl h0⟩
  · exact ⟨hl, .inr ⟨g, cap, cur, hv, hg, (hb.block g (Array.getElem?_eq_some_iff.1 hh).1).trans hh, hr⟩⟩
theorem OwnM.slice {L : Nat} {w : World} {base : Nat} {v : Value} {us : List Nat} (h : OwnM L w base v us) : ∃ ao cap, v = .slice ao us.length cap := ownsRow_slice h
theorem wpList_appM {L : Nat} {ops : Array Oper} {rest : List Oper} {o : Oper} {a : Act} {w : World} {Q : Exit → Act → World → Prop} (hgd : o.guard = none) (s x : Operand)
    (ho : o.op = .call { callee := .builtin .append, args := #[s, x], argTypes := #[53, 53] })
    (base D : Nat) (v : Value) (us : List Nat) (c : Nat) (hs : a.eval s = v) (hx : a.eval x = .slice (some ⟨D, 0, none⟩) 1 1) (hc : w.cell? ⟨D, 0, none⟩ = some (.slice (some ⟨c, 0, none⟩) (L + 1) (L + 1))) (hown : OwnM L w base v us) (hlen : us.length + 1 ≤ 1000000000) (hbase : base ≤ w.heap.size)
    (h : ∀ v' w', OwnM L w' base v' (us ++ [c]) → w.grownBy w' v.ownBlock → (v'.ownBlock = v.ownBlock ∨ v'.ownBlock = some w.heap.size) → wpList Tryd.prog ops Q rest (a.put o.dst v') w') : wpList Tryd.prog ops Q (o :: rest) a w := by
  obtain ⟨i, hi, hz, hs1, hb1⟩ := info_parts infoRB
  refine wpList_append_own_at w hgd s x 53 ho base _ i _ 1 24 Tryd.underlying53 hi hz hs1 hb1 rfl (by decide) v us.length (rowVs L us) hs hown ⟨D, 0, none⟩ 1 1 [.slice (some ⟨c, 0, none⟩) (L + 1) (L + 1)] hx (by simp) ?_ ?_ (Nat.le_trans hlen (by decide)) (by omega) hbase ?_
  · intro j y hy
    obtain ⟨hj, rfl⟩ := List.getElem?_eq_some_iff.1 hy
    obtain rfl : j = 0 := by simpa using hj
    exact hc
  · intro y hy
    rw [List.mem_singleton.1 hy]
    rfl
  · intro v' w' ho' hg _ hb
    refine h v' w' ?_ hg hb
    unfold OwnM rowVs
    rw [List.map_append, List.length_append]
    exact ho'
/-- The rows of a table. -/
def MatR (L : Nat) (T : Tb) (W : World) (base : Nat) (v : Value) (us : List Nat) : Prop := OwnM L W base v us ∧ ∀ i (h : i < us.length), RowB W us[i] L (fun j => (T i).getLsbD j) ∧ base ≤ us[i] ∧ v.ownBlock ≠ some us[i]
def Mat (W : World) (v : Value) (L : Nat) (T : Tb) : Prop := ∃ b cap, v = .slice (some ⟨b, 0, none⟩) (L + 1) cap ∧ L + 1 ≤ cap ∧ cap ≤ maxLen ∧ b < W.heap.size ∧ ∀ i, i ≤ L → ∃ c, W.cell? ⟨b, i, none⟩ = some (.slice (some ⟨c, 0, none⟩) (L + 1) (L + 1)) ∧ RowB W c L (fun j => (T i).getLsbD j)
theorem Mat.below {W W' : World} {v : Value} {L : Nat} {T : Tb} (h : Mat W v L T) (hb : Below W.heap.size W W') : Mat W' v L T := by
  obtain ⟨b, cap, h1, h2, h3, h4, h5⟩ := h
  refine ⟨b, cap, h1, h2, h3, by have := hb.size; omega, fun i hi => ?_⟩
  obtain ⟨c, c1, c2⟩ := h5 i hi
  exact ⟨c, (hb.cell (p := ⟨b, i, none⟩) h4).trans c1, c2.below hb⟩
theorem MatR.nil (L : Nat) (T : Tb) (W : World) (base : Nat) : MatR L T W base (.slice none 0 0) [] := ⟨OwnM.nil L W base, fun i h => by simp at h⟩
theorem MatR.below {L : Nat} {T : Tb} {W W' : World} {base : Nat} {v : Value} {us : List Nat} (h : MatR L T W base v us) (hb : Below W.heap.size W W') : MatR L T W' base v us :=
  ⟨h.1.below hb, fun i hi => ⟨(h.2 i hi).1.below hb, (h.2 i hi).2⟩⟩
theorem MatR.snoc {L : Nat} {T : Tb} {W W' : World} {base : Nat} {v v' : Value} {us : List Nat} {c : Nat} (h : MatR L T W base v us) (hc : RowB W c L (fun j => (T us.length).getLsbD j)) (hcb : base ≤ c) (hcv : v.ownBlock ≠ some c) (ho : OwnM L W' base v' (us ++ [c])) (hg : W.grownBy W' v.ownBlock) (hv : v'.ownBlock = v.ownBlock ∨ v'.ownBlock = some W.heap.size) : MatR L T W' base v' (us ++ [c]) := by
  refine ⟨ho, fun i hi => ?_⟩
  have key : ∀ x f, RowB W x L f → v.ownBlock ≠ some x → RowB W' x L f ∧ v'.ownBlock ≠ some x := fun x f hx hn => by
    refine ⟨(hg.block x hx.lt (fun e => hn e.symm)).trans hx, fun e => ?_⟩
    rcases hv with hv | hv
    · exact hn (hv.symm.trans e)
    · rw [hv] at e
      cases e
      have := hx.lt
      omega
  by_cases hlt : i < us.length
  · obtain ⟨h1, h2, h3⟩ := h.2 i hlt
    rw [List.getElem_append_left hlt]
    exact ⟨(key _ _ h1 h3).1, h2, (key _ _ h1 h3).2⟩
  · obtain rfl : i = us.length := by simp at hi; omega
    rw [List.getElem_append_right (Nat.le_refl _)]
    simp only [Nat.sub_self, List.getElem_cons_zero]
    exact ⟨(key _ _ hc hcv).1, hcb, (key _ _ hc hcv).2⟩
theorem MatR.mat {L : Nat} {T : Tb} {W : World} {base : Nat} {v : Value} {us : List Nat} (h : MatR L T W base v us) (hl : us.length = L + 1) : Mat W v L T := by
  obtain ⟨⟨hll, ⟨rfl, h0⟩ | ⟨g, cap, cur, rfl, hg, hh, hn, hm, hs, ht⟩⟩, hrows⟩ := h
  · omega
  · refine ⟨g, cap, by rw [hl], by omega, hm, (Array.getElem?_eq_some_iff.1 hh).1, fun i hi => ?_⟩
    have hiu : i < us.length := by omega
    refine ⟨us[i], cell_block hh ?_, (hrows i hiu).1⟩
    have key : (rowVs L us)[i]? = some (.slice (some ⟨us[i], 0, none⟩) (L + 1) (L + 1)) := by unfold rowVs; rw [List.getElem?_map, List.getElem?_eq_getElem hiu]; rfl
    rw [← key, ← ht, List.getElem?_take_of_lt (by omega), Array.getElem?_toList]
/-- The ends of one place, in order. -/
theorem fl64_sorted (r : BitVec 64) : ∀ (f j : Nat), j + f ≤ 64 → (fl64 r f j).Pairwise (fun a b => a.val < b.val)
  | 0, j, _ => by simp [fl64]
  | f + 1, j, h => by
    have ih := fl64_sorted r f (j + 1) (by omega)
    unfold fl64
    split
    · refine List.pairwise_cons.2 ⟨fun b hb => ?_, ih⟩
      have := ((mem_fl64 r b f (j + 1) (by omega)).1 hb).1
      have e : (Fin.ofNat 64 j).val = j := Nat.mod_eq_of_lt (by omega)
      omega
    · exact ih
theorem endL_sorted (T : Tb) (a : Nat) : (endL T a).Pairwise (· < ·) := by
  unfold endL
  rw [List.pairwise_map]
  exact fl64_sorted _ 64 0 (by omega)
theorem mem_endL (T : Tb) (a j : Nat) : j ∈ endL T a ↔ (T a).getLsbD j = true := by
  unfold endL
  rw [List.mem_map]
  constructor
  · rintro ⟨x, hx, rfl⟩
    exact (mem_elems64 _ _).1 hx
  · intro h
    have hj : j < 64 := by
      rcases Nat.lt_or_ge j 64 with h1 | h1
      · exact h1
      · rw [BitVec.getLsbD_of_ge _ _ h1] at h; cases h
    exact ⟨⟨j, hj⟩, (mem_elems64 _ ⟨j, hj⟩).2 h, rfl⟩
end Go.Proofs.YtmobilppakjihaaDoor

/-
  The ends of a pattern from each place on, as the statements collect them (ends).
-/
namespace Go.Proofs.YtmobilppakjihaaDoor
open Go.RowKit Go.Sort
theorem rowB_more {W : World} {C L : Nat} {E : List Nat} {q : Nat} (h : RowB W C L (fun j => decide (j ∈ E.take q))) (hq : q < E.length) : RowB (W.setCell ⟨C, E[q], none⟩ (.bool true)) C L (fun j => decide (j ∈ E.take (q + 1))) := by
  have h2 := h.set E[q]
  have e : (fun j => if j = E[q] then true else decide (j ∈ E.take q)) = fun j => decide (j ∈ E.take (q + 1)) := by
    funext j
    rw [List.take_succ_eq_append_getElem hq]
    by_cases hj : j = E[q]
    · rw [if_pos hj, eq_comm, decide_eq_true_iff, List.mem_append]
      exact .inr (by rw [hj]; exact List.mem_singleton_self _)
    · rw [if_neg hj, Bool.eq_iff_iff, decide_eq_true_iff, decide_eq_true_iff, List.mem_append]
      exact ⟨.inl, fun h => h.elim id (fun h => absurd (List.mem_singleton.1 h) hj)⟩
  rw [e] at h2
  exact h2
theorem ownM_block {L : Nat} {w : World} {base : Nat} {v : Value} {us : List Nat} (h : OwnM L w base v us) {C : Nat} (hC : w.heap.size ≤ C) : v.ownBlock ≠ some C := fun e => by
  obtain ⟨_, o, ho, _⟩ := ownsRow_block h C e
  have := (Array.getElem?_eq_some_iff.1 ho).1
  omega
set_option maxRecDepth 100000 in
set_option maxHeartbeats 8000000 in
theorem lends_any (d : Nd) (k : Fo) (ss : List Snd) (sv : Value) (w : World) (hp : Pt w d k) (hW : Wd w sv ss) (hT : Tab64 w) (ht0 : 0 < w.heap.size) (hE : mtE d k ss = 0) :
    Calls Tryd.prog 40 #[ndV d, sv] w fun e w' => ∃ v, e = .returned (.tuple #[v, .bool true]) ∧ Mat w' v ss.length (tabP ss d k) ∧ Below w.heap.size w w' := by
  have h32 := chk_len (node_ok hE).2
  have hma0 : ∀ a : Nat, a ≤ ss.length → maE d k ss (a : Int) = 0 := fun a ha => by
    unfold maE
    rw [if_pos hE, if_pos ⟨by omega, by omega⟩]
  have hen : ∀ (a : Nat), a ≤ ss.length → ∀ W, Below w.heap.size w W → Calls Tryd.prog 23 #[ndV d, sv, .int .i64 (a : Int)] W fun e w' => ∃ v, e = .returned (.tuple #[v, .int .i64 0]) ∧ OwnI w' W.heap.size v (endL (tabP ss d k) a) ∧ Below W.heap.size W w' := fun a ha W hb => by
    have h := ends_anyP d k ss sv (a : Int) W (hp.below hb) (hW.below hb) (hT.below hb ht0) (by have := hb.size; omega)
    rw [hma0 a ha] at h
    have e : enL d k ss (a : Int) = endL (tabP ss d k) a := by
      unfold enL
      rw [if_pos (hma0 a ha), Int.toNat_natCast]
    rw [e] at h
    exact h
  have hok : OkT ss.length (tabP ss d k) := OkT.pat h32 d k
  obtain ⟨wo, wc, rfl, lw, mw, -⟩ := hW.open
  obtain ⟨ao, cap, hsl, -, -, -⟩ := hp.open
  generalize tabP ss d k = T at *
  obtain ⟨L, hL⟩ : ∃ L, ss.length = L := ⟨_, rfl⟩
  rw [hL] at hen hok h32 ⊢
  obtain ⟨kind, ⟨p, m⟩, neg, mi, ma, sl⟩ := d
  simp only at hsl
  subst hsl
  obtain ⟨kl, hkl⟩ : ∃ kl, k.len = kl := ⟨_, rfl⟩
  rw [hkl] at hen ⊢
  unfold ndV at hen ⊢
  simp only at hen ⊢
  have HEN := Lib.hid hen; have HOK := Lib.hid hok
  clear hen hp hW hT ht0 hE hma0 hok hL hkl lw mw
  have hmk : ∀ w, Sem.run Tryd.prog (Instr.makeSlice 56 (Value.int IntKind.i64 ((L : Int) + 1)) (Value.int IntKind.i64 ((L : Int) + 1))) w = .ok (.slice (some ⟨w.heap.size, 0, none⟩) (L + 1) (L + 1)) (w.alloc (.cells (bR L (fun _ => false)) 4)) := make_rowB L h32
  have R0 := Lib.hid (World.alloc_heap_new w (.cells #[.int .i64 kind, .int .u32 (p.toNat : Int), .int .u32 (m.toNat : Int), .bool neg, .int .i64 mi, .int .i64 ma, .slice ao kl cap] 27))
  have hB0 : Below w.heap.size w (w.alloc (.cells #[.int .i64 kind, .int .u32 (p.toNat : Int), .int .u32 (m.toNat : Int), .bool neg, .int .i64 mi, .int .i64 ma, .slice ao kl cap] 27)) := by go_grown
  have HB0 := Lib.hid hB0
  clear hB0
  go_enter Tryd.func40, Tryd.ntmps40
  go_wp2_with fail
  go_loopw [6, 7] (fun o a wr => ∃ (q : Nat) (us : List Nat), q ≤ L + 1 ∧ us.length = q ∧ a = .int .i64 (q : Int) ∧ MatR L T wr (w.heap.size + 1) o us ∧ wr.heap[w.heap.size]? = some (.cells #[.int .i64 kind, .int .u32 (p.toNat : Int), .int .u32 (m.toNat : Int), .bool neg, .int .i64 mi, .int .i64 ma, .slice ao kl cap] 27 (0, 0)) ∧ Below w.heap.size w wr) (fun _ a _ => L + 1 - (intOf a).toNat)
  case atStart => exact ⟨0, [], by omega, rfl, rfl, MatR.nil _ _ _ _, R0.out, HB0.out⟩
  case round =>
  clear R0 HB0
  obtain ⟨q, us, hq, hus, rfl, hM, hR, hw⟩ := hrel
  obtain ⟨W0, hW0⟩ : ∃ W0, W0 = wr := ⟨_, rfl⟩
  subst hW0
  obtain ⟨oo, oc, hov⟩ := hM.1.slice
  rw [hus] at hov
  subst hov
  have HM := Lib.hid hM; have HW := Lib.hid hw; have HR := Lib.hid hR; have HUS := Lib.hid hus
  clear hM hw hR hus
  by_cases hlt : q < L + 1
  · have hqL : (q : Int) ≤ (L : Int) := by omega
    have g0 := cell_block HR.out (o := 0) rfl; have g1 := cell_block HR.out (o := 1) rfl; have g2 := cell_block HR.out (o := 2) rfl; have g3 := cell_block HR.out (o := 3) rfl; have g4 := cell_block HR.out (o := 4) rfl; have g5 := cell_block HR.out (o := 5) rfl; have g6 := cell_block HR.out (o := 6) rfl
    have hcall := HEN.out q (by omega) W0 HW.out
    obtain ⟨F, hF⟩ : ∃ F, endL T q = F := ⟨_, rfl⟩
    have hmem : ∀ x ∈ F, q ≤ x ∧ x ≤ L := fun x hx => by rw [← hF, mem_endL] at hx; exact HOK.out q x hx
    have hsort : F.Pairwise (· < ·) := by rw [← hF]; exact endL_sorted T q
    have hfin : (fun j => decide (j ∈ F)) = fun j => (T q).getLsbD j := by
      funext j
      rw [← hF, Bool.eq_iff_iff, decide_eq_true_iff, mem_endL]
    have hlenF : F.length ≤ 64 := by rw [← hF]; unfold endL; rw [List.length_map]; exact elems64_len _
    obtain ⟨n, hn⟩ : ∃ n, F.length = n := ⟨_, rfl⟩
    rw [hF] at hcall
    have HCALL := Lib.hid hcall; have HMEM := Lib.hid hmem; have HSORT := Lib.hid hsort; have HFIN := Lib.hid hfin; have HLF := Lib.hid hlenF; have HN := Lib.hid hn
    have hnl : n ≤ 64 := by omega
    clear hcall hF hmem hsort hfin hlenF HEN hn
    go_wp2_with (go_at_call 23; refine HCALL.out.mono ?_; rintro e w1 ⟨lv, rfl, ho, hb1⟩; obtain ⟨lo, lc, hlv⟩ := ho.slice; rw [HN.out] at hlv; subst hlv; have HB1 := Lib.hid hb1; have HO := Lib.hid ho; clear ho hb1 g0 g1 g2 g3 g4 g5 g6)
    refine wp_gen ?_
    intro W1 hW1
    have row0 : RowB W1 w1.heap.size L (fun j => decide (j ∈ F.take 0)) := by
      rw [hW1, show (fun j : Nat => decide (j ∈ F.take 0)) = fun _ => false from by funext j; simp]
      exact World.alloc_heap_new w1 _
    have hbW : Below w1.heap.size w1 W1 := by rw [hW1]; go_grown
    have hcells : ∀ i (h : i < F.length), ∃ b, lo = some ⟨b, 0, none⟩ ∧ b < w1.heap.size ∧ w1.cell? ⟨b, i, none⟩ = some (.int .i64 (F[i] : Int)) := by
      obtain ⟨ao', cap', hv', -, -, h⟩ := HO.out.is.open
      cases hv'
      exact h
    have HC := Lib.hid hcells; have ROW0 := Lib.hid row0; have HBW := Lib.hid hbW
    clear hW1 row0 hbW hcells HO HCALL hmk
    go_loopw [11] (fun i wi => ∃ r : Nat, r ≤ n ∧ i = .int .i64 (r : Int) ∧ RowB wi w1.heap.size L (fun j => decide (j ∈ F.take r)) ∧ Below w1.heap.size w1 wi) (fun i _ => n - (intOf i).toNat)
    case atStart => exact ⟨0, by omega, rfl, ROW0.out, HBW.out⟩
    case round =>
    clear ROW0 HBW
    obtain ⟨r, hr, rfl, hrow, hbw⟩ := hrel
    by_cases hrn : r < n
    · have hrF : r < F.length := by rw [HN.out]; exact hrn
      obtain ⟨lb, hlo, lbl, dl⟩ := HC.out r hrF
      subst hlo
      have dx := (hbw.cell (p := ⟨lb, r, none⟩) lbl).trans dl
      have hx := HMEM.out F[r] (List.getElem_mem hrF)
      have hmore := fun (W : World) (h : RowB W w1.heap.size L (fun j => decide (j ∈ F.take r))) => rowB_more h hrF
      have hprev : ∀ s', r = s' + 1 → ∃ y : Nat, wr.cell? ⟨lb, s', none⟩ = some (.int .i64 (y : Int)) ∧ ¬ ((F[r] : Int) ≤ (y : Int)) := fun s' hs => by
        obtain ⟨lb', h1, h2, h3⟩ := HC.out s' (by omega)
        cases h1
        refine ⟨F[s']'(by omega), (hbw.cell (p := ⟨lb, s', none⟩) h2).trans h3, ?_⟩
        have := (List.pairwise_iff_getElem.1 HSORT.out) s' r (by omega) hrF (by omega)
        omega
      have HMORE := Lib.hid hmore; have HBW := Lib.hid hbw; have HROW := Lib.hid hrow; have HPREV := Lib.hid hprev
      have lbi : lb < wr.heap.size := Nat.lt_of_lt_of_le lbl hbw.size
      clear hmore hbw hrow hprev dl
      generalize F[r] = x at *
      have hx1 : ¬ ((x : Int) < (q : Int)) := by omega
      have hx2 : ¬ ((L : Int) < (x : Int)) := by omega
      have hx3 : (x : Int) < (L : Int) + 1 := by omega
      have hri : (r : Int) < (n : Int) := by omega
      have hn1 : ¬ x < q := by omega
      have hn2 : ¬ L < x := by omega
      have hn3 : x < L + 1 := by omega
      rcases r with _ | s
      · clear HPREV
        go_wp2_with fail
        have y0 := cell_regrown dx
        refine wp_region_quiet_below (by kernel_rfl) (by kernel_rfl) ?_
        try simp only [List.append]
        repeat (go_big_quiet_step (fail))
        refine wpQuiet_nil ?_
        intro w11 hw11
        have hB11 : Below wr.heap.size wr w11 := by obtain ⟨q, rfl⟩ := hw11; exact below_regrown _ _ _
        clear hw11 y0
        have dx11 := (hB11.cell (p := ⟨lb, _, none⟩) lbi).trans dx
        have row11 := HROW.out.below hB11
        have hb11 := HBW.out.trans (hB11.mono HBW.out.size)
        have cx := row11.cell (a := x) (by omega)
        have fx := row11.frozen x
        have FIN := Lib.hid (And.intro (HMORE.out _ row11) (hb11.setCell (p := ⟨w1.heap.size, x, none⟩) (Nat.le_refl _) (.bool true)))
        clear hB11 row11 hb11 dx HBW HROW HMORE
        go_wp2_with fail
        go_roundw
        case rel => exact ⟨_, by omega, by go_num, FIN.out.1, FIN.out.2⟩
        case measure => simp [intOf]; omega
      · obtain ⟨y, dy, hxy⟩ := HPREV.out s rfl
        have hxn : ¬ x ≤ y := by omega
        have hsn : (s : Int) < (n : Int) := by omega
        have hsn2 : s < n := by omega
        clear HPREV
        go_wp2_with fail
        have y0 := cell_regrown dx
        have y1 := cell_regrown dy
        refine wp_region_quiet_below (by kernel_rfl) (by kernel_rfl) ?_
        try simp only [List.append]
        repeat (go_big_quiet_step (fail))
        refine wpQuiet_nil ?_
        intro w11 hw11
        have hB11 : Below wr.heap.size wr w11 := by obtain ⟨q, rfl⟩ := hw11; exact below_regrown _ _ _
        clear hw11 y0 y1
        have dx11 := (hB11.cell (p := ⟨lb, _, none⟩) lbi).trans dx
        have row11 := HROW.out.below hB11
        have hb11 := HBW.out.trans (hB11.mono HBW.out.size)
        have cx := row11.cell (a := x) (by omega)
        have fx := row11.frozen x
        have FIN := Lib.hid (And.intro (HMORE.out _ row11) (hb11.setCell (p := ⟨w1.heap.size, x, none⟩) (Nat.le_refl _) (.bool true)))
        clear hB11 row11 hb11 dx dy HBW HROW HMORE
        go_wp2_with fail
        go_roundw
        case rel => exact ⟨_, by omega, by go_num, FIN.out.1, FIN.out.2⟩
        case measure => simp [intOf]; omega
    · obtain rfl : r = n := by omega
      have hWr : Below W0.heap.size W0 wr := HB1.out.trans (hbw.mono HB1.out.size)
      have hrow2 : RowB wr w1.heap.size L (fun j => (T us.length).getLsbD j) := by
        rw [← HN.out, List.take_length, HFIN.out] at hrow
        rw [HUS.out]
        exact hrow
      have hO : Below wr.heap.size wr (wr.alloc (.cells #[.slice (some ⟨w1.heap.size, 0, none⟩) (L + 1) (L + 1)] 56)) := by go_grown
      have M2 := Lib.hid ((HM.out.below hWr).below hO)
      have ROW2 := Lib.hid (hrow2.below hO)
      have hcv := ownM_block HM.out.1 (C := w1.heap.size) HB1.out.size
      have hwl : w.heap.size < W0.heap.size := (Array.getElem?_eq_some_iff.1 HR.out).1
      have hW2 := HW.out.trans ((hWr.mono HW.out.size).trans (hO.mono (by have := HW.out.size; have := hWr.size; omega)))
      have R2 := Lib.hid ((hO.block _ (by have := hWr.size; omega)).trans ((hWr.block _ hwl).trans HR.out))
      have HW2 := Lib.hid hW2; have HCV := Lib.hid hcv; have HB1S := Lib.hid (show w.heap.size + 1 ≤ w1.heap.size by have := HB1.out.size; omega)
      have HS2 := Lib.hid (show w.heap.size + 1 ≤ wr.heap.size by have := hWr.size; omega)
      clear hrow hbw hWr hrow2 hO hcv hwl hW2 hrn HC HM HR HW
      go_wp2_with (at_builtin; refine wpList_appM (L := L) rfl (.tmp 74) (.tmp 76) rfl (w.heap.size + 1) wr.heap.size (.slice oo q oc) us w1.heap.size rfl rfl (cell_block (World.alloc_heap_new wr _) rfl) M2.out.1 (by have := HUS.out; omega) (by have := HS2.out; rw [World.size_alloc]; omega) ?_; intro v3 w3 ho3 hg3 hv3; have MSN := Lib.hid (M2.out.snoc ROW2.out HB1S.out HCV.out ho3 hg3 hv3); have hnb : ∀ kb, (Value.slice oo q oc).ownBlock = some kb → w.heap.size + 1 ≤ kb := (fun kb e => (ownsRow_block M2.out.1 kb e).1); have HW3 := Lib.hid (HW2.out.grown hg3 HW2.out.size (fun kb e => by have := hnb kb e; omega)); have R3 := Lib.hid ((hg3.block w.heap.size (by have := HS2.out; rw [World.size_alloc]; omega) (fun e => by have := hnb _ e.symm; omega)).trans R2.out); clear ho3 hg3 hv3 hnb)
      go_roundw
      case rel => exact ⟨q + 1, us ++ [w1.heap.size], by omega, by simp [HUS.out], by go_num, MSN.out, R3.out, HW3.out⟩
      case measure => simp [intOf]; omega
  · obtain rfl : q = L + 1 := by omega
    have HMAT := Lib.hid (HM.out.mat HUS.out)
    clear hlt hmk HEN HM HR
    go_wp2_with fail
    go_returns
    exact ⟨_, rfl, HMAT.out, HW.out⟩
end Go.Proofs.YtmobilppakjihaaDoor
