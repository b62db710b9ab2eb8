/-
  The runs of a word: Runs.
-/
import Derived.Test.YtfjngkdpembdcaaRa
namespace Go.Proofs.Ytfjngkdpembdcaa
open Go.RowKit Go.Shelf Go.Sort
attribute [local go_sem] Oper.semAt_some
/-- The cells of some runs. -/
def flatR : List (Nat × Nat) → List Value
  | [] => []
  | x :: l => .int .i64 (x.1 : Int) :: .int .i64 (x.2 : Int) :: flatR l
theorem flatR_length : ∀ l : List (Nat × Nat), (flatR l).length = l.length * 2
  | [] => rfl
  | s :: l => by simp only [flatR, List.length_cons, flatR_length l]; omega
theorem flatR_append : ∀ a b : List (Nat × Nat), flatR (a ++ b) = flatR a ++ flatR b
  | [], _ => rfl
  | s :: l, b => by simp only [List.cons_append, flatR, flatR_append l b]
theorem flatR_get0 : ∀ (l : List (Nat × Nat)) (i : Nat) (h : i < l.length), (flatR l)[i * 2]? = some (.int .i64 (l[i].1 : Int))
  | s :: l, 0, _ => by simp [flatR]
  | s :: l, i + 1, h => by
    have := flatR_get0 l i (by simpa using h)
    rw [show (i + 1) * 2 = i * 2 + 1 + 1 from by omega]
    simpa [flatR] using this
theorem flatR_get1 : ∀ (l : List (Nat × Nat)) (i : Nat) (h : i < l.length), (flatR l)[i * 2 + 1]? = some (.int .i64 (l[i].2 : Int))
  | s :: l, 0, _ => by simp [flatR]
  | s :: l, i + 1, h => by
    have := flatR_get1 l i (by simpa using h)
    rw [show (i + 1) * 2 + 1 = i * 2 + 1 + 1 + 1 from by omega]
    simpa [flatR] using this
/-- A slice that a call has made, holding these runs. -/
def OwnR (w : World) (base : Nat) (v : Value) (l : List (Nat × Nat)) : Prop := w.ownsRow base 45 2 v l.length (flatR l)
/-- A slice that holds these runs. -/
def Rn (w : World) (v : Value) (l : List (Nat × Nat)) : Prop :=
  (v = .slice none 0 0 ∧ l = []) ∨ ∃ b cap, v = .slice (some ⟨b, 0, none⟩) l.length cap ∧ l.length ≤ cap ∧ cap ≤ maxLen ∧ b < w.heap.size ∧ ∀ i (h : i < l.length), w.cell? ⟨b, i * 2, none⟩ = some (.int .i64 (l[i].1 : Int)) ∧ w.cell? ⟨b, i * 2 + 1, none⟩ = some (.int .i64 (l[i].2 : Int))
theorem OwnR.rn {w : World} {base : Nat} {v : Value} {ss : List (Nat × Nat)} (h : OwnR w base v ss) : Rn w v ss := by
  obtain ⟨hl, ⟨rfl, h0⟩ | ⟨g, cap, cur, rfl, hg, hh, hn, hm, hs, ht⟩⟩ := h
  · exact .inl ⟨rfl, List.eq_nil_of_length_eq_zero h0⟩
  · refine .inr ⟨g, cap, rfl, hn, hm, (Array.getElem?_eq_some_iff.1 hh).1, fun i hi => ?_⟩
    have key : ∀ j, j < ss.length * 2 → cur[j]? = (flatR ss)[j]? := fun j hj => by
      rw [← ht, List.getElem?_take_of_lt hj, Array.getElem?_toList]
    exact ⟨cell_block hh ((key _ (by omega)).trans (flatR_get0 ss i hi)), cell_block hh ((key _ (by omega)).trans (flatR_get1 ss i hi))⟩
theorem Rn.below {w w' : World} {v : Value} {ss : List (Nat × Nat)} (h : Rn w v ss) (hb : Below w.heap.size w w') : Rn w' v ss := by
  rcases h with h | ⟨b, cap, h1, hc, hm, h2, h3⟩
  · exact .inl h
  · exact .inr ⟨b, cap, h1, hc, hm, by have := hb.size; omega, fun i hi => ⟨(hb.cell (p := ⟨b, i * 2, none⟩) h2).trans (h3 i hi).1, (hb.cell (p := ⟨b, i * 2 + 1, none⟩) h2).trans (h3 i hi).2⟩⟩
theorem infoRun : (Try.prog.info? 45).map (fun i => (i.zero, i.size, i.bytes)) = some (some (.agg #[.int .i64 0, .int .i64 0]), 2, 16) := by kernel_rfl
set_option maxHeartbeats 400000 in
theorem runsSeq_any (ao : Option Addr) (n cap : Nat) (w : World) :
    Calls Try.prog 38 #[.slice ao n cap] w fun e w' => e = .returned (.func (.func 49) #[] #[.pointer (some ⟨w.heap.size, 0, none⟩)]) ∧ w.alloc (.cells #[.slice ao n cap] 24) = w' := by
  go_enter Try.func38, Try.ntmps38
  go_wp2
  go_returns
  exact ⟨rfl, rfl⟩
def GotR (Bs base : Nat) (pre : List (Nat × Nat)) (W : World) : Prop := ∃ v, W.cell? ⟨Bs, 0, none⟩ = some v ∧ W.frozen? ⟨Bs, 0, none⟩ = false ∧ OwnR W base v pre
theorem GotR.from (Bs base B : Nat) : OwnFrom B (GotR Bs base) := by
  rintro pre W W' row ⟨v, h1, h2, h3⟩ hg hr
  refine ⟨v, cell_kept h1 hg (fun r e => (hr r e).2), (frozen_kept h1 hg (fun r e => (hr r e).2)).trans h2, World.ownsRow.kept h3 hg ?_⟩
  rcases hb : v.ownBlock with _ | k
  · exact .inl rfl
  · refine .inr fun e => ?_
    obtain ⟨_, o, ho, hc⟩ := ownsRow_block h3 k hb
    obtain ⟨_, o', ho', hc'⟩ := hr k e.symm
    rw [ho] at ho'; cases ho'
    rw [hc] at hc'; cases hc'
theorem kb_b {n₀ Bn : Nat} {w : World} (hn : n₀ ≤ w.heap.size) (hB : Bn < w.heap.size) (W : World) (l : Nat) (o o' : Obj) (hl : w.heap.size ≤ l) (h : W.heap[l]? = some o) (h1 : o.isCells = false) (h2 : o.isWalk = false) : KB n₀ Bn W (W.putObj l o') :=
  ⟨belowK_b hn W l o o' hl h h1 h2, fun hk => (grownBy_putObj' W l o').block Bn hk (fun e => by cases e; omega)⟩
set_option maxHeartbeats 4000000 in
set_option maxRecDepth 100000 in
theorem wRuns_any (ss : List Snd) (v0 : Value) (hl : ss.length ≤ 1000000000) (w : World) (hd : Wd w v0 ss) :
    Calls Try.prog 18 #[v0] w fun e w' => ∃ v l, e = .returned v ∧ OwnR w' w.heap.size v l ∧ Chain ss l 0 ss.length ∧ Below w.heap.size w w' := by
  obtain ⟨ao, cap, rfl, -, -, hc⟩ := hd.open
  have HC := Lib.hid hc
  clear hc hd
  refine (callsIn_wide (n := 5)).1 ?_
  refine callsIn_of_wp_marks Try.func18 rfl trivial ?_ rfl
  simp only [Try.ntmps18, List.size_toArray, List.length_cons, List.length_nil, Nat.reduceAdd, Nat.reduceSub, Array.replicate_succ, Array.replicate_zero, List.push_toArray, List.append_toArray, List.nil_append, List.cons_append]
  gi_wp2_with fail
  refine ⟨trivial, ?_⟩
  gi_at_call 38
  refine (callsIn_wide.2 (runsSeq_any _ _ _ _)).mono ?_
  rintro e w1 ⟨rfl, rfl⟩
  gi_wp2_with fail
  refine wpIn_gen ?_
  intro W1 hW1
  have hB1 : Below w.heap.size w W1 := by rw [hW1]; go_grown
  have hz1 : W1.heap.size = w.heap.size + 1 + 1 := by rw [hW1, World.size_alloc, World.size_alloc]
  have hBN : W1.cell? ⟨w.heap.size + 1, 0, none⟩ = some (.slice ao ss.length cap) := by rw [hW1]; go_cell
  have hG0 : GotR w.heap.size (w.heap.size + 1 + 1) [] W1 := by
    rw [hW1]
    exact ⟨.slice none 0 0, by go_cell, by go_simp, rfl, .inl ⟨rfl, rfl⟩⟩
  have HBN := Lib.hid hBN
  clear hW1 hBN
  try rw [World.size_alloc]
  refine wpIn_rangeFunc_ownF (α := Nat × Nat) rfl (by decide) (gf := 49) (lb := #[.pointer (some ⟨w.heap.size + 1, 0, none⟩)]) rfl trivial (enters_of Try.func49 (by kernel_rfl) rfl)
    (encs := encR) (S := fun ys => Chain ss ys 0 ss.length) (Sp := fun _ => True) (N := ss.length) (w0 := W1) (Kp := KB w.heap.size (w.heap.size + 1))
    (fun lid J Jx W hW hab _ hY h0 => runs_in _ (by decide) lid (w.heap.size + 1) w.heap.size ss ao cap hl J Jx W hab hY ((hW.cell (p := ⟨w.heap.size + 1, 0, none⟩) (by simp only []; omega)).trans HBN.out) (fun i hi => by
        obtain ⟨b, off, e, hb, h1, h2⟩ := HC.out i hi
        exact ⟨b, off, e, hb, (hW.cell (p := ⟨b, off + i * 2, none⟩) (by simp only []; omega)).trans ((hB1.cell (p := ⟨b, off + i * 2, none⟩) hb).trans h1), (hW.cell (p := ⟨b, off + i * 2 + 1, none⟩) (by simp only []; omega)).trans ((hB1.cell (p := ⟨b, off + i * 2 + 1, none⟩) hb).trans h2)⟩) h0)
    KB.trans (kb_b (by have := hB1.size; omega) (by omega)) (Below.refl _ _) (fun _ => rfl)
    (fun pre W => GotR w.heap.size (w.heap.size + 1 + 1) pre W ∧ Below w.heap.size w W)
    (fun _ _ _ => False)
    (OwnFrom.and (GotR.from _ _ _) (ownFrom_below (Nat.le_refl _) (by have := hB1.size; omega)))
    (fun _ _ _ _ _ hs _ _ => hs)
    ⟨hG0, hB1⟩
    ?a1 ?assign ?body ?done ?stop
  case assign =>
    intro lid x W K hK
    gi_wp2
    exact hK
  case body =>
    rintro lid pre x W ⟨hG, hB⟩ hlen
    obtain ⟨v, ec, ef, hown⟩ := hG
    have hsz : w.heap.size < W.heap.size := World.block_lt_of_cell? _ _ ec
    obtain ⟨i, hi, hz, hs1, hb1⟩ := info_parts infoRun
    obtain ⟨x1, x2⟩ := x
    have hown1 : (W.alloc (.cells #[.int .i64 (x1 : Int), .int .i64 (x2 : Int)] 45)).ownsRow (w.heap.size + 1 + 1) 45 2 v pre.length (flatR pre) := World.ownsRow.kept hown (World.grownBy_alloc W _ none) (by cases v.ownBlock <;> simp)
    have hlen2 : pre.length + 1 ≤ 1000000001 := by omega
    have hrow := fun k hk => (ownsRow_block hown1 k hk).1
    have HO := Lib.hid hown1; have HL := Lib.hid hlen2; have HR := Lib.hid hrow
    have hB2 := hB
    clear hown hown1 hlen hlen2 hB hrow
    dsimp only
    gi_wp2_with (gi_at_builtin; refine wpListIn_append_own _ rfl (.tmp 10) (.tmp 14) 43 rfl (w.heap.size + 1 + 1) 45 i _ 2 16 Try.underlying43 hi hz hs1 hb1 rfl (by decide) v _ _ rfl HO.out ⟨W.heap.size, 0, none⟩ 1 1 [.int .i64 (x1 : Int), .int .i64 (x2 : Int)] rfl rfl (fun j u hu => by match j, hu with | 0, hu => (cases hu; exact cell_block (World.alloc_heap_new W _) rfl) | 1, hu => (cases hu; exact cell_block (World.alloc_heap_new W _) rfl)) (by simp [Value.oneCell']) (Nat.le_trans HL.out (by decide)) (by have := HL.out; omega) (by rw [World.size_alloc]; omega) ?_; intro v' W3 ho3 hg3 hn3; obtain ⟨vo, vc, hv'⟩ := ownsRow_slice ho3; subst hv'; obtain ⟨ec3, ef3⟩ := grown_cell hg3 hsz (fun k hk => Nat.le_trans (Nat.le_succ _) (HR.out k hk)) ec ef)
    have hsz3 : W.heap.size + 1 ≤ W3.heap.size := by have := hg3.size; rwa [World.size_alloc] at this
    have hb3 : Below w.heap.size W W3 := (((Below.refl w.heap.size W).alloc (by omega) (.cells #[.int .i64 (x1 : Int), .int .i64 (x2 : Int)] 45)).grown hg3 (by rw [World.size_alloc]; omega) (fun k e => by have := HR.out k e; omega))
    have hkeep : KeepsOthers W W3 := ⟨by omega, fun k o hk ho => by
      have hkl := (Array.getElem?_eq_some_iff.1 hk).1
      have hk1 : (W.alloc (.cells #[.int .i64 (x1 : Int), .int .i64 (x2 : Int)] 45)).heap[k]? = some o := (Below.heap_alloc W _ k hkl).trans hk
      rw [hg3.block k (by rw [World.size_alloc]; omega) (fun e => by
        obtain ⟨_, o', ho', hc'⟩ := ownsRow_block HO.out k e.symm
        rw [hk1] at ho'; cases ho'; rw [ho] at hc'; cases hc')]
      exact hk1⟩
    refine ⟨hkeep.trans (KeepsOthers.setCell _ _ _), ⟨hb3.setCell (p := ⟨w.heap.size, 0, none⟩) (by simp only []; omega) _, fun hk => by
      have e1 : W3.heap[w.heap.size + 1]? = W.heap[w.heap.size + 1]? := (hg3.block _ (by rw [World.size_alloc]; omega) (fun e => by have := HR.out _ e.symm; omega)).trans (Below.heap_alloc W _ _ hk)
      rw [← e1]
      show (W3.heap.modify w.heap.size _)[w.heap.size + 1]? = _
      rw [Array.getElem?_modify, if_neg (by omega)]⟩, ⟨_, World.cell?_setCell_same' _ _ _ (by rw [ec3]; rfl), by rw [World.frozen?_setCell]; exact ef3, ?_⟩, (hB2.trans hb3).setCell (p := ⟨w.heap.size, 0, none⟩) (by simp only []; omega) _⟩
    have hfin := ownsRow_setCell_below ho3 (a := ⟨w.heap.size, 0, none⟩) (by simp only []; omega) (.slice vo (pre.length + 1) vc)
    unfold OwnR
    rw [flatR_append, List.length_append]
    simpa [flatR] using hfin
  case done =>
    rintro D ys W hD hys ⟨hG, hB⟩ hK
    have hG2 := fun o' => (GotR.from w.heap.size (w.heap.size + 1 + 1) W1.heap.size).putObj (o' := o') hG hD hK rfl
    have HG2 := Lib.hid hG2
    obtain ⟨v, ec, ef, ho⟩ := hG
    obtain ⟨vo, vc, rfl⟩ := ownsRow_slice ho
    clear ho hG2
    gi_wp2
    refine ⟨by simp, .inl ⟨_, _, rfl, run_takeDeferred hK, ?_⟩⟩
    obtain ⟨v2, e2, f2, o2⟩ := HG2.out (.deferred none)
    have ec' := cell_kept ec (grownBy_putObj' W D (.deferred none)) (fun r e => by cases e; exact ⟨_, hK, rfl⟩)
    obtain rfl := Option.some.inj (e2.symm.trans ec')
    refine ⟨_, results_tmp rfl _ _ _, _, ys, rfl, ?_, hys, hB.trans (belowK_b (w := w) (Nat.le_refl _) W D _ _ (by omega) hK rfl rfl)⟩
    obtain ⟨q1, q2⟩ := o2
    refine ⟨q1, ?_⟩
    rcases q2 with q2 | ⟨g, cp, cur, qv, qb, qr⟩
    · exact .inl (by simpa using q2)
    · exact .inr ⟨g, cp, cur, by simpa using qv, by omega, qr⟩
  case stop =>
    rintro D c pre W _ _ h _
    exact h.elim
end Go.Proofs.Ytfjngkdpembdcaa
