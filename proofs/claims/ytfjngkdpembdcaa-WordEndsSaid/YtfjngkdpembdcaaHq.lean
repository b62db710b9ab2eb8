/-
  A list of words, gone over and collected: slices.Values, slices.AppendSeq, slices.Collect.
-/
import Derived.RangeFuncNested
import Derived.RangeFuncBound
import Derived.RangeFuncCalls
import Derived.RangeFuncLeaves
import Derived.RangeFuncFrom
import Derived.Shelf.Abstract
import Derived.Shelf.RegionOpen
import Derived.OwnWalkIn
import Derived.TacticsInMore
import Derived.LoopNIn
import Derived.LoopIn
import Derived.Test.YtfjngkdpembdcaaHg
namespace Go.Proofs.Ytfjngkdpembdcaa
open Go.RowKit Go.Shelf Go.Sort
attribute [local go_sem] Oper.semAt_some
theorem infoWord : (Try.prog.info? 24).map (fun i => (i.zero, i.size, i.bytes)) = some (some (.slice none 0 0), 1, 24) := by kernel_rfl
theorem wpIn_gen {F : Fence} {k : Nat} {P : Program} {c : Code} {Q : Exit → Act → World → Prop} {a : Act} {W : World} (h : ∀ W1, W1 = W → c.wpIn F k P Q a W1) : c.wpIn F k P Q a W := h W rfl
theorem ko_of_below {W W' : World} (h : Below W.heap.size W W') : KeepsOthers W W' := ⟨h.size, fun k o hk _ => (h.block k (Array.getElem?_eq_some_iff.1 hk).1).trans hk⟩
/-- A slice's three words. -/
structure Slc where
  ao : Option Addr
  n : Nat
  cap : Nat
abbrev Slc.v (x : Slc) : Value := .slice x.ao x.n x.cap
def slc : Value → Slc
  | .slice ao n cap => ⟨ao, n, cap⟩
  | _ => ⟨none, 0, 0⟩
theorem slc_v {w : World} {v : Value} {ss : List Snd} (h : Wd w v ss) : (slc v).v = v := by
  obtain ⟨ao, cap, rfl, -⟩ := h.open; rfl
set_option maxRecDepth 100000 in
set_option maxHeartbeats 1000000 in
/-- The iterator: each word of the list, in order. -/
theorem values_in (n : Nat) (hn : 1 ≤ n) (lid Bn n₀ : Nat) (l : List Slc) (ao : Option Addr) (cap : Nat) (hl : l.length ≤ 1000000000) (J Jx : List Slc → World → Prop)
    (hY : ∀ pre x W, J pre W → pre.length < l.length → YieldAt Fence.wide (n - 1) Try.prog lid #[(x : Slc).v] W fun e W' =>
      (e = .returned (.bool true) ∧ J (pre ++ [x]) W' ∧ Below n₀ W W') ∨ (e = .returned (.bool false) ∧ Jx (pre ++ [x]) W'))
    (W : World) (hBn : W.cell? ⟨Bn, 0, none⟩ = some (.slice ao l.length cap)) (hc : ∀ i (h : i < l.length), ∃ b off, ao = some ⟨b, off, none⟩ ∧ b < n₀ ∧ W.cell? ⟨b, off + i, none⟩ = some l[i].v) (h0 : J [] W) :
    CallsIn Fence.wide n Try.prog 43 #[.func (.yield lid) #[] #[], .pointer (some ⟨Bn, 0, none⟩)] W fun e W' => (∃ v, e = .returned v) ∧
      ((∃ ys, ys = l ∧ J ys W') ∨ (∃ pre, pre <+: l ∧ Jx pre W')) := by
  have HC := Lib.hid hc; clear hc
  refine callsIn_of_wp Try.func43 rfl trivial ?_ rfl
  simp only [Try.ntmps43, List.size_toArray, List.length_cons, List.length_nil, Nat.reduceAdd, Nat.reduceSub, Array.replicate_succ, Array.replicate_zero, List.push_toArray, List.append_toArray, List.nil_append, List.cons_append]
  gi_wp2
  gi_loopw [7] (fun p wr => ∃ k : Nat, k ≤ l.length ∧ p = .int .i64 (k : Int) ∧ J (l.take k) wr ∧ Below n₀ W wr) (fun p wr => l.length - (intOf p).toNat)
  case atStart =>
    exact ⟨0, by omega, rfl, h0, Below.refl _ _⟩
  case round =>
    obtain ⟨k, hk, rfl, hJ, hw⟩ := hrel
    by_cases hlt : k < l.length
    · obtain ⟨b, off, rfl, lb, d0⟩ := HC.out k hlt
      have d0 := (hw.cell (p := ⟨b, off + k, none⟩) lb).trans d0
      obtain ⟨fn, tmps, assign, body, hy, hR⟩ := hY (l.take k) l[k] wr hJ (by simp; omega)
      have htk : l.take (k + 1) = l.take k ++ [l[k]] := List.take_succ_eq_append_getElem hlt
      rw [← htk] at hR
      have hpf : l.take (k + 1) <+: l := List.take_prefix _ _
      generalize hsl : l[k] = x at hy d0
      obtain ⟨so, sn, sc⟩ := x
      have HR := Lib.hid hR; have HPF := Lib.hid hpf
      clear hR htk hpf hJ HC hsl
      gi_wp2_with fail
      refine HR.out.mono ?_
      rintro e W3 (⟨rfl, hJ3, hk3⟩ | ⟨rfl, hJx3⟩)
      · gi_wp2
        go_roundw
        case rel => exact ⟨k + 1, by omega, by go_num, hJ3, hw.trans hk3⟩
        case measure => simp [intOf]; omega
      · gi_wp2
        refine bodyPost_ret (results_none rfl _ _ _) rfl ?_
        exact ⟨⟨_, rfl⟩, .inr ⟨l.take (k + 1), HPF.out, hJx3⟩⟩
    · rw [List.take_of_length_le (by omega)] at hJ
      have HJ := Lib.hid hJ
      clear hJ HC
      gi_wp2
      go_end0
      exact ⟨⟨_, rfl⟩, .inl ⟨l, rfl, HJ.out⟩⟩
set_option maxHeartbeats 400000 in
theorem values_any (ao : Option Addr) (n cap : Nat) (w : World) :
    Calls Try.prog 26 #[.slice ao n cap] w fun e w' => e = .returned (.func (.func 43) #[] #[.pointer (some ⟨w.heap.size, 0, none⟩)]) ∧ w.alloc (.cells #[.slice ao n cap] 22) = w' := by
  go_enter Try.func26, Try.ntmps26
  go_wp2
  go_returns
  exact ⟨rfl, rfl⟩
/-- A slice of slices that the call has made. -/
def OwnV (w : World) (base : Nat) (v : Value) (cs : List Value) : Prop := w.ownsRow base 24 1 v cs.length cs
theorem OwnV.slice {w : World} {base : Nat} {v : Value} {cs : List Value} (h : OwnV w base v cs) : ∃ ao cap, v = .slice ao cs.length cap := by
  obtain ⟨_, ⟨rfl, h0⟩ | ⟨g, cap, cur, rfl, _⟩⟩ := h
  · exact ⟨none, 0, by rw [h0]⟩
  · exact ⟨_, cap, rfl⟩
/-- What has been collected. -/
def Got (Bs base : Nat) (pre : List Slc) (W : World) : Prop := ∃ v, W.cell? ⟨Bs, 0, none⟩ = some v ∧ W.frozen? ⟨Bs, 0, none⟩ = false ∧ OwnV W base v (pre.map Slc.v)
theorem ownsRow_slice {w : World} {base e size n : Nat} {v : Value} {xs : List Value} (h : w.ownsRow base e size v n xs) : ∃ ao cap, v = .slice ao n cap := by
  obtain ⟨_, ⟨rfl, h0⟩ | ⟨g, cap, cur, rfl, _⟩⟩ := h
  · exact ⟨none, 0, by rw [h0]⟩
  · exact ⟨_, cap, rfl⟩
/-- A cell, and its mark, behind an append to another row. -/
theorem grown_cell {W W3 : World} {O : Obj} {row : Option Nat} {b : Nat} {v : Value} (hg : (W.alloc O).grownBy W3 row) (hb : b < W.heap.size) (hr : ∀ k, row = some k → b + 1 ≤ k) (ec : W.cell? ⟨b, 0, none⟩ = some v) (ef : W.frozen? ⟨b, 0, none⟩ = false) : W3.cell? ⟨b, 0, none⟩ = some v ∧ W3.frozen? ⟨b, 0, none⟩ = false := by
  have hblk : W3.heap[b]? = W.heap[b]? := (hg.block b (by rw [World.size_alloc]; omega) (fun e => by have := hr b e.symm; omega)).trans (Below.heap_alloc W O b hb)
  exact ⟨(World.cell?_of_block hblk).trans ec, (World.frozen?_of_block hblk).trans ef⟩
theorem ownsRow_block {w : World} {base e size n : Nat} {v : Value} {xs : List Value} (h : w.ownsRow base e size v n xs) (k : Nat) (hk : v.ownBlock = some k) : base ≤ k ∧ ∃ o : Obj, w.heap[k]? = some o ∧ o.isCells = true := by
  obtain ⟨hl, ⟨rfl, h0⟩ | ⟨g, cap, cur, rfl, hg, hh, hr⟩⟩ := h
  · cases hk
  · cases hk; exact ⟨hg, _, hh, rfl⟩
theorem Got.from (Bs base B : Nat) : OwnFrom B (Got Bs base) := by
  rintro pre W W' row ⟨v, h1, h2, h3⟩ hg hr
  refine ⟨v, cell_kept h1 hg (fun r e => (hr r e).2), (frozen_kept h1 hg (fun r e => (hr r e).2)).trans h2, World.ownsRow.kept h3 hg ?_⟩
  rcases hb : v.ownBlock with _ | k
  · exact .inl rfl
  · refine .inr fun e => ?_
    obtain ⟨_, o, ho, hc⟩ := ownsRow_block h3 k hb
    obtain ⟨_, o', ho', hc'⟩ := hr k e.symm
    rw [ho] at ho'; cases ho'
    rw [hc] at hc'; cases hc'
set_option maxHeartbeats 2000000 in
set_option maxRecDepth 100000 in
theorem appendSeq_any (l : List Slc) (ao : Option Addr) (cap Bn : Nat) (hl : l.length ≤ 1000000000) (w : World) (hBn : w.cell? ⟨Bn, 0, none⟩ = some (.slice ao l.length cap)) (hc : ∀ i (h : i < l.length), ∃ b off, ao = some ⟨b, off, none⟩ ∧ b < w.heap.size ∧ w.cell? ⟨b, off + i, none⟩ = some l[i].v) :
    Calls Try.prog 50 #[.slice none 0 0, .func (.func 43) #[] #[.pointer (some ⟨Bn, 0, none⟩)]] w fun e w' => ∃ v, e = .returned v ∧ OwnV w' w.heap.size v (l.map Slc.v) ∧ Below w.heap.size w w' := by
  have HBN := Lib.hid hBn; have HC := Lib.hid hc
  have hlt : Bn < w.heap.size := World.block_lt_of_cell? _ _ hBn
  clear hBn hc
  refine (callsIn_wide (n := 5)).1 ?_
  refine callsIn_of_wp_marks Try.func50 rfl trivial ?_ rfl
  simp only [Try.ntmps50, List.size_toArray, List.length_cons, List.length_nil, Nat.reduceAdd, Nat.reduceSub, Array.replicate_succ, Array.replicate_zero, List.push_toArray, List.append_toArray, List.nil_append, List.cons_append]
  gi_wp2_with fail
  refine wpIn_gen ?_
  intro W1 hW1
  have hB1 : Below w.heap.size w W1 := by rw [hW1]; go_grown
  have hz1 : W1.heap.size = w.heap.size + 1 := by rw [hW1, World.size_alloc]
  have hG0 : Got w.heap.size (w.heap.size + 1) [] W1 := by
    rw [hW1]
    exact ⟨.slice none 0 0, cell_block (World.alloc_heap_new w _) rfl, frozen_block (World.alloc_heap_new w _), rfl, .inl ⟨rfl, rfl⟩⟩
  clear hW1
  refine wpIn_rangeFunc_ownF (α := Slc) rfl (by decide) (gf := 43) (lb := #[.pointer (some ⟨Bn, 0, none⟩)]) rfl trivial (enters_of Try.func43 (by kernel_rfl) rfl)
    (encs := fun x => #[x.v]) (S := fun ys => ys = l) (Sp := fun pre => pre <+: l) (N := l.length) (w0 := W1) (Kp := Below w.heap.size)
    (fun lid J Jx W hW _ _ hY h0 => values_in _ (by decide) lid Bn w.heap.size l ao cap hl J Jx hY W ((hW.cell (p := ⟨Bn, 0, none⟩) (by simp only []; omega)).trans ((hB1.cell (p := ⟨Bn, 0, none⟩) hlt).trans HBN.out)) (fun i hi => by
        obtain ⟨b, off, e, hb, hc⟩ := HC.out i hi
        exact ⟨b, off, e, hb, (hW.cell (p := ⟨b, off + i, none⟩) (by simp only []; omega)).trans ((hB1.cell (p := ⟨b, off + i, none⟩) hb).trans hc)⟩) h0)
    belowK_t (belowK_b (by have := hB1.size; omega)) (Below.refl _ _) (fun _ => rfl)
    (fun pre W => Got w.heap.size (w.heap.size + 1) pre W ∧ Below w.heap.size w W)
    (fun _ _ _ => False)
    (OwnFrom.and (Got.from _ _ _) (ownFrom_below (Nat.le_refl _) (by have := hB1.size; omega)))
    (fun _ _ _ _ _ hs _ _ => hs)
    ⟨hG0, hB1⟩
    ?a1 ?assign ?body ?done ?stop
  case assign =>
    intro lid x W K hK
    gi_wp2
    exact hK
  case body =>
    rintro lid pre x W ⟨hG, hB⟩ hlen
    obtain ⟨v, ec, ef, hown⟩ := hG
    have hsz : w.heap.size < W.heap.size := World.block_lt_of_cell? _ _ ec
    obtain ⟨i, hi, hz, hs1, hb1⟩ := info_parts infoWord
    obtain ⟨xa, xn, xc⟩ := x
    have hown1 : (W.alloc (.cells #[.slice xa xn xc] 24)).ownsRow (w.heap.size + 1) 24 1 v (pre.map Slc.v).length (pre.map Slc.v) := World.ownsRow.kept hown (World.grownBy_alloc W _ none) (by cases v.ownBlock <;> simp)
    have hlen2 : (pre.map Slc.v).length + 1 ≤ 1000000001 := by rw [List.length_map]; omega
    have hrow := fun k hk => (ownsRow_block hown1 k hk).1
    have HO := Lib.hid hown1; have HL := Lib.hid hlen2; have HR := Lib.hid hrow
    have hB2 := hB
    clear hown hown1 hlen hlen2 hB hrow
    dsimp only [Slc.v]
    gi_wp2_with (gi_at_builtin; refine wpListIn_append_own _ rfl (.tmp 8) (.tmp 10) 22 rfl (w.heap.size + 1) 24 i _ 1 24 Try.underlying22 hi hz hs1 hb1 rfl (by decide) v _ _ rfl HO.out ⟨W.heap.size, 0, none⟩ 1 1 [.slice xa xn xc] rfl rfl (fun j u hu => by match j, hu with | 0, hu => (cases hu; exact cell_block (World.alloc_heap_new W _) rfl)) (by simp [Value.oneCell']) (Nat.le_trans HL.out (by decide)) (by have := HL.out; omega) (by rw [World.size_alloc]; omega) ?_; intro v' W3 ho3 hg3 hn3; obtain ⟨vo, vc, hv'⟩ := ownsRow_slice ho3; subst hv'; obtain ⟨ec3, ef3⟩ := grown_cell hg3 hsz HR.out ec ef)
    have hsz3 : W.heap.size + 1 ≤ W3.heap.size := by have := hg3.size; rwa [World.size_alloc] at this
    have hb3 : Below w.heap.size W W3 := (((Below.refl w.heap.size W).alloc (by omega) (.cells #[.slice xa xn xc] 24)).grown hg3 (by rw [World.size_alloc]; omega) (fun k e => by have := HR.out k e; omega))
    have hkeep : KeepsOthers W W3 := ⟨by omega, fun k o hk ho => by
      have hkl := (Array.getElem?_eq_some_iff.1 hk).1
      have hk1 : (W.alloc (.cells #[.slice xa xn xc] 24)).heap[k]? = some o := (Below.heap_alloc W _ k hkl).trans hk
      rw [hg3.block k (by rw [World.size_alloc]; omega) (fun e => by
        obtain ⟨_, o', ho', hc'⟩ := ownsRow_block HO.out k e.symm
        rw [hk1] at ho'; cases ho'; rw [ho] at hc'; cases hc')]
      exact hk1⟩
    refine ⟨hkeep.trans (KeepsOthers.setCell _ _ _), hb3.setCell (p := ⟨w.heap.size, 0, none⟩) (by simp only []; omega) _, ⟨_, World.cell?_setCell_same' _ _ _ (by rw [ec3]; rfl), by rw [World.frozen?_setCell]; exact ef3, ?_⟩, (hB2.trans hb3).setCell (p := ⟨w.heap.size, 0, none⟩) (by simp only []; omega) _⟩
    have hfin := ownsRow_setCell_below ho3 (a := ⟨w.heap.size, 0, none⟩) (by simp only []; omega) (.slice vo (pre.length + 1) vc)
    unfold OwnV
    rw [List.map_append, List.length_append]
    simpa using hfin
  case done =>
    rintro D ys W hD rfl ⟨hG, hB⟩ hK
    have hG2 := fun o' => (Got.from w.heap.size (w.heap.size + 1) W1.heap.size).putObj (o' := o') hG hD hK rfl
    have HG2 := Lib.hid hG2
    obtain ⟨v, ec, ef, ho⟩ := hG
    obtain ⟨vo, vc, rfl⟩ := ownsRow_slice ho
    clear ho hG2
    gi_wp2
    refine ⟨by simp, .inl ⟨_, _, rfl, run_takeDeferred hK, ?_⟩⟩
    obtain ⟨v2, e2, f2, o2⟩ := HG2.out (.deferred none)
    have ec' := cell_kept ec (grownBy_putObj' W D (.deferred none)) (fun r e => by cases e; exact ⟨_, hK, rfl⟩)
    obtain rfl := Option.some.inj (e2.symm.trans ec')
    refine ⟨_, results_tmp rfl _ _ _, _, rfl, ?_, hB.trans (belowK_b (w := w) (Nat.le_refl _) W D _ _ (by omega) hK rfl rfl)⟩
    obtain ⟨q1, q2⟩ := o2
    refine ⟨q1, ?_⟩
    rcases q2 with q2 | ⟨g, cp, cur, qv, qb, qr⟩
    · exact .inl (by simpa using q2)
    · exact .inr ⟨g, cp, cur, by simpa using qv, by omega, qr⟩
  case stop =>
    rintro D c pre W _ _ h _
    exact h.elim
theorem collect_any (l : List Slc) (ao : Option Addr) (cap Bn : Nat) (hl : l.length ≤ 1000000000) (w : World) (hBn : w.cell? ⟨Bn, 0, none⟩ = some (.slice ao l.length cap)) (hc : ∀ i (h : i < l.length), ∃ b off, ao = some ⟨b, off, none⟩ ∧ b < w.heap.size ∧ w.cell? ⟨b, off + i, none⟩ = some l[i].v) :
    Calls Try.prog 41 #[.func (.func 43) #[] #[.pointer (some ⟨Bn, 0, none⟩)]] w fun e w' => ∃ v, e = .returned v ∧ OwnV w' w.heap.size v (l.map Slc.v) ∧ Below w.heap.size w w' := by
  have h := Lib.hid (appendSeq_any l ao cap Bn hl w hBn hc)
  clear hBn hc hl
  go_enter Try.func41, Try.ntmps41
  go_wp2_with fail
  go_at_call 50
  refine h.out.mono ?_
  rintro e w1 ⟨v, rfl, ho, hb⟩
  obtain ⟨vo, vc, rfl⟩ := ownsRow_slice ho
  go_wp2_with fail
  go_returns
  exact ⟨_, rfl, by simpa using ho, hb⟩
end Go.Proofs.Ytfjngkdpembdcaa
