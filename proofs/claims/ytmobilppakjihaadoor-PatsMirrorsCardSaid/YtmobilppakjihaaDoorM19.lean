/-
  Lemmas that the theorem of this claim rests on: 4 texts, one behind the other.
-/
import Derived.Test.YtmobilppakjihaaDoorM18
import Derived.Test.YtmobilppakjihaaDoorM11
set_option linter.unusedSimpArgs false
set_option linter.unusedVariables false
/-
  Places in a slice: slices.AppendSeq, slices.Collect; and where what is matched from a place on can end (Ends).
-/
namespace Go.Proofs.YtmobilppakjihaaDoor
open Go.RowKit Go.Shelf Go.Sort
attribute [local go_sem] Oper.semAt_some
/-- What has been collected. -/
def GotI (Bs base : Nat) (pre : List Nat) (W : World) : Prop := ∃ v, W.cell? ⟨Bs, 0, none⟩ = some v ∧ W.frozen? ⟨Bs, 0, none⟩ = false ∧ OwnI W base v pre
theorem GotI.from {s : BitVec 64} (Bs base B : Nat) : OwnFrom B (fun (pre : List (Ex s)) W => GotI Bs base (pre.map fun x => x.1.val) W) := by
  rintro pre W W' row ⟨v, h1, h2, h3⟩ hg hr
  refine ⟨v, cell_kept h1 hg (fun r e => (hr r e).2), (frozen_kept h1 hg (fun r e => (hr r e).2)).trans h2, World.ownsRow.kept h3 hg ?_⟩
  rcases hb : v.ownBlock with _ | k
  · exact .inl rfl
  · refine .inr fun e => ?_
    obtain ⟨_, o, ho, hc⟩ := ownsRow_block h3 k hb
    obtain ⟨_, o', ho', hc'⟩ := hr k e.symm
    rw [ho] at ho'; cases ho'
    rw [hc] at hc'; cases hc'
theorem infoInt2 : ∃ i, Tryd.prog.info? 3 = some i ∧ i.zero = some (.int .i64 0) ∧ i.size = 1 ∧ i.bytes = 8 := by
  obtain ⟨i, hi, hz, hs1, hb1⟩ := info_parts infoInt
  exact ⟨i, hi, hz, hs1, hb1⟩
set_option maxHeartbeats 4000000 in
set_option maxRecDepth 100000 in
theorem appendSeq_any (s : BitVec 64) (Bm : Nat) (w : World) (hBm : w.cell? ⟨Bm, 0, none⟩ = some (.int .u64 (s.toNat : Int))) (hT : Tab64 w) (ht0 : 0 < w.heap.size) (hlen : (elems64 s).length ≤ 64) :
    Calls Tryd.prog 79 #[.slice none 0 0, .func (.func 80) #[] #[.pointer (some ⟨Bm, 0, none⟩)]] w fun e w' => ∃ v, e = .returned v ∧ OwnI w' w.heap.size v ((elems64 s).map (·.val)) ∧ Below w.heap.size w w' := by
  have HBM := Lib.hid hBm; have HT := Lib.hid hT; have HT0 := Lib.hid ht0; have HLE := Lib.hid hlen
  have hlt : Bm < w.heap.size := World.block_lt_of_cell? _ _ hBm
  clear hBm hT ht0 hlen
  refine (callsIn_wide (n := 5)).1 ?_
  refine callsIn_of_wp_marks Tryd.func79 rfl trivial ?_ rfl
  simp only [Tryd.ntmps79, List.size_toArray, List.length_cons, List.length_nil, Nat.reduceAdd, Nat.reduceSub, Array.replicate_succ, Array.replicate_zero, List.push_toArray, List.append_toArray, List.nil_append, List.cons_append]
  gi_wp2_with fail
  refine wpIn_gen ?_
  intro W1 hW1
  have hB1 : Below w.heap.size w W1 := by rw [hW1]; go_grown
  have hz1 : W1.heap.size = w.heap.size + 1 := by rw [hW1, World.size_alloc]
  have hG0 : GotI w.heap.size (w.heap.size + 1) [] W1 := by
    rw [hW1]
    exact ⟨.slice none 0 0, cell_block (World.alloc_heap_new w _) rfl, frozen_block (World.alloc_heap_new w _), OwnI.nil _ _⟩
  clear hW1
  have c1 : W1.cell? ⟨Bm, 0, none⟩ = some (.int .u64 (s.toNat : Int)) := (hB1.cell (p := ⟨Bm, 0, none⟩) hlt).trans HBM.out
  have hTab : Tab64 W1 := HT.out.below hB1 HT0.out
  refine wpIn_rangeFunc_ownF (α := Ex s) rfl (by decide) (gf := 80) (lb := #[.pointer (some ⟨Bm, 0, none⟩)]) rfl trivial (enters_of Tryd.func80 (by kernel_rfl) rfl)
    (each_stops s _ (by decide) Bm w.heap.size W1 c1 HT0.out (by omega) hTab)
    belowK_t (belowK_b (by omega)) (Below.refl _ _) (fun _ => rfl)
    (fun pre W => GotI w.heap.size (w.heap.size + 1) (pre.map fun x => x.1.val) W ∧ Below w.heap.size w W)
    (fun _ _ _ => False)
    (OwnFrom.and (GotI.from _ _ _) (ownFrom_below (Nat.le_refl _) (by omega)))
    (fun _ _ _ _ _ hs _ _ => hs)
    ⟨hG0, hB1⟩
    ?a1 ?assign ?body ?done ?stop
  case assign =>
    intro l b W K hK
    gi_wp2
    exact hK
  case body =>
    rintro lid pre ⟨b, hb⟩ W ⟨hG, hB⟩ hlen
    obtain ⟨v, ec, ef, hown⟩ := hG
    have hsz : w.heap.size < W.heap.size := World.block_lt_of_cell? _ _ ec
    obtain ⟨i, hi, hz, hs1, hb1⟩ := infoInt2
    have hown1 : OwnI (W.alloc (.cells #[.int .i64 (b.val : Int)] 3)) (w.heap.size + 1) v (pre.map fun x => x.1.val) := World.ownsRow.kept hown (World.grownBy_alloc W _ none) (by cases v.ownBlock <;> simp)
    have hlen2 : pre.length + 1 ≤ 65 := by have := HLE.out; omega
    have hrow := fun k hk => (ownsRow_block hown1 k hk).1
    have hml : (pre.map fun x : Ex s => x.1.val).length = pre.length := List.length_map ..
    generalize hpv : (pre.map fun x : Ex s => x.1.val) = pv at *
    have HO := Lib.hid hown1; have HL := Lib.hid hlen2; have HR := Lib.hid hrow; have HM := Lib.hid hml; have HPV := Lib.hid hpv
    have hB2 := hB
    clear hown hown1 hlen hlen2 hB hrow hml hpv
    gi_wp2_with (gi_at_builtin; refine wpListIn_append_own _ rfl (.tmp 8) (.tmp 10) 35 rfl (w.heap.size + 1) 3 i _ 1 8 Tryd.underlying35 hi hz hs1 hb1 rfl (by decide) v _ _ rfl HO.out ⟨W.heap.size, 0, none⟩ 1 1 [.int .i64 (b.val : Int)] rfl rfl (fun j y hy => by obtain ⟨hj, rfl⟩ := List.getElem?_eq_some_iff.1 hy; obtain rfl : j = 0 := (by simpa using hj); exact cell_block (World.alloc_heap_new W _) rfl) (fun y hy => by rw [List.mem_singleton.1 hy]; rfl) (Nat.le_trans (by have h1 := HL.out; have h2 := HM.out; omega : pv.length + 1 ≤ 65) (by decide)) (by have h1 := HL.out; have h2 := HM.out; omega) (by rw [World.size_alloc]; omega) ?_; intro v' W3 ho3 hg3 hn3; obtain ⟨vo, vc, hv'⟩ := ownsRow_slice ho3; subst hv'; obtain ⟨ec3, ef3⟩ := grown_cell hg3 hsz HR.out ec ef)
    have hsz3 : W.heap.size + 1 ≤ W3.heap.size := by have := hg3.size; rwa [World.size_alloc] at this
    have hb3 : Below w.heap.size W W3 := (((Below.refl w.heap.size W).alloc (by omega) (.cells #[.int .i64 (b.val : Int)] 3)).grown hg3 (by rw [World.size_alloc]; omega) (fun k e => by have := HR.out k e; omega))
    have hkeep : KeepsOthers W W3 := ⟨by omega, fun k o hk ho => by
      have hkl := (Array.getElem?_eq_some_iff.1 hk).1
      have hk1 : (W.alloc (.cells #[.int .i64 (b.val : Int)] 3)).heap[k]? = some o := (Below.heap_alloc W _ k hkl).trans hk
      rw [hg3.block k (by rw [World.size_alloc]; omega) (fun e => by
        obtain ⟨_, o', ho', hc'⟩ := ownsRow_block HO.out k e.symm
        rw [hk1] at ho'; cases ho'; rw [ho] at hc'; cases hc')]
      exact hk1⟩
    have hk4 := hkeep.trans (KeepsOthers.setCell W3 ⟨w.heap.size, 0, none⟩ (.slice vo (pv.length + 1) vc))
    have hfin := ownsRow_setCell_below ho3 (a := ⟨w.heap.size, 0, none⟩) (by simp only []; omega) (.slice vo (pv.length + 1) vc)
    refine ⟨hk4, (hb3.setCell (p := ⟨w.heap.size, 0, none⟩) (by simp only []; omega) _), ⟨_, World.cell?_setCell_same' _ _ _ (by rw [ec3]; rfl), by rw [World.frozen?_setCell]; exact ef3, ?_⟩, (hB2.trans hb3).setCell (p := ⟨w.heap.size, 0, none⟩) (by simp only []; omega) _⟩
    unfold OwnI ints
    rw [List.map_append, HPV.out, List.map_append, List.length_append]
    exact hfin
  case done =>
    rintro D ys W hD hys ⟨hG, hB⟩ hK
    have hG2 := fun o' => (GotI.from (s := s) w.heap.size (w.heap.size + 1) W1.heap.size).putObj (o' := o') hG hD hK rfl
    have hel : (ys.map fun x : Ex s => x.1.val) = (elems64 s).map (·.val) := by have := congrArg (List.map fun b : Fin 64 => b.val) hys; rw [List.map_map] at this; exact this
    have HG2 := Lib.hid hG2; have HEL := Lib.hid hel
    obtain ⟨v, ec, ef, ho⟩ := hG
    obtain ⟨vo, vc, rfl⟩ := ho.slice
    clear ho hG2 hys hel
    gi_wp2
    refine ⟨by simp, .inl ⟨_, _, rfl, run_takeDeferred hK, ?_⟩⟩
    obtain ⟨v2, e2, f2, o2⟩ := HG2.out (.deferred none)
    have ec' := cell_kept ec (grownBy_putObj' W D (.deferred none)) (fun r e => by cases e; exact ⟨_, hK, rfl⟩)
    obtain rfl := Option.some.inj (e2.symm.trans ec')
    refine ⟨_, results_tmp rfl _ _ _, .slice vo _ vc, rfl, ?_, hB.trans (belowK_b (w := w) (Nat.le_refl _) W D _ _ (by omega) hK rfl rfl)⟩
    rw [← HEL.out]
    rw [List.length_map] at o2
    exact o2.mono (Nat.le_succ _)
  case stop =>
    rintro D c pre W _ _ h _
    exact h.elim
theorem collect_any (s : BitVec 64) (Bm : Nat) (w : World) (hBm : w.cell? ⟨Bm, 0, none⟩ = some (.int .u64 (s.toNat : Int))) (hT : Tab64 w) (ht0 : 0 < w.heap.size) (hlen : (elems64 s).length ≤ 64) :
    Calls Tryd.prog 57 #[.func (.func 80) #[] #[.pointer (some ⟨Bm, 0, none⟩)]] w fun e w' => ∃ v, e = .returned v ∧ OwnI w' w.heap.size v ((elems64 s).map (·.val)) ∧ Below w.heap.size w w' := by
  have h := appendSeq_any s Bm w hBm hT ht0 hlen
  have H := Lib.hid h
  clear h hBm hT ht0 hlen
  go_enter Tryd.func57, Tryd.ntmps57
  go_wp2_with (go_at_call 79; refine H.out.mono ?_; rintro e w2 ⟨v, rfl, ho, hb⟩; obtain ⟨vo, vc, hv⟩ := ho.slice; subst hv)
  go_returns
  rw [List.length_map] at ho
  exact ⟨.slice vo _ vc, rfl, ho, hb⟩
end Go.Proofs.YtmobilppakjihaaDoor

/-
  Where what is matched from a place on can end (Ends).
-/
namespace Go.Proofs.YtmobilppakjihaaDoor
open Go.RowKit Go.Sort
def endL (T : Tb) (a : Nat) : List Nat := (elems64 (T a)).map (·.val)
def enL (d : Nd) (k : Fo) (ss : List Snd) (at' : Int) : List Nat := if maE d k ss at' = 0 then endL (tabP ss d k) at'.toNat else []
theorem fl64_len (r : BitVec 64) : ∀ (f j : Nat), (fl64 r f j).length ≤ f
  | 0, j => by simp [fl64]
  | f + 1, j => by
    have := fl64_len r f (j + 1)
    unfold fl64
    split <;> (try split) <;> simp <;> omega
theorem elems64_len (r : BitVec 64) : (elems64 r).length ≤ 64 := fl64_len r 64 0
set_option maxRecDepth 100000 in
set_option maxHeartbeats 4000000 in
theorem ends_anyP (d : Nd) (k : Fo) (ss : List Snd) (sv : Value) (at' : Int) (w : World) (hp : Pt w d k) (hW : Wd w sv ss) (hT : Tab64 w) (ht0 : 0 < w.heap.size) :
    Calls Tryd.prog 23 #[ndV d, sv, .int .i64 at'] w fun e w' => ∃ v, e = .returned (.tuple #[v, .int .i64 (maE d k ss at')]) ∧ OwnI w' w.heap.size v (enL d k ss at') ∧ Below w.heap.size w w' := by
  have hma := fun (W : World) (hb : Below w.heap.size w W) => matchAt_any d k ss sv at' W (hp.below hb) (hW.below hb) (hT.below hb ht0) (by have := hb.size; omega)
  have htab : Hid (∀ W, Below w.heap.size w W → Tab64 W ∧ 0 < W.heap.size) := fun W hb => ⟨hT.below hb ht0, by have := hb.size; omega⟩
  obtain ⟨wo, wc, rfl, lw, mw, -⟩ := hW.open
  have hml := maxLen_lt (Nat.le_trans lw mw)
  obtain ⟨ao, cap, hsl, -, -, -⟩ := hp.open
  obtain ⟨T, hT0⟩ : ∃ T, maT d k ss at' = T := ⟨_, rfl⟩
  obtain ⟨R, hR⟩ : ∃ R, enL d k ss at' = R := ⟨_, rfl⟩
  obtain ⟨E, hE⟩ : ∃ E, maE d k ss at' = E := ⟨_, rfl⟩
  have hR1 : E = 0 → R = endL T at'.toNat := fun h => by rw [← hR, enL, if_pos (hE.trans h), ← hT0, maT, if_pos (hE.trans h)]
  have hR2 : E ≠ 0 → R = [] := fun h => by rw [← hR, enL, if_neg (by rw [hE]; exact h)]
  have h32 : E = 0 → ∃ e : Nat, at' = e ∧ e ≤ 32 := fun h => by
    obtain ⟨h1, h2, h3⟩ := maE_ok (hE.trans h)
    have := chk_len (node_ok h1).2
    exact ⟨at'.toNat, by omega, by omega⟩
  rw [hE, hR]
  rw [hT0, hE] at hma
  clear hT0 hR hE
  obtain ⟨L, hL⟩ : ∃ L, ss.length = L := ⟨_, rfl⟩
  rw [hL] at hma hml ⊢
  clear hL
  obtain ⟨kind, ⟨p, m⟩, neg, mi, ma, sl⟩ := d
  simp only at hsl
  subst hsl
  obtain ⟨kl, hkl⟩ : ∃ kl, k.len = kl := ⟨_, rfl⟩
  rw [hkl] at hma ⊢
  unfold ndV at hma ⊢
  simp only at hma ⊢
  have HMA := Lib.hid hma
  have HZ := Lib.hid tbR_zero
  clear hma hp hW hT hkl lw mw
  go_enter Tryd.func23, Tryd.ntmps23
  go_wp2_with fail
  go_at_call 56
  refine Gives.then (HMA.out _ (by go_grown)) ?_
  intro w1 hb1
  have hz1 : w.heap.size + 1 ≤ w1.heap.size := by have := hb1.size; rwa [World.size_alloc] at this
  have HB1 := Lib.hid (((Below.refl _ w).alloc (Nat.le_refl _) (.cells #[.int .i64 kind, .int .u32 (p.toNat : Int), .int .u32 (m.toNat : Int), .bool neg, .int .i64 mi, .int .i64 ma, .slice ao kl cap] 27)).trans (hb1.mono (by rw [World.size_alloc]; omega)))
  have P8 := Lib.hid ((TbAt.new w1 zeroT).setRow T)
  have HB2 := Lib.hid (below_setRow (g := w1.heap.size) (HB1.out.alloc HB1.out.size (.cells (tbR zeroT) 74)) (by omega) (tbR T))
  have hsz2 : ((w1.alloc (.cells (tbR zeroT) 74)).setRow w1.heap.size (tbR T)).heap.size = w1.heap.size + 1 := by rw [setRow_size, World.size_alloc]
  clear hb1 HMA
  by_cases hE : E = 0
  · subst hE
    obtain ⟨e, rfl, he⟩ := h32 rfl
    have hR := hR1 rfl
    rw [Int.toNat_natCast, endL] at hR
    subst hR
    clear h32 hR1 hR2
    have c0 := P8.out.cell (a := e) (by omega)
    have he33 : (e : Int) < 33 := by omega
    obtain ⟨x, hx⟩ : ∃ x, T e = x := ⟨_, rfl⟩
    rw [hx] at c0
    have HX := Lib.hid hx
    clear hx
    go_wp2_with (first | (rw [← HZ.out]; refine wpList_st rfl (.tmp 8) (.tmp 15) rfl w1.heap.size zeroT _ rfl rfl (TbAt.new w1 zeroT) ?_))
    generalize ((w1.alloc (.cells (tbR zeroT) 74)).setRow w1.heap.size (tbR T)) = W2 at *
    go_at_call 58
    clear hsz2
    refine (each_any x _).mono ?_
    rintro e' w3 ⟨rfl, rfl⟩
    have hB3 : Below w.heap.size w (W2.alloc (.cells #[.int .u64 (x.toNat : Int)] 72)) := HB2.out.alloc HB2.out.size _
    obtain ⟨s1, s2⟩ := htab.out _ hB3
    have hcol := collect_any x W2.heap.size (W2.alloc (.cells #[.int .u64 (x.toNat : Int)] 72)) (cell_block (World.alloc_heap_new W2 _) rfl) s1 s2 (elems64_len x)
    have HCOL := Lib.hid hcol; have HB3 := Lib.hid hB3
    clear hcol hB3 s1 s2 P8 c0 HB1
    go_wp2_with (go_at_call 57; refine HCOL.out.mono ?_; rintro e'' w4 ⟨v, rfl, ho, hb⟩; obtain ⟨vo, vc, hv⟩ := ho.slice; subst hv)
    go_returns
    rw [List.length_map] at ho
    rw [HX.out]
    exact ⟨.slice vo _ vc, rfl, ho.mono HB3.out.size, HB3.out.trans (hb.mono HB3.out.size)⟩
  · have hR := hR2 hE
    subst hR
    clear h32 hR1 hR2
    go_wp2_with (first | (rw [← HZ.out]; refine wpList_st rfl (.tmp 8) (.tmp 15) rfl w1.heap.size zeroT _ rfl rfl (TbAt.new w1 zeroT) ?_))
    go_returns
    exact ⟨_, rfl, OwnI.nil _ _, HB2.out⟩
end Go.Proofs.YtmobilppakjihaaDoor

/-
  The small functions of the statements about patterns.
-/
namespace Go.Proofs.YtmobilppakjihaaDoor
open Go.RowKit Go.Sort
theorem lp_any (w : World) : Gives 44 #[] w (.agg #[.int .u32 2, .int .u32 5]) := by
  unfold Gives
  go_enter Tryd.func44, Tryd.ntmps44
  go_wp2
  go_returns
  exact ⟨rfl, by go_grown⟩
theorem la_any (w : World) : Gives 54 #[] w (.agg #[.int .u32 4, .int .u32 2]) := by
  unfold Gives
  go_enter Tryd.func54, Tryd.ntmps54
  go_wp2
  go_returns
  exact ⟨rfl, by go_grown⟩
theorem lv_any (w : World) : Gives 43 #[] w (.agg #[.int .i64 1, .int .u32 4, .int .u32 0, .bool false, .int .i64 0, .int .i64 0, .slice none 0 0]) := by
  unfold Gives
  go_enter Tryd.func43, Tryd.ntmps43
  go_wp2
  go_returns
  exact ⟨rfl, by go_grown⟩
theorem lc_any (w : World) : Gives 55 #[] w (.agg #[.int .i64 1, .int .u32 2, .int .u32 0, .bool false, .int .i64 0, .int .i64 0, .slice none 0 0]) := by
  unfold Gives
  go_enter Tryd.func55, Tryd.ntmps55
  go_wp2
  go_returns
  exact ⟨rfl, by go_grown⟩
theorem lseq_any (ao : Option Addr) (n cap : Nat) (w : World) : Gives 41 #[.slice ao n cap] w (.agg #[.int .i64 3, .int .u32 0, .int .u32 0, .bool false, .int .i64 0, .int .i64 0, .slice ao n cap]) := by
  unfold Gives
  go_enter Tryd.func41, Tryd.ntmps41
  go_wp2
  go_returns
  exact ⟨rfl, by go_grown⟩
theorem a3n' (w : World) (A B C : Obj) : (((w.alloc A).alloc B).alloc C).heap[w.heap.size + 1 + 1]? = some C := a3n w A B C
theorem pt_one {W : World} {d : Nd} {k : Fo} {B : Nat} {d' : Nd} (h : W.heap[B]? = some (.cells #[.int .i64 d.kind, .int .u32 (d.is.1.toNat : Int), .int .u32 (d.is.2.toNat : Int), .bool d.neg, .int .i64 d.mi, .int .i64 d.ma, d.sl] 27)) (hp : Pt W d k) (hs : d'.sl = .slice (some ⟨B, 0, none⟩) 1 1) : Pt W d' (.cons d k .nil) := by
  refine .inr ⟨B, 0, 1, hs, Nat.le_refl 1, by decide, (Array.getElem?_eq_some_iff.1 h).1, ?_⟩
  exact ⟨cell_block h rfl, cell_block h rfl, cell_block h rfl, cell_block h rfl, cell_block h rfl, cell_block h rfl, cell_block h rfl, hp, trivial⟩
set_option maxRecDepth 100000 in
set_option maxHeartbeats 2000000 in
theorem lrep_any (d : Nd) (k : Fo) (lo hi : Int) (w : World) (hp : Pt w d k) : Calls Tryd.prog 42 #[ndV d, .int .i64 lo, .int .i64 hi] w fun e w' => ∃ B, e = .returned (.agg #[.int .i64 5, .int .u32 0, .int .u32 0, .bool false, .int .i64 lo, .int .i64 hi, .slice (some ⟨B, 0, none⟩) 1 1]) ∧ Pt w' ⟨5, (0#32, 0#32), false, lo, hi, .slice (some ⟨B, 0, none⟩) 1 1⟩ (.cons d k .nil) ∧ Below w.heap.size w w' := by
  obtain ⟨ao, cap, hsl, -, -, -⟩ := hp.open
  obtain ⟨kind, ⟨p, m⟩, neg, mi, ma, sl⟩ := d
  simp only at hsl
  subst hsl
  unfold ndV
  simp only
  have HP := Lib.hid hp
  clear hp
  go_enter Tryd.func42, Tryd.ntmps42
  go_wp2
  go_returns
  have hb : ∀ A B C : Obj, Below w.heap.size w (((w.alloc A).alloc B).alloc C) := fun A B C => by go_grown
  refine ⟨_, rfl, pt_one (a3n' w _ _ _) (HP.out.below (hb _ _ _)) rfl, hb _ _ _⟩
/-- The equality of two lists of places. -/
theorem places_any (xs ys : List Nat) (v u : Value) (w : World) (hv : Is w v xs) (hu : Is w u ys) : Gives 27 #[v, u] w (.bool (decide (xs = ys))) := by
  unfold Gives
  obtain ⟨ao, ac, rfl, a1, a2, HA⟩ := hv.open
  obtain ⟨bo, bc, rfl, b1, b2, HB⟩ := hu.open
  have la := maxLen_lt (Nat.le_trans a1 a2)
  have lb := maxLen_lt (Nat.le_trans b1 b2)
  generalize hR : decide (xs = ys) = R
  have HR := Lib.hid hR
  clear hR hv hu a1 a2 b1 b2
  by_cases hl : xs.length = ys.length
  · have HA := Lib.hid HA; have HB := Lib.hid HB
    obtain ⟨N, hN⟩ : ∃ N, xs.length = N := ⟨_, rfl⟩
    have hM : ys.length = N := by omega
    rw [hN] at la ⊢
    rw [hM] at lb ⊢
    have HN := Lib.hid hN; have HM := Lib.hid hM
    clear hN hM hl
    go_enter Tryd.func27, Tryd.ntmps27
    go_wp2_with fail
    go_loopw [5] (fun i wr => ∃ k : Nat, k ≤ N ∧ i = .int .i64 (k : Int) ∧ xs.take k = ys.take k ∧ Below w.heap.size w wr) (fun i _ => N - (intOf i).toNat)
    case atStart => exact ⟨0, by omega, rfl, by simp, by go_grown⟩
    case round =>
      obtain ⟨k, hk, rfl, hpre, hw⟩ := hrel
      by_cases hlt : k < N
      · obtain ⟨b, rfl, lb1, d1⟩ := HA.out k (by rw [HN.out]; exact hlt)
        obtain ⟨c, rfl, lc1, d2⟩ := HB.out k (by rw [HM.out]; exact hlt)
        have d1 := (hw.cell (p := ⟨b, k, none⟩) lb1).trans d1
        have d2 := (hw.cell (p := ⟨c, k, none⟩) lc1).trans d2
        have hsx := List.take_succ_eq_append_getElem (l := xs) (i := k) (by rw [HN.out]; exact hlt)
        have hsy := List.take_succ_eq_append_getElem (l := ys) (i := k) (by rw [HM.out]; exact hlt)
        have hne : xs[k]'(by rw [HN.out]; exact hlt) ≠ ys[k]'(by rw [HM.out]; exact hlt) → R = false := fun h => by
          rw [← HR.out, decide_eq_false_iff_not]
          intro e
          subst e
          exact h rfl
        generalize xs[k]'(by rw [HN.out]; exact hlt) = x at *
        generalize ys[k]'(by rw [HM.out]; exact hlt) = y at *
        have HW := Lib.hid hw; have HP := Lib.hid hpre; have HX := Lib.hid hsx; have HY := Lib.hid hsy; have HNE := Lib.hid hne
        clear hw hpre hsx hsy hne HA HB
        by_cases he : x = y
        · subst he
          go_wp2_with fail
          go_region
          all_goals go_wp2_with fail
          all_goals go_roundw
          all_goals first
            | exact ⟨k + 1, by omega, by go_num, by rw [HX.out, HY.out, HP.out], HW.out.drew⟩
            | exact ⟨k + 1, by omega, by go_num, by rw [HX.out, HY.out, HP.out], HW.out⟩
            | (simp [intOf]; omega)
        · have hne := HNE.out he
          subst hne
          have hei : ¬ ((x : Int) = (y : Int)) := by omega
          clear he
          go_wp2_with fail
          go_region
          all_goals go_wp2_with fail
          all_goals go_returns
          all_goals exact ⟨rfl, HW.out.drew⟩
      · obtain rfl : k = N := by omega
        have hR : R = true := by
          rw [← HR.out, decide_eq_true_iff]
          rw [← HN.out, List.take_length, HN.out, ← HM.out, List.take_length] at hpre
          exact hpre
        subst hR
        have HW := Lib.hid hw
        clear hw hpre hlt HA HB
        go_wp2_with fail
        go_returns
        exact ⟨rfl, HW.out⟩
  · have hR : R = false := by
      rw [← HR.out, decide_eq_false_iff_not]
      intro e
      exact hl (by rw [e])
    subst hR
    clear HA HB
    go_enter Tryd.func27, Tryd.ntmps27
    go_wp2_with fail
    go_returns
    exact ⟨rfl, by go_grown⟩
end Go.Proofs.YtmobilppakjihaaDoor

/-
  The examples of the statements about patterns, computed.
-/
namespace Go.Proofs.YtmobilppakjihaaDoor
open Go.RowKit Go.Sort
def sp : Snd := (2#32, 5#32)
def sa : Snd := (4#32, 2#32)
def apa : List Snd := [sa, sp, sa]
def ppa : List Snd := [sp, sp, sa]
def papa : List Snd := [sp, sa, sp, sa]
def vN : Nd := ⟨1, (4#32, 0#32), false, 0, 0, .slice none 0 0⟩
def cN : Nd := ⟨1, (2#32, 0#32), false, 0, 0, .slice none 0 0⟩
def eN : Nd := ⟨6, (0#32, 0#32), false, 0, 0, .slice none 0 0⟩
def rN (lo hi : Int) (sl : Value) : Nd := ⟨5, (0#32, 0#32), false, lo, hi, sl⟩
def qN (sl : Value) : Nd := ⟨3, (0#32, 0#32), false, 0, 0, sl⟩
def one (d : Nd) : Fo := .cons d .nil .nil
def cvcv : Fo := .cons cN .nil (.cons vN .nil (.cons cN .nil (.cons vN .nil .nil)))
def vE : Fo := .cons vN .nil (.cons eN .nil .nil)
theorem tb_ext {n : Nat} {x y : Tb} (hx : OkT n x) (hy : OkT n y) (h : ∀ a : Fin (n + 1), x a.val = y a.val) : x = y := by
  funext a
  by_cases ha : a ≤ n
  · exact h ⟨a, by omega⟩
  · rw [hx.beyond (by omega), hy.beyond (by omega)]
theorem wk1E : maE vN .nil apa 0 = 0 := by decide +kernel
theorem wk1 : enL vN .nil apa 0 = [1] := by decide +kernel
def xC : Tb := tabP ppa cN .nil
theorem okC : OkT 3 xC := OkT.pat (ss := ppa) (by decide) cN .nil
theorem tabP_rep (ss : List Snd) (i : Snd) (b : Bool) (lo hi : Int) (sl : Value) (d : Nd) (k r : Fo) : tabP ss ⟨5, i, b, lo, hi, sl⟩ (.cons d k r) = repT ss.length (tabP ss d k) lo.toNat hi := by
  unfold tabP
  rw [tabF]
  generalize tabN ss d (tabF ss k) = X
  generalize tabF ss r = L
  unfold tabN
  simp
theorem repC (sl : Value) : tabP ppa (rN 0 (-1) sl) (one cN) = unT 3 xC 0 2 := by
  have h : tabP ppa (rN 0 (-1) sl) (one cN) = repT ppa.length (tabP ppa cN .nil) (0 : Int).toNat (-1) := tabP_rep ppa _ _ _ _ _ _ _ _
  have e : ppa.length = 3 := rfl
  have z : (0 : Int).toNat = 0 := rfl
  rw [h, e, z]
  refine rep_stop (x := xC) (by unfold bigN; omega) (.inl rfl) ?_
  refine tb_ext (OkT.un (by omega) okC 0 3) (OkT.un (by omega) okC 0 2) ?_
  decide +kernel
theorem wk2p (sl : Value) : pkE (rN 0 (-1) sl) (one cN) = 0 := by
  have : pkE (rN 0 (-1) (.slice none 0 0)) (one cN) = 0 := by decide +kernel
  exact this
theorem wk2m (sl : Value) : mtE (rN 0 (-1) sl) (one cN) ppa = 0 := by
  unfold mtE
  rw [wk2p, if_pos rfl]
  decide +kernel
theorem wk2E (sl : Value) : maE (rN 0 (-1) sl) (one cN) ppa 0 = 0 := by
  unfold maE
  rw [wk2m, if_pos rfl]
  decide +kernel
theorem wk2 (sl : Value) : enL (rN 0 (-1) sl) (one cN) ppa 0 = [0, 1, 2] := by
  unfold enL
  rw [wk2E, if_pos rfl, repC]
  decide +kernel
theorem wk3E (sl : Value) : maE (rN 0 (-1) sl) (one cN) ppa 2 = 0 := by
  unfold maE
  rw [wk2m, if_pos rfl]
  decide +kernel
theorem wk3 (sl : Value) : bgL (rN 0 (-1) sl) (one cN) ppa 2 = [0, 1, 2] := by
  unfold bgL
  rw [wk3E, if_pos rfl, repC]
  decide +kernel
theorem wk4p (sl : Value) : pkE (qN sl) cvcv = 0 := by
  have : pkE (qN (.slice none 0 0)) cvcv = 0 := by decide +kernel
  exact this
theorem wk4E (sl : Value) : mtE (qN sl) cvcv papa = 0 := by
  unfold mtE
  rw [wk4p, if_pos rfl]
  decide +kernel
theorem wk4 (sl : Value) : mtsB (qN sl) cvcv papa = true := by
  unfold mtsB
  rw [wk4E]
  show (decide ((0 : Int) = 0) && (tabP papa (qN (.slice none 0 0)) cvcv 0).getLsbD 4) = true
  decide +kernel
theorem wk5p (sl : Value) : pkE (qN sl) vE = 0 := by
  have : pkE (qN (.slice none 0 0)) vE = 0 := by decide +kernel
  exact this
theorem wk5m (sl : Value) : mtE (qN sl) vE apa = 0 := by
  unfold mtE
  rw [wk5p, if_pos rfl]
  decide +kernel
theorem wk5E (sl : Value) : maE (qN sl) vE apa 0 = 0 := by
  unfold maE
  rw [wk5m, if_pos rfl]
  decide +kernel
theorem wk5 (sl : Value) : fiR (qN sl) vE apa 0 = (2, 3, true) := by
  unfold fiR
  rw [wk5E, if_pos rfl]
  show fdR (tabP apa (qN (.slice none 0 0)) vE) 0 4 = (2, 3, true)
  decide +kernel
theorem wk6p (sl : Value) : pkE (rN 0 1 sl) (one vN) = 0 := by
  have : pkE (rN 0 1 (.slice none 0 0)) (one vN) = 0 := by decide +kernel
  exact this
theorem wk6 (sl : Value) : emB (rN 0 1 sl) (one vN) = true := by
  unfold emB mtE
  rw [wk6p, if_pos rfl]
  show (decide (chk z2 = 0) && (tabP z2 (rN 0 1 (.slice none 0 0)) (one vN) 1).getLsbD 1) = true
  decide +kernel
def bN : Nd := ⟨1, (0#32, 0#32), false, 1, 0, .slice none 0 0⟩
theorem wk7 : pkE bN .nil = 2 := by decide +kernel
end Go.Proofs.YtmobilppakjihaaDoor
