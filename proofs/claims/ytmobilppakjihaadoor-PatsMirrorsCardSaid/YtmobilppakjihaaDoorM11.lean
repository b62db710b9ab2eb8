/-
  Lemmas that the theorem of this claim rests on: 3 texts, one behind the other.
-/
import Derived.Test.YtmobilppakjihaaDoorM10
import Derived.Test.YtmobilppakjihaaDoorM7
set_option linter.unusedSimpArgs false
set_option linter.unusedVariables false
/-
  The places of a set as an iterator; rows inside a fence; marks.
-/
namespace Go.Proofs.YtmobilppakjihaaDoor
open Go.RowKit Go.Shelf Go.Sort
attribute [local go_sem] Oper.semAt_some
theorem mem_fl64 (r : BitVec 64) (x : Fin 64) : ∀ (f j : Nat), j + f ≤ 64 → (x ∈ fl64 r f j ↔ j ≤ x.val ∧ x.val < j + f ∧ r.getLsbD x.val = true)
  | 0, j, _ => by simp [fl64]; omega
  | f + 1, j, h => by
    have ih := mem_fl64 r x f (j + 1) (by omega)
    have hj : (Fin.ofNat 64 j).val = j := Nat.mod_eq_of_lt (by omega)
    unfold fl64
    split
    · rename_i hb
      rw [List.mem_cons, ih]
      constructor
      · rintro (e | ⟨h1, h2, h3⟩)
        · subst e; rw [hj]; exact ⟨Nat.le_refl _, by omega, hb⟩
        · exact ⟨by omega, by omega, h3⟩
      · rintro ⟨h1, h2, h3⟩
        by_cases e : x.val = j
        · exact .inl (Fin.ext (by rw [hj]; exact e))
        · exact .inr ⟨by omega, by omega, h3⟩
    · rename_i hb
      rw [ih]
      constructor
      · rintro ⟨h1, h2, h3⟩; exact ⟨by omega, by omega, h3⟩
      · rintro ⟨h1, h2, h3⟩
        refine ⟨?_, by omega, h3⟩
        by_cases e : x.val = j
        · rw [e] at h3; exact absurd h3 hb
        · omega
theorem mem_elems64 (r : BitVec 64) (x : Fin 64) : x ∈ elems64 r ↔ r.getLsbD x.val = true := by
  unfold elems64
  rw [mem_fl64 r x 64 0 (by omega)]
  exact ⟨fun h => h.2.2, fun h => ⟨by omega, by have := x.isLt; omega, h⟩⟩
/-- What y has at some places. -/
def orL (y : Tb) (l : List (Fin 64)) : BitVec 64 := l.foldl (fun acc b => acc ||| y b.val) 0#64
theorem orL_snoc (y : Tb) (l : List (Fin 64)) (b : Fin 64) : orL y (l ++ [b]) = orL y l ||| y b.val := by simp [orL, List.foldl_append]
theorem orL_bit (y : Tb) (c : Nat) (l : List (Fin 64)) : (orL y l).getLsbD c = true ↔ ∃ b ∈ l, (y b.val).getLsbD c = true := by
  have key : ∀ (l : List (Fin 64)) (a : BitVec 64), (l.foldl (fun acc b => acc ||| y b.val) a).getLsbD c = true ↔ a.getLsbD c = true ∨ ∃ b ∈ l, (y b.val).getLsbD c = true := by
    intro l
    induction l with
    | nil => intro a; simp
    | cons b l ih =>
      intro a
      rw [List.foldl_cons, ih, BitVec.getLsbD_or, Bool.or_eq_true]
      simp only [List.mem_cons, exists_eq_or_imp]
      exact or_assoc
  unfold orL
  rw [key]; simp
theorem orL_elems {y : Tb} {s : BitVec 64} {m : Nat} (hm : m ≤ 64) (h : ∀ b, s.getLsbD b = true → b < m) : orL y (elems64 s) = orU y s m := by
  apply BitVec.eq_of_getLsbD_eq
  intro c _
  rw [Bool.eq_iff_iff, orL_bit, orU_bit]
  constructor
  · rintro ⟨b, h1, h2⟩
    rw [mem_elems64] at h1
    exact ⟨b.val, h _ h1, h1, h2⟩
  · rintro ⟨b, h1, h2, h3⟩
    exact ⟨⟨b, by omega⟩, (mem_elems64 _ _).2 h2, h3⟩
/-- Places, as they are yielded. -/
abbrev Ex (s : BitVec 64) := { b : Fin 64 // b ∈ elems64 s }
theorem each_stops (s : BitVec 64) (n : Nat) (hn : 1 ≤ n) (Bn n₀ : Nat) (w0 : World) (hc : w0.cell? ⟨Bn, 0, none⟩ = some (.int .u64 (s.toNat : Int))) (hg : 0 < n₀) (hn0 : n₀ ≤ w0.heap.size) (hT : Tab64 w0) :
    SeqStopsK Fence.wide n Tryd.prog 80 #[.pointer (some ⟨Bn, 0, none⟩)] (fun x : Ex s => #[.int .i64 (x.1.val : Int)]) (Below n₀) (fun ys => ys.map (·.1) = elems64 s) (fun pre => pre.map (·.1) <+: elems64 s) (elems64 s).length w0 := by
  intro lid J Jx W hW hJ hJx hY h0
  have hlt : Bn < w0.heap.size := World.block_lt_of_cell? _ _ hc
  refine (iter_in64 n hn lid Bn n₀ s (fun pre W => ∃ pre' : List (Ex s), pre'.map (·.1) = pre ∧ J pre' W) (fun pre W => ∃ pre' : List (Ex s), pre'.map (·.1) = pre ∧ Jx pre' W) ?_ W ((hW.cell (p := ⟨Bn, 0, none⟩) hlt).trans hc) hg (hT.below hW (by omega)) ⟨[], rfl, h0⟩).mono ?_
  · rintro pre x W hx ⟨pre', rfl, hj⟩ hlen
    refine YieldAt.mono (hY pre' ⟨x, hx⟩ W hj (by simpa using hlen)) ?_
    rintro e W' (⟨he, hj', hk⟩ | ⟨he, hj'⟩)
    · exact .inl ⟨he, ⟨pre' ++ [⟨x, hx⟩], by simp, hj'⟩, hk⟩
    · exact .inr ⟨he, ⟨pre' ++ [⟨x, hx⟩], by simp, hj'⟩⟩
  · rintro e W' ⟨hv, (⟨ys, rfl, ys', e1, hj⟩ | ⟨pre, hpre, pre', rfl, hj⟩)⟩
    · exact ⟨hv, .inl ⟨ys', e1, hj⟩⟩
    · exact ⟨hv, .inr ⟨pre', hpre, hj⟩⟩
set_option maxHeartbeats 400000 in
theorem each_any (s : BitVec 64) (w : World) :
    Calls Tryd.prog 58 #[.int .u64 (s.toNat : Int)] w fun e w' => e = .returned (.func (.func 80) #[] #[.pointer (some ⟨w.heap.size, 0, none⟩)]) ∧ w' = w.alloc (.cells #[.int .u64 (s.toNat : Int)] 72) := by
  go_enter Tryd.func58, Tryd.ntmps58
  go_wp2
  go_returns
  exact ⟨rfl, rfl⟩
theorem wpListIn_ld {F : Fence} {n : Nat} {ops : Array Oper} {rest : List Oper} {o : Oper} {a : Act} {w : World} {Q : Exit → Act → World → Prop} (hgd : o.guard = none) (x : Operand) (ho : o.op = .load 74 x) (g : Nat) (T : Tb) (hx : a.eval x = .pointer (some ⟨g, 0, none⟩)) (hg : TbAt w g T)
    (h : wpListIn F n Tryd.prog ops Q rest (a.put o.dst (.agg (tbR T))) w) : wpListIn F n Tryd.prog ops Q (o :: rest) a w := by
  refine wpListIn_plain hgd fun K hK => ?_
  unfold Oper.wpIn
  refine ⟨?_, ?_⟩
  · simp [Oper.about, ho]
  · rw [Oper.semAt_plain F _ _ (by rw [ho]; intro c hc; cases hc)]
    have := ld_rowA (TbAt.row hg)
    rw [TbAt.val hg] at this
    simp only [execOp, ho, hx, Sem.run_bind, this, Result.andThen]
    exact hK _ _ h
theorem wpListIn_st {F : Fence} {n : Nat} {ops : Array Oper} {rest : List Oper} {o : Oper} {a : Act} {w : World} {Q : Exit → Act → World → Prop} (hgd : o.guard = none) (x y : Operand) (ho : o.op = .store 74 x y) (g : Nat) (T T' : Tb) (hx : a.eval x = .pointer (some ⟨g, 0, none⟩)) (hy : a.eval y = .agg (tbR T')) (hg : TbAt w g T)
    (h : wpListIn F n Tryd.prog ops Q rest (a.put o.dst undef) (w.setRow g (tbR T'))) : wpListIn F n Tryd.prog ops Q (o :: rest) a w := by
  refine wpListIn_plain hgd fun K hK => ?_
  unfold Oper.wpIn
  refine ⟨?_, ?_⟩
  · simp [Oper.about, ho]
  · rw [Oper.semAt_plain F _ _ (by rw [ho]; intro c hc; cases hc)]
    have := st_rowA (x := T') (TbAt.row hg)
    simp only [execOp, ho, hx, hy, Sem.run_bind, this, Result.andThen]
    exact hK _ _ h
theorem TbAt.grown {X Y : World} {row : Option Nat} {b : Nat} {x : Tb} (h : TbAt X b x) (hg : X.grownBy Y row) (hr : ∀ r, row = some r → ∃ o : Obj, X.heap[r]? = some o ∧ o.isCells = false) : TbAt Y b x := by
  refine (hg.block b h.lt ?_).trans h
  intro e
  obtain ⟨o, ho, hc⟩ := hr b e.symm
  unfold TbAt at h
  rw [h] at ho
  cases ho
  cases hc
theorem run_idx (x : Tb) (k : Nat) (hk : k < 33) (w : World) : (Instr.index 74 (.agg (tbR x)) (.int .i64 (k : Int))).run Tryd.prog w = .ok (.int .u64 ((x k).toNat : Int)) w := by
  have hg := tbR_get x k hk
  have hu := Tryd.underlying74
  have hk2 : (k : Int) < 33 := by omega
  have hk0 : (0 : Int) ≤ (k : Int) := by omega
  have h1 : Tryd.prog.cellsOf 72 = 1 := by kernel_rfl
  unfold Instr.index
  simp [go_sem, hg, hk2]
  intro h
  omega
/-- The mark of a loop over a function. -/
def mkD (D : Nat) : Deferred := { target := .collected D, args := #[] }
/-- The blocks of some marks. -/
def Marks (Ds : List Nat) (W : World) : Prop := Ds.Nodup ∧ ∀ D ∈ Ds, W.heap[D]? = some (.deferred (some []))
theorem Marks.others {Ds : List Nat} {A B : World} (h : Marks Ds A) (k : KeepsOthers A B) : Marks Ds B := ⟨h.1, fun D hD => k.same D _ (h.2 D hD) rfl⟩
theorem Marks.lt {Ds : List Nat} {W : World} (h : Marks Ds W) : ∀ D ∈ Ds, D < W.heap.size := fun D hD => (Array.getElem?_eq_some_iff.1 (h.2 D hD)).1
theorem Marks.grown {Ds : List Nat} {X Y : World} {row : Option Nat} {B : Nat} (h : Marks Ds X) (hB : ∀ D ∈ Ds, D < B) (hg : X.grownBy Y row) (hr : ∀ r, row = some r → B ≤ r) : Marks Ds Y :=
  ⟨h.1, fun D hD => (hg.block D (h.lt D hD) (fun e => by have := hr D e.symm; have := hB D hD; omega)).trans (h.2 D hD)⟩
theorem leaves_marks {fn : Func} {F : Fence} {n : Nat} {P : Program} {tmps : Array Value} {R : Ending → World → Prop} (Fin : World → Prop) (n0 : Nat) (hfin : ∀ w, Fin w → LeavesIn F n P fn tmps R [] .returning w) (hclose : ∀ w D, Fin w → n0 ≤ D → w.heap[D]? = some (.deferred (some [])) → Fin (w.putObj D (.deferred none))) :
    ∀ (Ds : List Nat) (w : World), Fin w → Marks Ds w → (∀ D ∈ Ds, n0 ≤ D) → LeavesInM F n P fn tmps R (Ds.map mkD) .returning w
  | [], w, hF, _, _ => hfin w hF
  | D :: Ds, w, hF, hM, hn => by
    have hD := hM.2 D (by simp)
    refine ⟨by simp, .inl ⟨D, _, rfl, run_takeDeferred hD, ?_⟩⟩
    refine leaves_marks Fin n0 hfin hclose Ds _ (hclose w D hF (hn D (by simp)) hD) ⟨(List.nodup_cons.1 hM.1).2, fun E hE => ?_⟩ (fun E hE => hn E (by simp [hE]))
    have hne : E ≠ D := fun e => (List.nodup_cons.1 hM.1).1 (e ▸ hE)
    exact (World.putObj_heap_other hne).trans (hM.2 E (by simp [hE]))
end Go.Proofs.YtmobilppakjihaaDoor

/-
  One array of places, and then another one.
-/
namespace Go.Proofs.YtmobilppakjihaaDoor
open Go.RowKit Go.Shelf Go.Sort
attribute [local go_sem] Oper.semAt_some
theorem ko_setRow {W : World} {g : Nat} {x : Tb} (h : TbAt W g x) (cs : Array Value) : KeepsOthers W (W.setRow g cs) := ⟨by simp, fun k o hk ho => by
  have hne : k ≠ g := fun e => by subst e; unfold TbAt at h; rw [h] at hk; cases hk; cases ho
  exact (_root_.Go.setRow_other W g k cs hne).trans hk⟩
theorem ite_new {s : BitVec 64} {y T : Tb} {k : Nat} {M v : BitVec 64} {pre : List (Ex s)} {b : Fin 64} {hb : b ∈ elems64 s} (h : orL y (pre.map (·.1) ++ [b]) = v) :
    (fun c => if c = k then v else (fun c => if c = k then M else if c < k then T c else 0#64) c) = fun c => if c = k then orL y ((pre ++ [(⟨b, hb⟩ : Ex s)]).map (fun z => z.1)) else if c < k then T c else 0#64 := by
  funext c
  by_cases hc : c = k
  · simp only [if_pos hc, List.map_append, List.map_cons, List.map_nil, h]
  · simp only [if_neg hc]
set_option maxHeartbeats 4000000 in
set_option maxRecDepth 100000 in
theorem pthen_any (n : Nat) (hn : n ≤ 32) (x y : Tb) (hx : OkT n x) (w : World) (hT : Tab64 w) (ht0 : 0 < w.heap.size) : Gives 110 #[.agg (tbR x), .agg (tbR y)] w (.agg (tbR (thnT n x y))) := by
  unfold Gives
  have hel : ∀ k, orL y (elems64 (x k)) = thnT n x y k := fun k => orL_elems (by omega) (fun b hb => by have := hx k b hb; omega)
  have hmem : ∀ k (b : Fin 64), b ∈ elems64 (x k) → b.val < 33 := fun k b hb => by
    rw [mem_elems64] at hb
    have := hx k b.val hb
    omega
  have HEL := Lib.hid hel; have HMEM := Lib.hid hmem; have HT := Lib.hid hT; have HT0 := Lib.hid ht0
  generalize thnT n x y = T at *
  clear hel hmem hT ht0 hx hn
  have HZ := Lib.hid tbR_zero
  refine (callsIn_wide (n := 5)).1 ?_
  refine callsIn_of_wp_marks Tryd.func110 rfl trivial ?_ rfl
  simp only [Tryd.ntmps110, List.size_toArray, List.length_cons, List.length_nil, Nat.reduceAdd, Nat.reduceSub, Array.replicate_succ, Array.replicate_zero, List.push_toArray, List.append_toArray, List.nil_append, List.cons_append]
  obtain ⟨A, hA⟩ : ∃ A : World, A = (((w.alloc (.cells (tbR x) 74)).alloc (.cells (tbR y) 74)).alloc (.cells (tbR zeroT) 74)).alloc (.cells (tbR zeroT) 74) := ⟨_, rfl⟩
  have hBA : Below w.heap.size w A := by rw [hA]; go_grown
  have hzA : A.heap.size = w.heap.size + 4 := by rw [hA]; simp
  have a0 : TbAt A w.heap.size x := by rw [hA]; exact (((TbAt.new w x).past _).past _).past _
  have a1 : TbAt A (w.heap.size + 1) y := by
    rw [hA]
    have := ((TbAt.new (w.alloc (.cells (tbR x) 74)) y).past (.cells (tbR zeroT) 74)).past (.cells (tbR zeroT) 74)
    rwa [World.size_alloc] at this
  have a2 : TbAt A (w.heap.size + 2) zeroT := by
    rw [hA]
    have := (TbAt.new ((w.alloc (.cells (tbR x) 74)).alloc (.cells (tbR y) 74)) zeroT).past (.cells (tbR zeroT) 74)
    rwa [World.size_alloc, World.size_alloc] at this
  have a3 : TbAt A (w.heap.size + 3) zeroT := by
    rw [hA]
    have := TbAt.new (((w.alloc (.cells (tbR x) 74)).alloc (.cells (tbR y) 74)).alloc (.cells (tbR zeroT) 74)) zeroT
    rwa [World.size_alloc, World.size_alloc, World.size_alloc] at this
  rw [HZ.out] at hA
  have HA := Lib.hid hA; have A0 := Lib.hid a0; have A1 := Lib.hid a1; have A2 := Lib.hid a2; have A3 := Lib.hid a3; have HBA := Lib.hid hBA; have HZA := Lib.hid hzA
  clear hA a0 a1 a2 a3 hBA hzA
  gi_wp2_with (rw [← HA.out]; refine wpListIn_ld rfl (.tmp 2) rfl w.heap.size _ rfl A0.out ?_)
  obtain ⟨I, hI⟩ : ∃ I : Act → World → Prop, I = fun a wr => ∃ (k : Nat) (Ds : List Nat) (u6 u7 u8 u11 u12 u13 u14 u15 u16 u17 u18 u19 u20 u21 u22 u23 u24 u25 : Value), a = { tmps := #[.agg (tbR x), .agg (tbR y), .pointer (some ⟨w.heap.size, 0, none⟩), .pointer (some ⟨w.heap.size + 1, 0, none⟩), .pointer (some ⟨w.heap.size + 1 + 1, 0, none⟩), .pointer (some ⟨w.heap.size + 1 + 1 + 1, 0, none⟩), u6, u7, u8, .agg (tbR x), .int .i64 (k : Int), u11, u12, u13, u14, u15, u16, u17, u18, u19, u20, u21, u22, u23, u24, u25, undef], defers := Ds.map mkD } ∧ k ≤ 33 ∧ (TbAt wr (w.heap.size + 3) (fun c => if c < k then T c else 0#64) ∧ TbAt wr (w.heap.size + 1) y ∧ TbAt wr (w.heap.size + 2) zeroT) ∧ Marks Ds wr ∧ (∀ D ∈ Ds, w.heap.size ≤ D) ∧ Below w.heap.size w wr := ⟨_, rfl⟩
  have HI := Lib.hid hI
  clear hI
  refine wpIn_loop I (fun a _ => 33 - (intOf (a.tmps.getD 10 undef)).toNat) ?_ ?_
  · rw [HI.out]
    refine ⟨0, [], undef, undef, undef, undef, undef, undef, undef, undef, undef, undef, undef, undef, undef, undef, undef, undef, undef, undef, rfl, by omega, ⟨A3.out.eq (by funext a; simp [zeroT]), A1.out, A2.out⟩, ⟨List.nodup_nil, by simp⟩, by simp, HBA.out⟩
  intro a wr hrel
  rw [HI.out] at hrel
  obtain ⟨k, Ds, u6, u7, u8, u11, u12, u13, u14, u15, u16, u17, u18, u19, u20, u21, u22, u23, u24, u25, rfl, hk, ⟨h3, h1, h2⟩, hM, hDs, hw⟩ := hrel
  have hsz : w.heap.size + 3 < wr.heap.size := h3.lt
  have H1 := Lib.hid h1; have H2 := Lib.hid h2; have H3 := Lib.hid h3; have HM := Lib.hid hM; have HDS := Lib.hid hDs; have HW := Lib.hid hw
  clear h1 h2 h3 hM hDs hw A0 A1 A2 A3 HBA HA HZA
  by_cases hlt : k < 33
  · have hxg := run_idx x k hlt wr
    have hel := HEL.out k
    have hmem := HMEM.out k
    generalize hs : x k = s at *
    have HS := Lib.hid hs
    have HXG := Lib.hid hxg; have HELK := Lib.hid hel; have HMK := Lib.hid hmem
    clear hs hel hmem hxg
    gi_wp2_with fail
    rw [HXG.out]
    gi_wp2_with (refine ⟨trivial, ?_⟩; gi_at_call 58; refine (callsIn_wide.2 (each_any s _)).mono ?_; rintro e w2 ⟨rfl, rfl⟩)
    refine wpIn_gen ?_
    intro W1 hW1
    have hb1 : Below wr.heap.size wr W1 := by rw [hW1]; go_grown
    have hz1 : W1.heap.size = wr.heap.size + 2 := by rw [hW1]; simp
    have c0 : W1.cell? ⟨wr.heap.size, 0, none⟩ = some (.int .i64 (k : Int)) := by rw [hW1]; go_cell
    have c1 : W1.cell? ⟨wr.heap.size + 1, 0, none⟩ = some (.int .u64 (s.toNat : Int)) := by rw [hW1]; go_cell
    have h1 := H1.out.below hb1
    have h2 := H2.out.below hb1
    have h3 := H3.out.below hb1
    have hMo := HM.out.others (ko_of_below hb1)
    have hMl := HM.out.lt
    have hBw := HW.out.trans (hb1.mono HW.out.size)
    have hTab : Tab64 W1 := HT.out.below hBw HT0.out
    clear hW1 H1 H2 H3 HM
    refine wpIn_rangeFunc_ownF (α := Ex s) rfl (by decide) (gf := 80) (lb := #[.pointer (some ⟨wr.heap.size + 1, 0, none⟩)]) rfl trivial (enters_of Tryd.func80 (by kernel_rfl) rfl)
      (each_stops s _ (by decide) (wr.heap.size + 1) w.heap.size W1 c1 HT0.out (by have := HW.out.size; omega) hTab)
      belowK_t (belowK_b (by have := HW.out.size; omega)) (Below.refl _ _) (fun _ => rfl)
      (fun pre W => ((TbAt W (w.heap.size + 3) (fun c => if c = k then orL y (pre.map (·.1)) else if c < k then T c else 0#64) ∧ TbAt W (w.heap.size + 1) y ∧ TbAt W (w.heap.size + 2) zeroT ∧ W.cell? ⟨wr.heap.size, 0, none⟩ = some (.int .i64 (k : Int))) ∧ Marks Ds W) ∧ Below w.heap.size w W)
      (fun _ _ _ => False)
      (OwnFrom.and (OwnFrom.and (Own.from (fun s A B row hs hg hr => ⟨hs.1.grown hg hr, hs.2.1.grown hg hr, hs.2.2.1.grown hg hr, cell_kept hs.2.2.2 hg hr⟩) _) (fun s A B row hs hg hr => Marks.grown (B := W1.heap.size) hs (fun D hD => by have := hMl D hD; omega) hg (fun r e => (hr r e).1))) (ownFrom_below (Nat.le_refl _) (by have := HW.out.size; omega)))
      (fun _ _ _ _ _ hs _ _ => hs)
      ⟨⟨⟨h3.eq (by funext c; by_cases hc : c = k <;> simp [hc, orL]), h1, h2, c0⟩, hMo⟩, hBw⟩
      ?a1 ?assign ?body ?done ?stop
    case assign =>
      intro l b W K hK
      gi_wp2
      exact hK
    case body =>
      rintro l pre ⟨b, hb⟩ W ⟨⟨⟨g3, g1, g2, gc⟩, gM⟩, gB⟩ hlen
      have hb33 := HMK.out b hb
      have d0 := g3.cell (a := k) hlt
      have d1 := g1.cell hb33
      have f0 := g3.frozen k
      rw [if_pos rfl] at d0
      have hsn := orL_snoc y (pre.map (·.1)) b
      have hor := bv_or64 (orL y (pre.map (·.1))) (y b.val)
      generalize orL y (pre.map (·.1)) = M at *
      generalize y b.val = yb at *
      have G3 := Lib.hid g3; have G1 := Lib.hid g1; have G2 := Lib.hid g2; have GM := Lib.hid gM; have GB := Lib.hid gB; have HSN := Lib.hid hsn
      have hk33 : (k : Int) < 33 := by omega
      have hbi : (b.val : Int) < 33 := by omega
      have hsw := g3.lt
      have hwrs : w.heap.size + 3 < wr.heap.size := hsz
      obtain ⟨v, hv⟩ : ∃ v, M ||| yb = v := ⟨_, rfl⟩
      rw [hv] at hsn
      rw [hv] at hor
      have hwk : w.heap.size + 3 ≤ wr.heap.size := by omega
      have v1 : KeepsOthers W (W.setCell ⟨w.heap.size + 1 + 1 + 1, k, none⟩ (.int .u64 (v.toNat : Int))).drew := (KeepsOthers.setCell _ _ _).trans (KeepsOthers.drew _)
      have v2 : Below w.heap.size W (W.setCell ⟨w.heap.size + 1 + 1 + 1, k, none⟩ (.int .u64 (v.toNat : Int))).drew := ((Below.refl _ W).setCell (p := ⟨w.heap.size + 1 + 1 + 1, k, none⟩) (by simp only []; omega) _).drew
      have v3 : TbAt (W.setCell ⟨w.heap.size + 1 + 1 + 1, k, none⟩ (.int .u64 (v.toNat : Int))).drew (w.heap.size + 3) (fun c => if c = k then orL y ((pre ++ [(⟨b, hb⟩ : Ex s)]).map (fun z => z.1)) else if c < k then T c else 0#64) :=
        TbAt.drew ((g3.set k v).eq (ite_new hsn))
      have v4 : TbAt (W.setCell ⟨w.heap.size + 1 + 1 + 1, k, none⟩ (.int .u64 (v.toNat : Int))).drew (w.heap.size + 1) y := TbAt.drew (g1.other (by simp) _)
      have v5 : TbAt (W.setCell ⟨w.heap.size + 1 + 1 + 1, k, none⟩ (.int .u64 (v.toNat : Int))).drew (w.heap.size + 2) zeroT := TbAt.drew (g2.other (by simp) _)
      have v6 : (W.setCell ⟨w.heap.size + 1 + 1 + 1, k, none⟩ (.int .u64 (v.toNat : Int))).drew.cell? ⟨wr.heap.size, 0, none⟩ = some (.int .i64 (k : Int)) := keep_set2 (w1 := W) gc (by simp only []; omega)
      have V := Lib.hid (And.intro v1 (And.intro v2 (And.intro v3 (And.intro v4 (And.intro v5 (And.intro v6 (And.intro (gM.others v1) (gB.trans v2))))))))
      clear g3 g1 g2 gM gB hsn hlen c0 c1 h1 h2 h3 hMo hMl hBw hTab hb1 hz1 v1 v2 v3 v4 v5 v6 hv G3 G1 G2 GM GB HSN
      have hmx : Tryd.prog.follows .mixedOrders = true := by kernel_rfl
      gi_wp2
      gi_region_with_o (fail)
      all_goals gi_wp2
      all_goals exact ⟨V.out.1, V.out.2.1, ⟨⟨V.out.2.2.1, V.out.2.2.2.1, V.out.2.2.2.2.1, V.out.2.2.2.2.2.1⟩, V.out.2.2.2.2.2.2.1⟩, V.out.2.2.2.2.2.2.2⟩
    case done =>
      rintro D ys W hD hys ⟨⟨⟨g3, g1, g2, gc⟩, gM⟩, gB⟩ hK
      have hDn : ∀ E ∈ Ds, E < W1.heap.size := fun E hE => by have := hMl E hE; omega
      have g3' : TbAt W (w.heap.size + 3) (fun c => if c < k + 1 then T c else 0#64) := g3.eq (by rw [hys, HELK.out]; exact ite_step (T := T) (T k) rfl)
      have hM2 : Marks (D :: Ds) W := ⟨List.nodup_cons.2 ⟨fun hm => by have := hDn D hm; omega, gM.1⟩, fun E hE => by
        rcases List.mem_cons.1 hE with rfl | hE
        · exact hK
        · exact gM.2 E hE⟩
      have hDs2 : ∀ E ∈ D :: Ds, w.heap.size ≤ E := fun E hE => by
        rcases List.mem_cons.1 hE with rfl | hE
        · have := HW.out.size; omega
        · exact HDS.out E hE
      have G3 := Lib.hid g3'; have G1 := Lib.hid g1; have G2 := Lib.hid g2; have GB := Lib.hid gB; have GM := Lib.hid hM2; have GD := Lib.hid hDs2
      clear g3 g3' g1 g2 gB gM hM2 hDs2 hDn hys gc hK c0 c1 h1 h2 h3 hMo hMl hBw hTab
      gi_wp2
      rw [HI.out]
      refine ⟨?_, by simp [intOf]; omega⟩
      refine ⟨k + 1, D :: Ds, ?_⟩
      repeat apply Exists.intro
      refine ⟨?_, by omega, ⟨G3.out, G1.out, G2.out⟩, GM.out, GD.out, GB.out⟩
      rfl
    case stop =>
      rintro D c pre W _ _ h _
      exact h.elim
  · obtain rfl : k = 33 := by omega
    clear hlt
    have hcl : ∀ c, c < 33 → (if c < 33 then T c else 0#64) = T c := fun c hc => if_pos hc
    have HCL := Lib.hid hcl
    clear hcl
    gi_wp2_with (first | (refine wpListIn_ld rfl (.tmp 5) rfl (w.heap.size + 1 + 1 + 1) _ rfl H3.out ?_) | (refine wpListIn_st rfl (.tmp 4) (.tmp 26) rfl (w.heap.size + 1 + 1) _ _ rfl rfl H2.out ?_))
    show LeavesInM _ _ _ _ _ _ (Ds.map mkD) .returning _
    refine leaves_marks (fun W => TbAt W (w.heap.size + 1 + 1) (fun c => if c < 33 then T c else 0#64) ∧ Below w.heap.size w W) w.heap.size ?_ ?_ Ds _ ⟨H2.out.setRow _, below_setRow HW.out (by omega) _⟩ (HM.out.others (ko_setRow H2.out _)) HDS.out
    · rintro W ⟨hT, hB⟩
      exact ⟨_, parts_ret rfl _ _ (w.heap.size + 1 + 1) _ T rfl hT HCL.out, rfl, hB⟩
    · rintro W D ⟨hT, hB⟩ hD hK
      exact ⟨hT.grown (grownBy_putObj' W D (.deferred none)) (fun r e => by cases e; exact ⟨_, hK, rfl⟩), below_put hB hD hK rfl rfl⟩
end Go.Proofs.YtmobilppakjihaaDoor

/-
  Nodes: calls through the interface; rows in regions that draw their order.
-/
namespace Go.Proofs.YtmobilppakjihaaDoor
open Go.RowKit Go.Sort
/-- What a call of match comes to, where the dynamic type is t (235: a hundred more than the program's types). -/
def NodeFn (t : TypeId) (f : FuncId) : Prop := (∀ (pl sv : Value) (W : World), (callMethod (.iface t pl) "ablaut/pats.match" #[sv]).run Tryd.prog W = .ok (.enter f #[pl, sv]) W) ∧ (∀ (pl : Value) (W : World), (method 235 t pl "ablaut/pats.match").run Tryd.prog W = .ok (f, pl) W) ∧ (∀ (args : Array Value) (W : World), (callFunc f args).run Tryd.prog W = .ok (.enter f args) W)
theorem nf_empty : NodeFn 116 109 := ⟨fun pl sv W => by kernel_rfl, fun pl W => by kernel_rfl, enters_of Tryd.func109 (by kernel_rfl) rfl⟩
theorem nf_begin : NodeFn 108 107 := ⟨fun pl sv W => by kernel_rfl, fun pl W => by kernel_rfl, enters_of Tryd.func107 (by kernel_rfl) rfl⟩
theorem nf_end : NodeFn 115 113 := ⟨fun pl sv W => by kernel_rfl, fun pl W => by kernel_rfl, enters_of Tryd.func113 (by kernel_rfl) rfl⟩
theorem nf_sound : NodeFn 106 104 := ⟨fun pl sv W => by kernel_rfl, fun pl W => by kernel_rfl, enters_of Tryd.func104 (by kernel_rfl) rfl⟩
theorem nf_seq : NodeFn 110 108 := ⟨fun pl sv W => by kernel_rfl, fun pl W => by kernel_rfl, enters_of Tryd.func108 (by kernel_rfl) rfl⟩
theorem nf_alt : NodeFn 112 111 := ⟨fun pl sv W => by kernel_rfl, fun pl W => by kernel_rfl, enters_of Tryd.func111 (by kernel_rfl) rfl⟩
theorem nf_rep : NodeFn 114 112 := ⟨fun pl sv W => by kernel_rfl, fun pl W => by kernel_rfl, enters_of Tryd.func112 (by kernel_rfl) rfl⟩
theorem run_invoke {o : Oper} {a : Act} {x y : Operand} {ts : Array TypeId} (ho : o.op = .call { callee := .invoke x "ablaut/pats.match", args := #[y], argTypes := ts }) {t : TypeId} {pl : Value} {f : FuncId} (hx : a.eval x = .iface t pl) (hn : NodeFn t f) (W : World) :
    (execOp a.eval o).run Tryd.prog W = .ok (.enter f #[pl, a.eval y]) W := by
  have := hn.1 pl (a.eval y) W
  simp [execOp, ho, resolve, invoke, hx, Sem.run_bind, Result.andThen]
  exact this
theorem wpList_inv {ops : Array Oper} {rest : List Oper} {o : Oper} {a : Act} {w : World} {Q : Exit → Act → World → Prop} (hgd : o.guard = none) (x y : Operand) (ts : Array TypeId) (ho : o.op = .call { callee := .invoke x "ablaut/pats.match", args := #[y], argTypes := ts }) {t : TypeId} {pl : Value} {f : FuncId} (hx : a.eval x = .iface t pl) (hn : NodeFn t f) (v : Value)
    (hc : Gives f #[pl, a.eval y] w v) (h : ∀ w', Below w.heap.size w w' → wpList Tryd.prog ops Q rest (a.put o.dst v) w') : wpList Tryd.prog ops Q (o :: rest) a w := by
  refine wpList_plain hgd fun K hK => ?_
  unfold Oper.wp
  rw [run_invoke ho hx hn]
  refine Calls.mono hc ?_
  rintro e w1 ⟨rfl, hb⟩
  exact hK _ _ (h w1 hb)
theorem wpQuiet_ld {ops : Array Oper} {rest : List Oper} {o : Oper} {a : Act} {C : World → Prop} {Q : Act → Prop} (hgd : o.guard = none) (x : Operand) (ho : o.op = .load 74 x) (g : Nat) (T : Tb) (hx : a.eval x = .pointer (some ⟨g, 0, none⟩)) (hC : ∀ w, C w → TbAt w g T)
    (h : wpQuiet Tryd.prog ops C Q rest (a.put o.dst (.agg (tbR T)))) : wpQuiet Tryd.prog ops C Q (o :: rest) a := by
  refine wpQuiet_step fun K hK => ?_
  rw [if_pos (by simp [Region.wanted, hgd])]
  refine ⟨.agg (tbR T), fun w hw => ?_, hK _ h⟩
  have := ld_rowA (TbAt.row (hC w hw))
  rw [TbAt.val (hC w hw)] at this
  unfold Oper.quietAt
  simp only [execOp, ho, hx, Sem.run_bind, this, Result.andThen]
  exact ⟨rfl, rfl⟩
theorem wpQuiet_inv {ops : Array Oper} {rest : List Oper} {o : Oper} {a : Act} {C : World → Prop} {Q : Act → Prop} (hgd : o.guard = none) (x y : Operand) (ts : Array TypeId) (ho : o.op = .call { callee := .invoke x "ablaut/pats.match", args := #[y], argTypes := ts }) {t : TypeId} {pl : Value} {f : FuncId} (hx : a.eval x = .iface t pl) (hn : NodeFn t f) (v : Value)
    (hc : ∀ w, C w → Calls Tryd.prog f #[pl, a.eval y] w fun e w' => e = .returned v ∧ C w') (h : wpQuiet Tryd.prog ops C Q rest (a.put o.dst v)) : wpQuiet Tryd.prog ops C Q (o :: rest) a := by
  refine wpQuiet_step fun K hK => ?_
  rw [if_pos (by simp [Region.wanted, hgd])]
  refine ⟨v, fun w hw => ?_, hK _ h⟩
  unfold Oper.quietAt
  rw [run_invoke ho hx hn]
  exact ⟨rfl, hc w hw⟩
theorem wpQuiet_mv {ops : Array Oper} {rest : List Oper} {o : Oper} {a : Act} {C : World → Prop} {Q : Act → Prop} (hgd : o.guard = none) (x : Operand) (ho : o.op = .move x) (v : Value) (hv : a.eval x = v) (h : wpQuiet Tryd.prog ops C Q rest (a.put o.dst v)) : wpQuiet Tryd.prog ops C Q (o :: rest) a := by
  refine wpQuiet_step fun K hK => ?_
  rw [if_pos (by simp [Region.wanted, hgd])]
  subst hv
  refine ⟨_, fun w _ => ?_, hK _ h⟩
  unfold Oper.quietAt
  have e : (execOp a.eval o).run Tryd.prog w = .ok (.value (a.eval x)) w := by simp [execOp, ho]
  rw [e]
  exact ⟨rfl, rfl⟩
theorem wpQuiet_fn {ops : Array Oper} {rest : List Oper} {o : Oper} {a : Act} {C : World → Prop} {Q : Act → Prop} (hgd : o.guard = none) (f : FuncId) (x y : Operand) (ts : Array TypeId) (ho : o.op = .call { callee := .value (Operand.func f), args := #[x, y], argTypes := ts }) (v : Value)
    (hc : ∀ w, C w → Calls Tryd.prog f #[a.eval x, a.eval y] w fun e w' => e = .returned v ∧ C w') (hf : ∀ args w, (callFunc f args).run Tryd.prog w = .ok (.enter f args) w) (h : wpQuiet Tryd.prog ops C Q rest (a.put o.dst v)) : wpQuiet Tryd.prog ops C Q (o :: rest) a := by
  refine wpQuiet_step fun K hK => ?_
  rw [if_pos (by simp [Region.wanted, hgd])]
  refine ⟨v, fun w hw => ?_, hK _ h⟩
  unfold Oper.quietAt
  have e : (execOp a.eval o).run Tryd.prog w = .ok (.enter f #[a.eval x, a.eval y]) w := by
    simp [execOp, ho, resolve, invoke, Deferred.ofValue, Act.eval, Sem.run_bind, Result.andThen, hf]
  rw [e]
  exact ⟨rfl, hc w hw⟩
/-- The worlds that a region that only reads may come to. -/
abbrev Cls (W : World) : World → Prop := fun w' => ∃ p : Regrown, w' = grow (redrawn W p.d) p.os
theorem Cls.gives {W : World} {f : FuncId} {args : Array Value} {v : Value} (h : ∀ w, Below W.heap.size W w → Gives f args w v) : ∀ w, Cls W w → Calls Tryd.prog f args w fun e w' => e = .returned v ∧ Cls W w' := by
  rintro w ⟨p, rfl⟩
  exact Calls.regrown_of (h _ (below_regrown _ _ _))
theorem Cls.row {W : World} {g : Nat} {T : Tb} (h : TbAt W g T) : ∀ w, Cls W w → TbAt w g T := by
  rintro w ⟨p, rfl⟩
  exact h.below (below_regrown _ _ _)
/-- A node: a value with a method that matches as T says. -/
def NodeT (W0 : World) (v : Value) (T : List Snd → Tb) : Prop := ∃ (t : TypeId) (pl : Value) (f : FuncId), v = .iface t pl ∧ NodeFn t f ∧ (∀ ss : List Snd, ss.length ≤ 32 → OkT ss.length (T ss)) ∧ ∀ W, Below W0.heap.size W0 W → ∀ (ss : List Snd) (sv : Value), ss.length ≤ 32 → Wd W sv ss → Gives f #[pl, sv] W (.agg (tbR (T ss)))
theorem NodeT.below {W0 W1 : World} {v : Value} {T : List Snd → Tb} (h : NodeT W0 v T) (hb : Below W0.heap.size W0 W1) : NodeT W1 v T := by
  obtain ⟨t, pl, f, h1, h2, h3, h4⟩ := h
  exact ⟨t, pl, f, h1, h2, h3, fun W hW => h4 W (hb.trans (hW.mono hb.size))⟩
/-- A slice of nodes. -/
def Ns (W : World) (sv : Value) (Ts : List (List Snd → Tb)) : Prop := (sv = .slice none 0 0 ∧ Ts = []) ∨ ∃ b off cap, sv = .slice (some ⟨b, off, none⟩) Ts.length cap ∧ Ts.length ≤ cap ∧ cap ≤ maxLen ∧ b < W.heap.size ∧ ∀ i (h : i < Ts.length), ∃ u, W.cell? ⟨b, off + i, none⟩ = some u ∧ NodeT W u Ts[i]
theorem Ns.below {W W1 : World} {sv : Value} {Ts : List (List Snd → Tb)} (h : Ns W sv Ts) (hb : Below W.heap.size W W1) : Ns W1 sv Ts := by
  rcases h with h | ⟨b, off, cap, h1, h2, h3, h4, h5⟩
  · exact .inl h
  · exact .inr ⟨b, off, cap, h1, h2, h3, by have := hb.size; omega, fun i hi => by
      obtain ⟨u, hu, hn⟩ := h5 i hi
      exact ⟨u, (hb.cell (p := ⟨b, off + i, none⟩) h4).trans hu, hn.below hb⟩⟩
theorem Ns.open {W : World} {sv : Value} {Ts : List (List Snd → Tb)} (h : Ns W sv Ts) : ∃ ao cap, sv = .slice ao Ts.length cap ∧ Ts.length ≤ cap ∧ cap ≤ maxLen ∧ ∀ i (h : i < Ts.length), ∃ b off u, ao = some ⟨b, off, none⟩ ∧ b < W.heap.size ∧ W.cell? ⟨b, off + i, none⟩ = some u ∧ NodeT W u Ts[i] := by
  rcases h with ⟨rfl, rfl⟩ | ⟨b, off, cap, h1, h2, h3, h4, h5⟩
  · exact ⟨none, 0, rfl, by simp, by decide, fun i hi => by simp at hi⟩
  · exact ⟨some ⟨b, off, none⟩, cap, h1, h2, h3, fun i hi => by
      obtain ⟨u, hu, hn⟩ := h5 i hi
      exact ⟨b, off, u, rfl, h4, hu, hn⟩⟩
end Go.Proofs.YtmobilppakjihaaDoor
