/-
  The law for a region that draws its order, where one extraction of a result may come up behind the first store. No program is named here.
-/
import Derived.Test.YtdbbmhefndjedaaDoorReg
namespace Go.Proofs.YtdbbmhefndjedaaDoor
open Go.RowKit Go.Sort
section
variable {P : Program} {ops : Array Oper} {md : Region.Mode}
theorem wpAny_makers {P : Program} {Q : Exit → Act → World → Prop} {a : Act} {W : World} {l : List Oper} (n : Nat) (mks : List (Nat × Obj)) (ks : List Nat) (A0 : Act) (qs : List Oper)
    (hB : regB l.toArray n (mks.map (·.1)) ks = true)
    (hrun : ∀ x ∈ mks, ∃ o, l[x.1]? = some o ∧ o.guard = none ∧ ∀ (a : Act) w, (execOp a.eval o).run P w = .ok (.value (ptr w.heap.size)) (w.alloc x.2))
    (hq : quiets l.toArray (mkOf mks) ks = qs)
    (h : ∀ W', Below W.heap.size W W' → wpQuiet P l.toArray (fun w' => ∃ p : Regrown, w' = grow (redrawn W' p.d) p.os) (fun a' => a' = A0) qs a)
    (fin : ∀ (bs : Nat → Nat) (w' : World), Below W.heap.size W w' → (∀ x ∈ mks, W.heap.size ≤ bs x.1 ∧ w'.heap[bs x.1]? = some x.2) → (∀ x ∈ mks, ∀ y ∈ mks, x.1 ≠ y.1 → bs x.1 ≠ bs y.1) →
      wpList P l.toArray Q (l.drop n) ((mks.map (·.1)).foldr (fun i a => a.put (dstOf l.toArray i) (ptr (bs i))) A0) w') :
    wpAny P .any l.toArray Q l.toArray.size (Array.replicate l.toArray.size false) a { W with drawn := W.drawn + 1 } := by
  simp only [regB, Bool.and_eq_true, decide_eq_true_eq, List.all_eq_true, Bool.or_eq_true, beq_iff_eq, List.mem_range] at hB
  obtain ⟨⟨⟨⟨⟨⟨⟨⟨⟨hsel, hn⟩, hs⟩, hc⟩, hord⟩, hlen⟩, hnd⟩, hms⟩, hdst⟩, hap⟩ := hB
  have hnodup := nodupB_spec hnd
  have hiso : ∀ i, (mkOf ((mks.map (·.1)).map fun i => (i, (default : Obj))) i).isSome = (mkOf mks i).isSome := fun i => by
    rw [Bool.eq_iff_iff, mkOf_some, mkOf_some]
    simp
  rw [ordB_congr hiso] at hord
  have hM : MakersOK P l.toArray (mkOf mks) n (mks.map (·.1)) := by
    refine ⟨hnodup, fun i => mkOf_some, fun i obj hi => ?_, fun i oi j oj hi hoi hj hji hoj => ?_⟩
    · obtain ⟨o, ho, hg, hr⟩ := hrun _ (mkOf_mem hi)
      exact ⟨o, by simpa using ho, fun ts => by unfold Region.wanted; rw [hg], hr⟩
    · rcases hap i hi j hj with e | e
      · exact absurd e.symm hji
      · simpa [apartB, hoi, hoj] using e
  have hd : ∀ i j d, i < n → j < l.toArray.size → i ≠ j → dstOf l.toArray i = some d → dstOf l.toArray j ≠ some d := fun i j d hi hj hij he => by
    rcases hdst i hi j hj with e | e
    · exact absurd e hij
    · rw [he] at e; simpa using e
  have hd1 : ∀ i j d, i < n → j < n → i ≠ j → (l.toArray[i]?).bind (·.dst) = some d → (l.toArray[j]?).bind (·.dst) ≠ some d := fun i j d hi hj hij he => hd i j d hi (by omega) hij he
  have hd2 : ∀ i t d, i < n → n ≤ t → (l.toArray[i]?).bind (·.dst) = some d → (l.toArray[t]?).bind (·.dst) ≠ some d := fun i t d hi ht he => by
    rcases Nat.lt_or_ge t l.toArray.size with h' | h'
    · exact hd i t d hi h' (by omega) he
    · rw [Array.getElem?_eq_none h']; simp
  have hmn : ∀ i ∈ mks.map (·.1), i < n := hms
  have inv0 : HeadInv .any l.toArray n (Array.replicate l.toArray.size false) :=
    ⟨by simp, fun j oj _ hl => (by rw [getD_replicate_false] at hl; cases hl), fun t _ ht => getD_in (by simpa using ht) (getD_replicate_false _ _)⟩
  have hdr : Below W.heap.size W { W with drawn := W.drawn + 1 } := (Below.refl _ W).drew
  have H := anyM_sound (P := P) (md := .any) (g := l.toArray.size - n) (A0 := A0) (Q := Q) (W := W) hsel hM hmn hn hd1 hd2
    (fun listed => Region.seqB .any l.toArray (l.toArray.size - n) n listed = true ∧ ((List.range n).all fun i => listed.getD i false) = true)
    (fun bs listed w hw hG hF => by
      have hall : ∀ i ∈ mks.map (·.1), listed.getD i false = true := fun i hi => List.all_eq_true.1 hG.2 i (List.mem_range.2 (hmn i hi))
      rw [conc_full _ _ hall]
      have hf := fin bs w hw (fun x hx => by
        obtain ⟨q1, obj, q2, q3⟩ := hF.at_ x.1 (List.mem_map_of_mem hx) (hall _ (List.mem_map_of_mem hx))
        rw [mkOf_of_mem hnodup hx] at q2
        cases q2
        exact ⟨q1, q3⟩) (fun x hx y hy hne => hF.ne _ (List.mem_map_of_mem hx) _ (List.mem_map_of_mem hy) (hall _ (List.mem_map_of_mem hx)) (hall _ (List.mem_map_of_mem hy)) hne)
      have := wpAny_of_seq (md := .any) (Q' := Q) (l.drop n) n listed _ w (fun j => by simp [List.getElem?_drop]) (by
        rw [show (l.drop n).length = l.toArray.size - n by simp]; exact hG.1) hf
      rwa [show (l.drop n).length = l.toArray.size - n by simp] at this)
    ks.length (fun _ => 0) (Array.replicate l.toArray.size false) a { W with drawn := W.drawn + 1 } inv0 hdr
    ⟨fun i _ hl => (by rw [getD_replicate_false] at hl; cases hl), fun i _ j _ hl => (by rw [getD_replicate_false] at hl; cases hl)⟩
    (fun W' hW' => by
      have := anyM_lex (P := P) (C := cls W') (mk := mkOf mks) (Lq := fun a' => a' = A0) hsel hs hc hn ks _ a inv0 hord (by rw [hq]; exact h W' (hdr.trans hW'))
      exact this)
  have hc0 : conc l.toArray (fun _ => 0) (Array.replicate l.toArray.size false) a (mks.map (·.1)) = a := by
    generalize mks.map (·.1) = ms
    induction ms with
    | nil => rfl
    | cons i ms ih => simp only [conc, List.foldr_cons, getD_replicate_false] at ih ⊢; simpa using ih
  rw [hc0, hlen, show n + (l.toArray.size - n) = l.toArray.size by omega] at H
  exact H

/-- Nothing but a normal end. -/
def OnlyNormal (Q : Exit → Act → World → Prop) : Exit → Act → World → Prop := fun e a w => e = .normal ∧ Q e a w
theorem onlyNormal_lets {Q : Exit → Act → World → Prop} : ¬ LetsOut (OnlyNormal Q) := by rintro ⟨a, w, h, _⟩; cases h
theorem wp_onlyNormal {o : Oper} {a : Act} {w : World} {K : Act → World → Prop} {Q : Exit → Act → World → Prop} (h : o.wp P a w K (OnlyNormal Q)) : o.wp P a w K Q := by
  unfold Oper.wp at *
  generalize (execOp a.eval o).run P w = r at *
  cases r with
  | ok n w' =>
    cases n <;> simp only [Oper.upon] at h ⊢ <;> first
      | exact h
      | exact Calls.mono h (fun e w'' he => by cases e <;> first | exact he | exact he.2 | exact absurd he onlyNormal_lets)
  | halt x w' => cases x <;> simp only [Oper.upon] at h ⊢ <;> first | exact h | exact h.2
theorem wpOp_onlyNormal {i : Nat} {a : Act} {w : World} {K : Act → World → Prop} {Q : Exit → Act → World → Prop} (h : wpOp P ops (OnlyNormal Q) i K a w) : wpOp P ops Q i K a w := by
  unfold wpOp at *
  split
  · simpa [*] using h
  · rename_i o ho
    simp only [ho] at h
    split
    · rename_i hw; simp only [hw, if_true] at h; exact .inl (h.elim wp_onlyNormal (fun x => absurd x.2 onlyNormal_lets))
    · rename_i hw; simp only [hw] at h; exact h
theorem wpAny_onlyNormal {Q : Exit → Act → World → Prop} : ∀ (fuel : Nat) (listed : Array Bool) (a : Act) (w : World), wpAny P md ops (OnlyNormal Q) fuel listed a w → wpAny P md ops Q fuel listed a w
  | 0, _, _, _, h => ⟨h.1, h.2.2⟩
  | _ + 1, _, _, _, h => ⟨fun h0 => (h.1 h0).2, fun i hi => wpOp_onlyNormal (wpOp_mono (fun _ _ h' => wpAny_onlyNormal _ _ _ _ h') (h.2 i hi))⟩

/-- One edge more: operation n waits for operation i. -/
def edged (l : List Oper) (i n : Nat) : List Oper := l.modify n fun o => { o with after := o.after.push ⟨i, .data⟩ }
theorem edged_ne {l : List Oper} {i n j : Nat} (h : j ≠ n) : (edged l i n)[j]? = l[j]? := by
  unfold edged; rw [List.getElem?_modify]; simp only [if_neg (Ne.symm h)]; cases l[j]? <;> rfl
theorem edged_at {l : List Oper} {i n : Nat} : (edged l i n)[n]? = (l[n]?).map fun o => { o with after := o.after.push ⟨i, .data⟩ } := by
  unfold edged; rw [List.getElem?_modify]; simp only [if_true]; cases l[n]? <;> rfl
theorem edged_yielded {l : List Oper} {i n : Nat} (ts : Array Value) : yielded (edged l i n).toArray ts = yielded l.toArray ts := by
  funext j
  unfold yielded
  have : ((edged l i n).toArray[j]?).bind (·.dst) = (l.toArray[j]?).bind (·.dst) := by
    by_cases h : j = n
    · subst h; simp only [List.getElem?_toArray, edged_at]; cases l[j]? <;> rfl
    · simp only [List.getElem?_toArray, edged_ne h]
  rw [this]
theorem edged_wpOp {l : List Oper} {i n j : Nat} {Q : Exit → Act → World → Prop} {K : Act → World → Prop} {a : Act} {w : World} (h : wpOp P (edged l i n).toArray Q j K a w) : wpOp P l.toArray Q j K a w := by
  unfold wpOp at *
  rw [edged_yielded] at h
  by_cases hj : j = n
  · subst hj
    simp only [List.getElem?_toArray, edged_at] at h ⊢
    cases ho : l[j]? with
    | none => simp only [ho] at h ⊢; exact h
    | some o => simp only [ho] at h ⊢; exact h
  · simp only [List.getElem?_toArray, edged_ne hj] at h ⊢
    exact h
/-- An operation whose yield hangs on the frame alone. -/
def Plain (P : Program) (o : Oper) : Prop := ∀ (a : Act), (∃ v, ∀ w, (execOp a.eval o).run P w = .ok (.value v) w) ∨ (∀ w, ∃ x w', (execOp a.eval o).run P w = .halt x w' ∧ ∀ v, x ≠ .panic v)
/-- What is asked of the operation that is late. -/
def lateB (md : Region.Mode) (l : List Oper) (i n : Nat) : Bool :=
  i != n && match l[i]?, l[n]? with
  | some oi, some on => (oi.guard == none) && (oi.after.all fun e => !Region.binds md e || on.after.any fun e' => Region.binds md e' && e'.on == e.on) &&
      (List.range l.length).all fun j => j == i || match l[j]? with
        | none => true
        | some oj => (oi.after.any fun e => Region.binds md e && e.on == j) || (oj.after.any fun e => Region.binds md e && e.on == i) || oi.apart l.toArray oj
  | _, _ => false
theorem wpAny_edged {l : List Oper} {i n : Nat} {oi : Oper} {Q : Exit → Act → World → Prop} (hsel : Region.noSelect l.toArray = true) (hi : l[i]? = some oi) (hL : lateB md l i n = true) (hp : Plain P oi) :
    ∀ (fuel : Nat) (listed : Array Bool) (a : Act) (w : World), listed.size = l.length → wpAny P md (edged l i n).toArray (OnlyNormal Q) fuel listed a w → wpAny P md l.toArray (OnlyNormal Q) fuel listed a w := by
  unfold lateB at hL
  rw [hi] at hL
  obtain ⟨hne, hL⟩ := Bool.and_eq_true_iff.1 hL
  have hne : i ≠ n := by simpa using hne
  cases hn : l[n]? with
  | none => rw [hn] at hL; simp at hL
  | some on =>
  rw [hn] at hL
  simp only [Bool.and_eq_true] at hL
  obtain ⟨⟨hg, hdep⟩, hap⟩ := hL
  have hg : oi.guard = none := by simpa using hg
  have hwant : ∀ ts, Region.wanted oi (yielded l.toArray ts) = true := fun ts => by unfold Region.wanted; rw [hg]
  have hdep : ∀ e ∈ oi.after, Region.binds md e = true → ∃ e' ∈ on.after, Region.binds md e' = true ∧ e'.on = e.on := fun e he hb => by
    have := Array.all_eq_true_iff_forall_mem.1 hdep e he
    simp only [hb, Bool.not_true, Bool.false_or] at this
    obtain ⟨e', he', h⟩ := Array.any_eq_true'.1 this
    simp only [Bool.and_eq_true, beq_iff_eq] at h
    exact ⟨e', he', h.1, h.2⟩
  -- what comes up there comes up here
  have sub : ∀ (listed : Array Bool) (j : Nat), j ∈ Region.ready md (edged l i n).toArray listed → j ∈ Region.ready md l.toArray listed := fun listed j h => by
    rw [mem_ready] at h ⊢
    obtain ⟨h0, o, ho, hall⟩ := h
    by_cases hj : j = n
    · subst hj
      simp only [List.getElem?_toArray, edged_at, hn, Option.map_some, Option.some.injEq] at ho
      subst ho
      exact ⟨h0, on, by simpa using hn, fun e he hb => hall e (Array.mem_push_of_mem _ he) hb⟩
    · simp only [List.getElem?_toArray, edged_ne hj] at ho
      exact ⟨h0, o, by simpa using ho, hall⟩
  have sup : ∀ (listed : Array Bool), listed.size = l.length → ∀ (j : Nat), j ∈ Region.ready md l.toArray listed → j ∈ Region.ready md (edged l i n).toArray listed ∨ (j = n ∧ i ∈ Region.ready md (edged l i n).toArray listed) := fun listed hsz j h => by
    rw [mem_ready] at h
    obtain ⟨h0, o, ho, hall⟩ := h
    by_cases hj : j = n
    · subst hj
      have : o = on := by simpa [hn] using ho.symm
      subst this
      by_cases hli : listed.getD i true = false
      · refine .inr ⟨rfl, ?_⟩
        rw [mem_ready]
        refine ⟨hli, oi, by simp [edged_ne hne, hi], fun e he hb => ?_⟩
        obtain ⟨e', he', hb', hon⟩ := hdep e he hb
        rw [← hon]; exact hall e' he' hb'
      · refine .inl ?_
        rw [mem_ready]
        have hli' : listed.getD i false = true := by
          have hlen : i < listed.size := by rw [hsz]; exact (List.getElem?_eq_some_iff.1 hi).1
          simp [hlen] at hli ⊢; exact hli
        refine ⟨h0, _, by simp only [List.getElem?_toArray, edged_at, hn]; rfl, fun e he hb => ?_⟩
        rcases Array.mem_push.1 he with he | rfl
        · exact hall e he hb
        · exact hli'
    · refine .inl ?_
      rw [mem_ready]
      exact ⟨h0, o, by simp only [List.getElem?_toArray, edged_ne hj]; simpa using ho, hall⟩
  intro fuel
  induction fuel with
  | zero =>
    intro listed a w hsz H
    refine ⟨List.eq_nil_iff_forall_not_mem.2 fun j hj => (sup _ hsz j hj).elim (fun h => by rw [H.1] at h; cases h) (fun h => by rw [H.1] at h; cases h.2), H.2⟩
  | succ f ih =>
    intro listed a w hsz H
    refine ⟨fun h0 => H.1 (List.eq_nil_iff_forall_not_mem.2 fun j hj => by have := sub _ j hj; rw [h0] at this; cases this), fun j hj => ?_⟩
    rcases sup listed hsz j hj with h | ⟨rfl, hir⟩
    · exact wpOp_mono (fun a' w' h' => ih _ a' w' (by simp [hsz]) h') (edged_wpOp (H.2 j h))
    · have h1 := edged_wpOp (H.2 i hir)
      unfold wpOp at h1
      simp only [List.getElem?_toArray, hi, hwant, if_true] at h1
      rcases h1 with h1 | ⟨_, hx⟩
      rotate_left
      · exact absurd hx onlyNormal_lets
      unfold Oper.wp at h1
      rcases hp a with ⟨v, hv⟩ | hv
      · have hy : Yields P l.toArray oi v a := .inl ⟨hwant _, hv⟩
        rw [hv w] at h1
        have h2 := ih _ _ _ (by simp [hsz]) h1
        have hri := sub _ _ hir
        have h3 := wpAny_first (md := md) (Q := OnlyNormal Q) (i := i) (oi := oi) (v := v) (ops := l.toArray) (by simpa using hi) (Region.noSelect_spec hsel) (fun c a w h => by cases h.1) f listed a w
          (fun k ok hk hki hun hno => by
            have hkl : l[k]? = some ok := by simpa using hk
            have hlt : k < l.length := (List.getElem?_eq_some_iff.1 hkl).1
            have h4 := List.all_eq_true.1 hap k (List.mem_range.2 hlt)
            simp only [hkl, Bool.or_eq_true, beq_iff_eq, hki, false_or] at h4
            rcases h4 with (h4 | h4) | h4
            · obtain ⟨e, he, hb⟩ := Array.any_eq_true'.1 h4
              simp only [Bool.and_eq_true, beq_iff_eq] at hb
              obtain ⟨_, o, ho, hall⟩ := mem_ready.1 hri
              have : o = oi := by simpa [hi] using ho.symm
              subst this
              have h5 := hall e he hb.1
              rw [hb.2, getD_both hun] at h5
              cases h5
            · obtain ⟨e, he, hb⟩ := Array.any_eq_true'.1 h4
              simp only [Bool.and_eq_true, beq_iff_eq] at hb
              exact absurd hb.2 (hno e he hb.1)
            · exact h4) hri hy h2
        exact h3.2 j hj
      · obtain ⟨x, w', hs, hx⟩ := hv w
        rw [hs] at h1
        cases x <;> first | exact h1.elim | exact absurd rfl (hx _)
theorem plain_extract {o : Oper} {x : Operand} {k : Nat} (h : o.op = .extract x k) : Plain P o := by
  intro a
  unfold execOp
  simp only [h]
  generalize a.eval x = v
  cases v with
  | tuple vs =>
    cases hk : vs[k]? with
    | some u => exact .inl ⟨u, fun w => by simp [go_sem, Instr.extract, hk]⟩
    | none => exact .inr fun w => ⟨_, _, by simp [go_sem, Instr.extract, hk]; exact ⟨rfl, rfl⟩, by simp⟩
  | _ => exact .inr fun w => ⟨_, _, by simp [go_sem, Instr.extract]; exact ⟨rfl, rfl⟩, by simp⟩
/-- **The law where one extraction is late**: operation i may come up behind the first store n. -/
theorem wp_region_late {id : Nat} {Q : Exit → Act → World → Prop} {a : Act} {W : World} {l l' : List Oper} {oi : Oper} {x : Operand} {k : Nat} (i : Nat) (n : Nat) (mks : List (Nat × Obj)) (ks : List Nat) (A0 : Act) (qs : List Oper)
    (he : edged l i n = l') (hi : l[i]? = some oi) (hx : oi.op = .extract x k) (hL : (Region.noSelect l.toArray && lateB .any l i n) = true)
    (hm : P.follows .mixedOrders = true) (hB : regB l'.toArray n (mks.map (·.1)) ks = true)
    (hrun : ∀ x ∈ mks, ∃ o, l'[x.1]? = some o ∧ o.guard = none ∧ ∀ (a : Act) w, (execOp a.eval o).run P w = .ok (.value (ptr w.heap.size)) (w.alloc x.2))
    (hq : quiets l'.toArray (mkOf mks) ks = qs)
    (h : ∀ W', Below W.heap.size W W' → wpQuiet P l'.toArray (fun w' => ∃ p : Regrown, w' = grow (redrawn W' p.d) p.os) (fun a' => a' = A0) qs a)
    (fin : ∀ (bs : Nat → Nat) (w' : World), Below W.heap.size W w' → (∀ x ∈ mks, W.heap.size ≤ bs x.1 ∧ w'.heap[bs x.1]? = some x.2) → (∀ x ∈ mks, ∀ y ∈ mks, x.1 ≠ y.1 → bs x.1 ≠ bs y.1) →
      wpList P l'.toArray (OnlyNormal Q) (l'.drop n) ((mks.map (·.1)).foldr (fun i a => a.put (dstOf l'.toArray i) (ptr (bs i))) A0) w') :
    (Code.region id l.toArray true).wp P Q a W := by
  subst he
  obtain ⟨hsel, hL⟩ := Bool.and_eq_true_iff.1 hL
  have hsz : (edged l i n).length = l.length := by unfold edged; simp
  refine wp_region_any hm (wpAny_onlyNormal _ _ _ _ (wpAny_edged hsel hi hL (plain_extract hx) _ _ _ _ (by simp) ?_))
  have := wpAny_makers n mks ks A0 qs hB hrun hq h fin
  simpa [hsz] using this
end
end Go.Proofs.YtdbbmhefndjedaaDoor
