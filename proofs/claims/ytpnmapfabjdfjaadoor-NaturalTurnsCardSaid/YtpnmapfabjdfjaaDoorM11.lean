/-
  Lemmas that the theorem of this claim rests on: 2 texts, one behind the other.
-/
import Derived.Test.YtpnmapfabjdfjaaDoorM1
import Derived.Test.YtpnmapfabjdfjaaDoorM9
set_option linter.unusedSimpArgs false
set_option linter.unusedVariables false

/-
  The law on regions that draw their order once more, with what it says of the tape: no answer is given back.
-/
namespace Go.Proofs.YtpnmapfabjdfjaaDoor.Dn
open Go.RowKit Go.Sort


/-- As 'Below', and no answer of the tape is given back. -/
structure BelowD (B : Nat) (a w : World) : Prop where
  b : Below B a w
  dr : a.drawn ≤ w.drawn
theorem BelowD.refl (B : Nat) (a : World) : BelowD B a a := ⟨Below.refl _ _, Nat.le_refl _⟩
theorem BelowD.trans {B : Nat} {a w w' : World} (h : BelowD B a w) (h' : BelowD B w w') : BelowD B a w' := ⟨h.b.trans h'.b, Nat.le_trans h.dr h'.dr⟩
theorem BelowD.mono {B B' : Nat} {a w : World} (h : BelowD B a w) (hB : B' ≤ B) : BelowD B' a w := ⟨h.b.mono hB, h.dr⟩
theorem BelowD.alloc {B : Nat} {a w : World} (h : BelowD B a w) (hB : B ≤ w.heap.size) (o : Obj) : BelowD B a (w.alloc o) := ⟨h.b.alloc hB o, h.dr⟩
theorem BelowD.drew {B : Nat} {a w : World} (h : BelowD B a w) : BelowD B a w.drew := ⟨h.b.drew, Nat.le_trans h.dr (by rw [World.drawn_drew]; omega)⟩
theorem BelowD.size {B : Nat} {a w : World} (h : BelowD B a w) : a.heap.size ≤ w.heap.size := h.b.size
theorem BelowD.block {B : Nat} {a w : World} (h : BelowD B a w) (k : Nat) (hk : k < B) : w.heap[k]? = a.heap[k]? := h.b.block k hk
/-- What has grown, with the draws. -/
structure Rg (W : World) where
  p : Regrown
  h : W.drawn ≤ p.d
instance (W : World) : Inhabited (Rg W) := ⟨⟨⟨W.drawn, #[]⟩, Nat.le_refl _⟩⟩
theorem regrownD_of {w w' : World} (h : BelowD w.heap.size w w') : ∃ p : Rg w, w' = grow (redrawn w p.1.d) p.1.os := by
  obtain ⟨p, hp⟩ := regrown_of_below h.b
  have e1 : w'.drawn = p.d := by rw [hp]; rfl
  exact ⟨⟨p, by rw [← e1]; exact h.dr⟩, hp⟩
theorem Calls.regrownD_of {P : Program} {f : FuncId} {args : Array Value} {w : World} {p : Rg w} {v : Value}
    (h : Calls P f args (grow (redrawn w p.1.d) p.1.os) fun e w' => e = .returned v ∧ BelowD (grow (redrawn w p.1.d) p.1.os).heap.size (grow (redrawn w p.1.d) p.1.os) w') : Calls P f args (grow (redrawn w p.1.d) p.1.os) fun e w'' => e = .returned v ∧ ∃ p : Rg w, w'' = grow (redrawn w p.1.d) p.1.os :=
  h.mono fun _ _ ⟨he, hb⟩ => ⟨he, Dn.regrownD_of ((⟨below_regrown w p.1.d p.1.os, p.2⟩ : BelowD w.heap.size w _).trans (hb.mono (below_regrown w p.1.d p.1.os).size))⟩

section
variable {P : Program} {ops : Array Oper} {md : Region.Mode} {C : World → Prop} {mk : Nat → Option Obj}

def cls (W : World) : World → Prop := fun w' => ∃ p : Rg W, w' = grow (redrawn W p.1.d) p.1.os
theorem cls_of {W w : World} (h : BelowD W.heap.size W w) : cls W w := regrownD_of h
theorem cls_to {W w : World} (h : cls W w) : BelowD W.heap.size W w := by obtain ⟨p, rfl⟩ := h; exact ⟨below_regrown _ _ _, p.2⟩

/-- Whatever order the head is carried out in; what a maker yields is not looked at. -/
def anyM (P : Program) (md : Region.Mode) (ops : Array Oper) (C : World → Prop) (mk : Nat → Option Obj) (n : Nat) (L : Array Bool → Act → Prop) : Nat → Array Bool → Act → Prop
  | 0, listed, a => L listed a
  | f + 1, listed, a => Region.ready md ops listed ≠ [] ∧ ∀ i ∈ Region.ready md ops listed, i < n ∧
      (if (mk i).isSome then anyM P md ops C mk n L f (listed.setIfInBounds i true) a else qOp P ops C i (anyM P md ops C mk n L f (listed.setIfInBounds i true)) a)

theorem anyM_first {n i : Nat} {oi : Oper} {v : Value} {L : Array Bool → Act → Prop} (hi : ops[i]? = some oi) (hmi : (mk i).isSome = false)
    (hsel : ∀ (j : Nat) (o : Oper) cs b, ops[j]? = some o → o.op ≠ .select cs b)
    (hs : Region.sinkB md ops n = true) (hc : Region.chainB md ops n = true) (hn : n < ops.size) (hin : i < n)
    (hdone : ∀ listed a, L listed a → ∀ j ∈ Region.ready md ops listed, n ≤ j) :
    ∀ (f : Nat) (listed : Array Bool) (a : Act), HeadInv md ops n listed →
      (∀ j oj, ops[j]? = some oj → j ≠ i → listed.getD j true = false → (∀ e ∈ oj.after, Region.binds md e = true → e.on ≠ i) → oi.apart ops oj = true) →
      i ∈ Region.ready md ops listed → YieldsIn P ops C oi v a →
      anyM P md ops C mk n L f (listed.setIfInBounds i true) (a.put oi.dst v) → anyM P md ops C mk n L (f + 1) listed a := by
  intro f
  induction f with
  | zero =>
    intro listed a inv _ hr hy H
    have hun := (mem_ready.1 hr).1
    refine ⟨fun h => (by rw [h] at hr; cases hr), fun j hj => ?_⟩
    have hjn : j < n := by
      rcases Nat.lt_or_ge j n with h | h
      · exact h
      · exact absurd hj (tail_waits hs hc hn inv _ i rfl hin hun j h)
    refine ⟨hjn, ?_⟩
    by_cases hji : j = i
    · subst hji; rw [if_neg (by simp [hmi])]; exact hy.qOp hi H
    · have := hdone _ _ H j (ready_mono hj hji)
      omega
  | succ f ih =>
    intro listed a inv hfree hr hy H
    have hun := (mem_ready.1 hr).1
    refine ⟨fun h => (by rw [h] at hr; cases hr), fun j hj => ?_⟩
    have hjn : j < n := by
      rcases Nat.lt_or_ge j n with h | h
      · exact h
      · exact absurd hj (tail_waits hs hc hn inv _ i rfl hin hun j h)
    refine ⟨hjn, ?_⟩
    by_cases hji : j = i
    · subst hji; rw [if_neg (by simp [hmi])]; exact hy.qOp hi H
    · have h1 := (H.2 j (ready_mono hj hji)).2
      obtain ⟨hjun, oj, hoj, hall⟩ := mem_ready.1 hj
      have hnot : ∀ e ∈ oj.after, Region.binds md e = true → e.on ≠ i := fun e he hb heq => by
        have h1 := hall e he hb
        rw [heq, getD_both hun] at h1
        cases h1
      have hfree' : ∀ k ok, ops[k]? = some ok → k ≠ i → (listed.setIfInBounds j true).getD k true = false →
          (∀ e ∈ ok.after, Region.binds md e = true → e.on ≠ i) → oi.apart ops ok = true := fun k ok hk hki hun hno => by
        refine hfree k ok hk hki ?_ hno
        by_cases hjk : j = k
        · subst hjk; exact hjun
        · rw [getD_set_ne true hjk] at hun; exact hun
      by_cases hmj : (mk j).isSome = true
      · rw [if_pos hmj] at h1 ⊢
        refine ih (listed.setIfInBounds j true) a (inv.set hj hjn) hfree' (ready_mono hr (Ne.symm hji)) hy ?_
        rw [Array.setIfInBounds_comm _ _ hji]
        exact h1
      · rw [if_neg hmj] at h1 ⊢
        have h2 := qOp_put hoj (hfree j oj hoj hji hjun hnot) (fun cs b => hsel i oi cs b hi) (fun cs b => hsel j oj cs b hoj) hy h1
        refine qOp_mono (fun a' h3 => ih (listed.setIfInBounds j true) a' (inv.set hj hjn) hfree' (ready_mono hr (Ne.symm hji)) h3.1 ?_) h2
        rw [Array.setIfInBounds_comm _ _ hji]
        exact h3.2

theorem anyM_maker {n i : Nat} {L : Array Bool → Act → Prop} (hmi : (mk i).isSome = true)
    (hs : Region.sinkB md ops n = true) (hc : Region.chainB md ops n = true) (hn : n < ops.size) (hin : i < n)
    (hdone : ∀ listed a, L listed a → ∀ j ∈ Region.ready md ops listed, n ≤ j) :
    ∀ (f : Nat) (listed : Array Bool) (a : Act), HeadInv md ops n listed → i ∈ Region.ready md ops listed →
      anyM P md ops C mk n L f (listed.setIfInBounds i true) a → anyM P md ops C mk n L (f + 1) listed a := by
  intro f
  induction f with
  | zero =>
    intro listed a inv hr H
    have hun := (mem_ready.1 hr).1
    refine ⟨fun h => (by rw [h] at hr; cases hr), fun j hj => ?_⟩
    have hjn : j < n := by
      rcases Nat.lt_or_ge j n with h | h
      · exact h
      · exact absurd hj (tail_waits hs hc hn inv _ i rfl hin hun j h)
    refine ⟨hjn, ?_⟩
    by_cases hji : j = i
    · subst hji; rw [if_pos hmi]; exact H
    · have := hdone _ _ H j (ready_mono hj hji)
      omega
  | succ f ih =>
    intro listed a inv hr H
    have hun := (mem_ready.1 hr).1
    refine ⟨fun h => (by rw [h] at hr; cases hr), fun j hj => ?_⟩
    have hjn : j < n := by
      rcases Nat.lt_or_ge j n with h | h
      · exact h
      · exact absurd hj (tail_waits hs hc hn inv _ i rfl hin hun j h)
    refine ⟨hjn, ?_⟩
    by_cases hji : j = i
    · subst hji; rw [if_pos hmi]; exact H
    · have h1 := (H.2 j (ready_mono hj hji)).2
      have step : ∀ a', anyM P md ops C mk n L f ((listed.setIfInBounds i true).setIfInBounds j true) a' → anyM P md ops C mk n L (f + 1) (listed.setIfInBounds j true) a' := fun a' h => by
        refine ih (listed.setIfInBounds j true) a' (inv.set hj hjn) (ready_mono hr (Ne.symm hji)) ?_
        rw [Array.setIfInBounds_comm _ _ hji]
        exact h
      by_cases hmj : (mk j).isSome = true
      · rw [if_pos hmj] at h1 ⊢; exact step a h1
      · rw [if_neg hmj] at h1 ⊢; exact qOp_mono step h1

/-- The head, in the order of the list: the operations that are no makers first. -/
def ordB (md : Region.Mode) (ops : Array Oper) (mk : Nat → Option Obj) (n g : Nat) : List Nat → Array Bool → Bool
  | [], listed => Region.seqB md ops g n listed && (List.range n).all fun i => listed.getD i false
  | k :: ks, listed => (Region.ready md ops listed).contains k && decide (k < n) && ((mk k).isSome || Region.free md ops listed k) && ordB md ops mk n g ks (listed.setIfInBounds k true)
def quiets (ops : Array Oper) (mk : Nat → Option Obj) (ks : List Nat) : List Oper := ks.filterMap fun k => if (mk k).isSome then none else ops[k]?

theorem anyM_lex {n g : Nat} {Lq : Act → Prop} (hsel : Region.noSelect ops = true) (hs : Region.sinkB md ops n = true) (hc : Region.chainB md ops n = true) (hn : n < ops.size) :
    ∀ (ks : List Nat) (listed : Array Bool) (a : Act), HeadInv md ops n listed → ordB md ops mk n g ks listed = true → wpQuiet P ops C Lq (quiets ops mk ks) a →
    anyM P md ops C mk n (fun listed' a' => (Region.seqB md ops g n listed' = true ∧ ((List.range n).all fun i => listed'.getD i false) = true) ∧ Lq a') ks.length listed a
  | [], listed, a, _, hB, h => by
    simp only [ordB, Bool.and_eq_true] at hB
    exact ⟨hB, h⟩
  | k :: ks, listed, a, inv, hB, h => by
    simp only [ordB, Bool.and_eq_true, decide_eq_true_eq] at hB
    obtain ⟨⟨⟨hr, hkn⟩, hf⟩, hB'⟩ := hB
    have hr' : k ∈ Region.ready md ops listed := by simpa using hr
    have hd : ∀ (listed : Array Bool) (a : Act), ((Region.seqB md ops g n listed = true ∧ ((List.range n).all fun i => listed.getD i false) = true) ∧ Lq a) → ∀ j ∈ Region.ready md ops listed, n ≤ j := fun listed a hL => seqB_ready hL.1.1
    obtain ⟨_, o, ho, _⟩ := mem_ready.1 hr'
    by_cases hm : (mk k).isSome = true
    · have hq : quiets ops mk (k :: ks) = quiets ops mk ks := by unfold quiets; rw [List.filterMap_cons_none (by rw [if_pos hm])]
      rw [hq] at h
      exact anyM_maker hm hs hc hn hkn hd ks.length listed a inv hr' (anyM_lex hsel hs hc hn ks _ a (inv.set hr' hkn) hB' h)
    · have hq : quiets ops mk (k :: ks) = o :: quiets ops mk ks := by unfold quiets; rw [List.filterMap_cons_some (by rw [if_neg hm]; exact ho)]
      rw [hq] at h
      have hf' : Region.free md ops listed k = true := by simpa [hm] using hf
      have hst : qOp P ops C k (wpQuiet P ops C Lq (quiets ops mk ks)) a := by unfold qOp; simp only [ho]; exact h
      obtain ⟨v, hy, hK⟩ := yieldsIn_of_qOp ho hst
      exact anyM_first ho (by simpa using hm) (Region.noSelect_spec hsel) hs hc hn hkn hd ks.length listed a inv (Region.free_spec ho hf') hr' hy
        (anyM_lex hsel hs hc hn ks _ _ (inv.set hr' hkn) hB' hK)

theorem put_slot {a : Act} {dst : Option Tmp} {d : Tmp} (v : Value) (h : dst ≠ some d) : (a.put dst v).tmps[d]? = a.tmps[d]? := by
  cases dst with
  | none => rfl
  | some e =>
    have : e ≠ d := fun he => h (by rw [he])
    simp [Act.put, Array.getElem?_setIfInBounds_ne this]
theorem put_same {a : Act} {dst : Option Tmp} {v v' : Value} (h : ∀ d, dst = some d → (a.put dst v).tmps[d]? = (a.put dst v').tmps[d]?) : a.put dst v = a.put dst v' := by
  cases dst with
  | none => rfl
  | some d =>
    have := h d rfl
    simp only [Act.put] at this ⊢
    rcases Nat.lt_or_ge d a.tmps.size with hd | hd
    · simp [hd] at this; rw [this]
    · rw [Array.setIfInBounds_eq_of_size_le hd, Array.setIfInBounds_eq_of_size_le hd]

theorem anyM_slot {n : Nat} {G : Array Bool → Prop} {A0 : Act} {d : Tmp} : ∀ (f : Nat) (listed : Array Bool) (a : Act),
    anyM P md ops C mk n (fun l' a' => G l' ∧ a' = A0) f listed a → (∀ k, listed.getD k true = false → (ops[k]?).bind (·.dst) ≠ some d) → a.tmps[d]? = A0.tmps[d]?
  | 0, _, a, h, _ => by rw [h.2]
  | f + 1, listed, a, h, hd => by
    obtain ⟨i, hi⟩ := List.exists_mem_of_ne_nil _ h.1
    have h1 := (h.2 i hi).2
    obtain ⟨hun, o, ho, _⟩ := mem_ready.1 hi
    have hdi : o.dst ≠ some d := by have := hd i hun; rw [ho] at this; exact this
    have hd' : ∀ k, (listed.setIfInBounds i true).getD k true = false → (ops[k]?).bind (·.dst) ≠ some d := fun k hk => by
      by_cases hik : i = k
      · subst hik; exact hd i hun
      · rw [getD_set_ne true hik] at hk; exact hd k hk
    by_cases hm : (mk i).isSome = true
    · rw [if_pos hm] at h1; exact anyM_slot f _ a h1 hd'
    · rw [if_neg hm] at h1
      unfold qOp at h1
      simp only [ho] at h1
      split at h1
      · obtain ⟨v, _, hk⟩ := h1
        have := anyM_slot f _ _ hk hd'
        rwa [put_slot _ hdi] at this
      · have := anyM_slot f _ _ h1 hd'
        rwa [put_slot _ hdi] at this

def ptr (b : Nat) : Value := .pointer (some ⟨b, 0, none⟩)
/-- The frame with what the makers that have come up have yielded. -/
def conc (ops : Array Oper) (bs : Nat → Nat) (listed : Array Bool) (a : Act) (ms : List Nat) : Act :=
  ms.foldr (fun i a => if listed.getD i false then a.put ((ops[i]?).bind (·.dst)) (ptr (bs i)) else a) a

/-- What is asked of the makers. -/
structure MakersOK (P : Program) (ops : Array Oper) (mk : Nat → Option Obj) (n : Nat) (ms : List Nat) : Prop where
  nodup : ms.Nodup
  all : ∀ i, (mk i).isSome = true ↔ i ∈ ms
  run : ∀ i obj, mk i = some obj → ∃ o, ops[i]? = some o ∧ (∀ ts, Region.wanted o (yielded ops ts) = true) ∧ ∀ (a : Act) w, (execOp a.eval o).run P w = .ok (.value (ptr w.heap.size)) (w.alloc obj)
  apart : ∀ i oi j oj, i ∈ ms → ops[i]? = some oi → j < n → j ≠ i → ops[j]? = some oj → oi.apart ops oj = true

variable {n : Nat} {ms : List Nat}

theorem conc_exec (hM : MakersOK P ops mk n ms) (bs : Nat → Nat) (listed : Array Bool) (a : Act) {j : Nat} {oj : Oper} (hj : ops[j]? = some oj) (hjn : j < n) (hmj : j ∉ ms)
    (hsel : ∀ cs b, oj.op ≠ .select cs b) : ∀ (l : List Nat), (∀ i ∈ l, i ∈ ms) →
    execOp (conc ops bs listed a l).eval oj = execOp a.eval oj ∧ Region.wanted oj (yielded ops (conc ops bs listed a l).tmps) = Region.wanted oj (yielded ops a.tmps) ∧
    ∀ v, (conc ops bs listed a l).put oj.dst v = conc ops bs listed (a.put oj.dst v) l
  | [], _ => ⟨rfl, rfl, fun _ => rfl⟩
  | i :: l, hl => by
    obtain ⟨h1, h2, h3⟩ := conc_exec hM bs listed a hj hjn hmj hsel l (fun i hi => hl i (List.mem_cons_of_mem _ hi))
    have him := hl i (List.mem_cons_self ..)
    obtain ⟨obj, hobj⟩ := Option.isSome_iff_exists.1 ((hM.all i).2 him)
    obtain ⟨oi, hoi, _⟩ := hM.run i obj hobj
    obtain ⟨a1, a2, a3⟩ := Oper.apart_spec (hM.apart i oi j oj him hoi hjn (fun e => hmj (e ▸ him)) hj)
    simp only [conc, List.foldr_cons, hoi, Option.bind_some]
    by_cases hli : listed.getD i false = true
    · simp only [hli, if_true]
      refine ⟨?_, ?_, fun v => ?_⟩
      · rw [execOp_put oj hsel _ _ _ a1]; exact h1
      · rw [wanted_put oj _ _ _ a1]; exact h2
      · rw [Act.put_comm _ _ _ a2]; exact congrArg (fun x => Act.put x oi.dst (ptr (bs i))) (h3 v)
    · simp only [hli]
      exact ⟨h1, h2, h3⟩

theorem conc_other (bs : Nat → Nat) (listed : Array Bool) (a : Act) {j : Nat} : ∀ (l : List Nat), j ∉ l → conc ops bs (listed.setIfInBounds j true) a l = conc ops bs listed a l
  | [], _ => rfl
  | i :: l, h => by
    have hij : j ≠ i := fun e => h (e ▸ List.mem_cons_self ..)
    have ih := conc_other bs listed a l (fun hm => h (List.mem_cons_of_mem _ hm))
    simp only [conc, List.foldr_cons] at ih ⊢
    rw [getD_set_ne false hij, ih]

theorem conc_bs (bs bs' : Nat → Nat) (listed : Array Bool) (a : Act) : ∀ (l : List Nat), (∀ i ∈ l, bs i = bs' i) → conc ops bs listed a l = conc ops bs' listed a l
  | [], _ => rfl
  | i :: l, h => by
    have ih := conc_bs bs bs' listed a l (fun j hj => h j (List.mem_cons_of_mem _ hj))
    simp only [conc, List.foldr_cons] at ih ⊢
    rw [ih, h i (List.mem_cons_self ..)]

def upd (bs : Nat → Nat) (i b : Nat) : Nat → Nat := fun k => if k = i then b else bs k
theorem upd_same (bs : Nat → Nat) (i b : Nat) : upd bs i b i = b := if_pos rfl
theorem upd_ne (bs : Nat → Nat) {i k : Nat} (b : Nat) (h : k ≠ i) : upd bs i b k = bs k := if_neg h

theorem conc_set (hM : MakersOK P ops mk n ms) (hmn : ∀ i ∈ ms, i < n) (bs : Nat → Nat) (listed : Array Bool) (a : Act) {i : Nat} {oi : Oper} (hoi : ops[i]? = some oi) (him : i ∈ ms) (b : Nat) (hi : i < listed.size) (hun : listed.getD i false = false) :
    ∀ (l : List Nat), (∀ i ∈ l, i ∈ ms) → l.Nodup → i ∈ l → conc ops (upd bs i b) (listed.setIfInBounds i true) a l = (conc ops bs listed a l).put oi.dst (ptr b)
  | h :: l, hl, hnd, hin => by
    rw [List.nodup_cons] at hnd
    by_cases hhi : h = i
    · subst hhi
      have e1 : conc ops (upd bs h b) (listed.setIfInBounds h true) a l = conc ops bs listed a l := by
        rw [conc_other (j := h) _ _ _ l hnd.1]
        exact conc_bs _ _ _ _ l fun k hk => upd_ne bs b (fun e => hnd.1 (e ▸ hk))
      simp only [conc, List.foldr_cons] at e1 ⊢
      rw [e1, upd_same, hun, hoi]
      simp [hi]
    · have hil : i ∈ l := (List.mem_cons.1 hin).elim (fun e => absurd e.symm hhi) id
      have ih := conc_set hM hmn bs listed a hoi him b hi hun l (fun j hj => hl j (List.mem_cons_of_mem _ hj)) hnd.2 hil
      have hhm := hl h (List.mem_cons_self ..)
      obtain ⟨obj, hobj⟩ := Option.isSome_iff_exists.1 ((hM.all h).2 hhm)
      obtain ⟨oh, hoh, _⟩ := hM.run h obj hobj
      obtain ⟨_, a2, _⟩ := Oper.apart_spec (hM.apart i oi h oh him hoi (hmn h hhm) hhi hoh)
      simp only [conc, List.foldr_cons] at ih ⊢
      rw [getD_set_ne false (Ne.symm hhi), ih, upd_ne bs b hhi, hoh]
      simp only [Option.bind_some]
      by_cases hlh : listed.getD h false = true
      · simp only [hlh, if_true]
        exact Act.put_comm _ _ _ a2
      · simp only [hlh]
        rfl

/-- What is known of the makers' blocks. -/
structure Facts (W w : World) (mk : Nat → Option Obj) (ms : List Nat) (listed : Array Bool) (bs : Nat → Nat) : Prop where
  at_ : ∀ i ∈ ms, listed.getD i false = true → W.heap.size ≤ bs i ∧ ∃ obj, mk i = some obj ∧ w.heap[bs i]? = some obj
  ne : ∀ i ∈ ms, ∀ j ∈ ms, listed.getD i false = true → listed.getD j false = true → i ≠ j → bs i ≠ bs j

theorem anyM_sound {g : Nat} {A0 : Act} {Q : Exit → Act → World → Prop} {W : World} (hsel : Region.noSelect ops = true) (hM : MakersOK P ops mk n ms) (hmn : ∀ i ∈ ms, i < n) (hn : n < ops.size)
    (hd : ∀ i j d, i < n → j < n → i ≠ j → (ops[i]?).bind (·.dst) = some d → (ops[j]?).bind (·.dst) ≠ some d)
    (hdt : ∀ i t d, i < n → n ≤ t → (ops[i]?).bind (·.dst) = some d → (ops[t]?).bind (·.dst) ≠ some d)
    (G : Array Bool → Prop)
    (fin : ∀ bs listed w, BelowD W.heap.size W w → G listed → Facts W w mk ms listed bs → wpAny P md ops Q g listed (conc ops bs listed A0 ms) w) :
    ∀ (f : Nat) (bs : Nat → Nat) (listed : Array Bool) (a : Act) (w : World), HeadInv md ops n listed → BelowD W.heap.size W w → Facts W w mk ms listed bs →
      (∀ W', BelowD w.heap.size w W' → anyM P md ops (cls W') mk n (fun l' a' => G l' ∧ a' = A0) f listed a) →
      wpAny P md ops Q (f + g) listed (conc ops bs listed a ms) w
  | 0, bs, listed, a, w, _, hB, hF, H => by
    obtain ⟨h1, h2⟩ := H w (BelowD.refl _ _)
    subst h2
    rw [Nat.zero_add]
    exact fin bs listed w hB h1 hF
  | f + 1, bs, listed, a, w, inv, hB, hF, H => by
    rw [show f + 1 + g = (f + g) + 1 by omega]
    refine ⟨fun h0 => absurd h0 (H w (BelowD.refl _ _)).1, fun i hi => ?_⟩
    obtain ⟨hin, h1⟩ := (H w (BelowD.refl _ _)).2 i hi
    obtain ⟨hun, o, ho, _⟩ := mem_ready.1 hi
    have hsz : i < listed.size := by rw [inv.size]; omega
    have hunF := getD_both hun
    -- facts kept while the world grows
    have keepF : ∀ {w'' : World}, BelowD w.heap.size w w'' → i ∉ ms → Facts W w'' mk ms (listed.setIfInBounds i true) bs := fun {w''} hb him => by
      refine ⟨fun k hk hl => ?_, fun k hk j hj hl hl' hne => ?_⟩
      · have hki : i ≠ k := fun e => him (e ▸ hk)
        rw [getD_set_ne false hki] at hl
        obtain ⟨q1, obj, q2, q3⟩ := hF.at_ k hk hl
        exact ⟨q1, obj, q2, by rw [hb.block _ (Array.getElem?_eq_some_iff.1 q3).1]; exact q3⟩
      · have hki : i ≠ k := fun e => him (e ▸ hk)
        have hji : i ≠ j := fun e => him (e ▸ hj)
        rw [getD_set_ne false hki] at hl
        rw [getD_set_ne false hji] at hl'
        exact hF.ne k hk j hj hl hl' hne
    by_cases hm : (mk i).isSome = true
    · have him := (hM.all i).1 hm
      obtain ⟨obj, hobj⟩ := Option.isSome_iff_exists.1 hm
      obtain ⟨o', ho', hwant, hrun⟩ := hM.run i obj hobj
      have : o' = o := Option.some.inj (ho'.symm.trans ho)
      subst this
      unfold wpOp
      simp only [ho, hwant, if_true]
      refine .inl ?_
      unfold Oper.wp
      rw [hrun]
      show wpAny P md ops Q (f + g) _ ((conc ops bs listed a ms).put o'.dst (ptr w.heap.size)) (w.alloc obj)
      have hbw : BelowD w.heap.size w (w.alloc obj) := (BelowD.refl _ w).alloc (Nat.le_refl _) obj
      rw [← conc_set hM hmn bs listed a ho him w.heap.size hsz hunF ms (fun _ h => h) hM.nodup him]
      refine anyM_sound hsel hM hmn hn hd hdt G fin f _ _ a _ (inv.set hi hin) (hB.trans (hbw.mono hB.size)) ⟨fun k hk hl => ?_, fun k hk j hj hl hl' hne => ?_⟩ ?_
      · by_cases hki : k = i
        · subst hki
          rw [upd_same]
          exact ⟨hB.size, obj, hobj, by show (w.heap.push obj)[w.heap.size]? = _; simp⟩
        · rw [getD_set_ne false (Ne.symm hki)] at hl
          rw [upd_ne bs _ hki]
          obtain ⟨q1, obj', q2, q3⟩ := hF.at_ k hk hl
          exact ⟨q1, obj', q2, by rw [hbw.block _ (Array.getElem?_eq_some_iff.1 q3).1]; exact q3⟩
      · by_cases hki : k = i
        · subst hki
          rw [upd_same, upd_ne bs _ (Ne.symm hne)]
          rw [getD_set_ne false hne] at hl'
          obtain ⟨_, _, _, q3⟩ := hF.at_ j hj hl'
          have := (Array.getElem?_eq_some_iff.1 q3).1
          omega
        · by_cases hji : j = i
          · subst hji
            rw [upd_same, upd_ne bs _ hki]
            rw [getD_set_ne false (Ne.symm hki)] at hl
            obtain ⟨_, _, _, q3⟩ := hF.at_ k hk hl
            have := (Array.getElem?_eq_some_iff.1 q3).1
            omega
          · rw [upd_ne bs _ hki, upd_ne bs _ hji]
            rw [getD_set_ne false (Ne.symm hki)] at hl
            rw [getD_set_ne false (Ne.symm hji)] at hl'
            exact hF.ne k hk j hj hl hl' hne
      · intro W' hW'
        have := ((H W' (hbw.trans (hW'.mono hbw.size))).2 i hi).2
        rwa [if_pos hm] at this
    · have him : i ∉ ms := fun h => hm ((hM.all i).2 h)
      rw [if_neg hm] at h1
      have hs1 := Region.noSelect_spec hsel i o
      obtain ⟨c1, c2, c3⟩ := conc_exec hM bs listed a ho hin him (fun cs b => hs1 cs b ho) ms (fun _ h => h)
      -- the frame behind the operation is the same whatever the class
      have next : ∀ (u : Value) (w'' : World), BelowD w.heap.size w w'' → anyM P md ops (cls w) mk n (fun l' a' => G l' ∧ a' = A0) f (listed.setIfInBounds i true) (a.put o.dst u) →
          (∀ W', BelowD w''.heap.size w'' W' → ∃ u', anyM P md ops (cls W') mk n (fun l' a' => G l' ∧ a' = A0) f (listed.setIfInBounds i true) (a.put o.dst u')) →
          wpAny P md ops Q (f + g) (listed.setIfInBounds i true) ((conc ops bs listed a ms).put o.dst u) w'' := fun u w'' hb hu hall => by
        rw [c3 u, ← conc_other (j := i) bs listed _ ms him]
        refine anyM_sound hsel hM hmn hn hd hdt G fin f bs _ _ w'' (inv.set hi hin) (hB.trans (hb.mono hB.size)) (keepF hb him) fun W' hW' => ?_
        obtain ⟨u', hu'⟩ := hall W' hW'
        have hslot : ∀ d, o.dst = some d → ∀ k, (listed.setIfInBounds i true).getD k true = false → (ops[k]?).bind (·.dst) ≠ some d := fun d hd' k hk => by
          have hki : i ≠ k := fun e => by
            subst e
            simp [hsz] at hk
          rcases Nat.lt_or_ge k n with hkn | hkn
          · exact hd i k d hin hkn hki (by rw [ho]; exact hd')
          · exact hdt i k d hin hkn (by rw [ho]; exact hd')
        rw [put_same (a := a) (v := u) (v' := u') fun d hd' => (anyM_slot f _ _ hu (hslot d hd')).trans (anyM_slot f _ _ hu' (hslot d hd')).symm]
        exact hu'
      have hall : ∀ {w'' : World}, BelowD w.heap.size w w'' → ∀ W', BelowD w''.heap.size w'' W' → ∃ u', anyM P md ops (cls W') mk n (fun l' a' => G l' ∧ a' = A0) f (listed.setIfInBounds i true) (a.put o.dst u') := fun {w''} hb W' hW' => by
        have h2 := ((H W' (hb.trans (hW'.mono hb.size))).2 i hi).2
        rw [if_neg hm] at h2
        obtain ⟨u', _, hk⟩ := yieldsIn_of_qOp ho h2
        exact ⟨u', hk⟩
      unfold qOp at h1
      unfold wpOp
      simp only [ho] at h1 ⊢
      rw [c2]
      split
      · rename_i hw
        simp only [hw, if_true] at h1
        obtain ⟨v, hv, hk⟩ := h1
        have h3 := hv w (cls_of (BelowD.refl _ _))
        refine .inl ?_
        unfold Oper.quietAt at h3
        unfold Oper.wp
        rw [c1]
        generalize (execOp a.eval o).run P w = r at *
        cases r with
        | ok nx w' =>
          cases nx <;> simp only [Oper.quietUpon] at h3 <;> simp only [Oper.upon]
          case value u =>
            obtain ⟨e1, e2⟩ := h3
            rw [e1, e2]
            exact next v w (BelowD.refl _ _) hk (hall (BelowD.refl _ _))
          case skip =>
            obtain ⟨e1, e2⟩ := h3
            rw [e1, ← e2]
            exact next v w (BelowD.refl _ _) hk (hall (BelowD.refl _ _))
          case enter fn args =>
            obtain ⟨e1, hcal⟩ := h3
            rw [e1]
            exact hcal.mono fun e w'' ⟨he, hw''⟩ => by subst he; exact next v w'' (cls_to hw'') hk (hall (cls_to hw''))
        | halt x w' => simp only [Oper.quietUpon] at h3
      · rename_i hw
        simp only [hw] at h1
        exact next undef w (BelowD.refl _ _) h1 (hall (BelowD.refl _ _))

/-- Which operations are makers, and what each makes. -/
def mkOf (mks : List (Nat × Obj)) (i : Nat) : Option Obj := (mks.find? fun x => x.1 == i).map (·.2)
theorem mkOf_some {mks : List (Nat × Obj)} {i : Nat} : (mkOf mks i).isSome = true ↔ i ∈ mks.map (·.1) := by
  unfold mkOf
  rw [Option.isSome_map, List.find?_isSome, List.mem_map]
  constructor
  · rintro ⟨x, hx, h⟩; exact ⟨x, hx, by simpa using h⟩
  · rintro ⟨x, hx, h⟩; exact ⟨x, hx, by simpa using h⟩
theorem mkOf_mem {mks : List (Nat × Obj)} {i : Nat} {obj : Obj} (h : mkOf mks i = some obj) : (i, obj) ∈ mks := by
  unfold mkOf at h
  obtain ⟨x, hx, rfl⟩ := Option.map_eq_some_iff.1 h
  have h1 := List.find?_some hx
  have h2 := List.mem_of_find?_eq_some hx
  have : x.1 = i := by simpa using h1
  subst this; exact h2
theorem mkOf_of_mem {mks : List (Nat × Obj)} (hnd : (mks.map (·.1)).Nodup) {x : Nat × Obj} (h : x ∈ mks) : mkOf mks x.1 = some x.2 := by
  induction mks with
  | nil => cases h
  | cons y ys ih =>
    simp only [List.map_cons, List.nodup_cons] at hnd
    unfold mkOf
    rcases List.mem_cons.1 h with rfl | h
    · simp
    · have hne : (y.1 == x.1) = false := by
        rw [beq_eq_false_iff_ne]
        intro e
        exact hnd.1 (e ▸ List.mem_map_of_mem h)
      rw [List.find?_cons_of_neg (by rw [hne]; simp)]
      exact ih hnd.2 h

def nodupB : List Nat → Bool
  | [] => true
  | x :: xs => !xs.contains x && nodupB xs
theorem nodupB_spec : ∀ {l : List Nat}, nodupB l = true → l.Nodup
  | [], _ => List.nodup_nil
  | x :: xs, h => by
    simp only [nodupB, Bool.and_eq_true, Bool.not_eq_true'] at h
    exact List.nodup_cons.2 ⟨by simpa using h.1, nodupB_spec h.2⟩
def dstOf (ops : Array Oper) (i : Nat) : Option Tmp := (ops[i]?).bind (·.dst)
def apartB (ops : Array Oper) (i j : Nat) : Bool := match ops[i]?, ops[j]? with
  | some oi, some oj => oi.apart ops oj
  | _, _ => true
/-- All that can be reckoned about the region's shape. -/
def regB (ops : Array Oper) (n : Nat) (ms ks : List Nat) : Bool :=
  Region.noSelect ops && decide (n < ops.size) && Region.sinkB .any ops n && Region.chainB .any ops n &&
  ordB .any ops (mkOf (ms.map fun i => (i, default))) n (ops.size - n) ks (Array.replicate ops.size false) && (ks.length == n) && nodupB ms && ms.all (fun i => decide (i < n)) &&
  ((List.range n).all fun i => (List.range ops.size).all fun j => i == j || match dstOf ops i with | none => true | some d => dstOf ops j != some d) &&
  (ms.all fun i => (List.range n).all fun j => i == j || apartB ops i j)

theorem ordB_congr {mk mk' : Nat → Option Obj} {n g : Nat} (h : ∀ i, (mk i).isSome = (mk' i).isSome) : ∀ (ks : List Nat) (listed : Array Bool), ordB md ops mk n g ks listed = ordB md ops mk' n g ks listed
  | [], _ => rfl
  | k :: ks, listed => by simp only [ordB, h k, ordB_congr h ks]

theorem conc_full {ops : Array Oper} {bs : Nat → Nat} {listed : Array Bool} (a : Act) : ∀ (l : List Nat), (∀ i ∈ l, listed.getD i false = true) →
    conc ops bs listed a l = l.foldr (fun i a => a.put (dstOf ops i) (ptr (bs i))) a
  | [], _ => rfl
  | i :: l, h => by
    have ih := conc_full (ops := ops) (bs := bs) a l (fun j hj => h j (List.mem_cons_of_mem _ hj))
    simp only [conc, List.foldr_cons] at ih ⊢
    rw [ih, h i (List.mem_cons_self ..)]
    rfl

/-- **The law.** n: how many operations stand ahead of the stores; mks: the makers among them, with what each makes; ks: the order of the walk (the makers may stand anywhere); A0: the frame behind the walk. -/
theorem wp_region_makers {P : Program} {id : Nat} {Q : Exit → Act → World → Prop} {a : Act} {W : World} {l : List Oper} (n : Nat) (mks : List (Nat × Obj)) (ks : List Nat) (A0 : Act) (qs : List Oper)
    (hm : P.follows .mixedOrders = true) (hB : regB l.toArray n (mks.map (·.1)) ks = true)
    (hrun : ∀ x ∈ mks, ∃ o, l[x.1]? = some o ∧ o.guard = none ∧ ∀ (a : Act) w, (execOp a.eval o).run P w = .ok (.value (ptr w.heap.size)) (w.alloc x.2))
    (hq : quiets l.toArray (mkOf mks) ks = qs)
    (h : ∀ W', BelowD W.heap.size W W' → wpQuiet P l.toArray (fun w' => ∃ p : Rg W', w' = grow (redrawn W' p.1.d) p.1.os) (fun a' => a' = A0) qs a)
    (fin : ∀ (bs : Nat → Nat) (w' : World), BelowD W.heap.size W w' → (∀ x ∈ mks, W.heap.size ≤ bs x.1 ∧ w'.heap[bs x.1]? = some x.2) → (∀ x ∈ mks, ∀ y ∈ mks, x.1 ≠ y.1 → bs x.1 ≠ bs y.1) →
      wpList P l.toArray Q (l.drop n) ((mks.map (·.1)).foldr (fun i a => a.put (dstOf l.toArray i) (ptr (bs i))) A0) w') :
    (Code.region id l.toArray true).wp P Q a W := by
  simp only [regB, Bool.and_eq_true, decide_eq_true_eq, List.all_eq_true, Bool.or_eq_true, beq_iff_eq, List.mem_range] at hB
  obtain ⟨⟨⟨⟨⟨⟨⟨⟨⟨hsel, hn⟩, hs⟩, hc⟩, hord⟩, hlen⟩, hnd⟩, hms⟩, hdst⟩, hap⟩ := hB
  have hnodup := nodupB_spec hnd
  have hiso : ∀ i, (mkOf ((mks.map (·.1)).map fun i => (i, (default : Obj))) i).isSome = (mkOf mks i).isSome := fun i => by
    rw [Bool.eq_iff_iff, mkOf_some, mkOf_some]
    simp
  rw [ordB_congr hiso] at hord
  have hM : MakersOK P l.toArray (mkOf mks) n (mks.map (·.1)) := by
    refine ⟨hnodup, fun i => mkOf_some, fun i obj hi => ?_, fun i oi j oj hi hoi hj hji hoj => ?_⟩
    · obtain ⟨o, ho, hg, hr⟩ := hrun _ (mkOf_mem hi)
      exact ⟨o, by simpa using ho, fun ts => by unfold Region.wanted; rw [hg], hr⟩
    · rcases hap i hi j hj with e | e
      · exact absurd e.symm hji
      · simpa [apartB, hoi, hoj] using e
  have hd : ∀ i j d, i < n → j < l.toArray.size → i ≠ j → dstOf l.toArray i = some d → dstOf l.toArray j ≠ some d := fun i j d hi hj hij he => by
    rcases hdst i hi j hj with e | e
    · exact absurd e hij
    · rw [he] at e; simpa using e
  have hd1 : ∀ i j d, i < n → j < n → i ≠ j → (l.toArray[i]?).bind (·.dst) = some d → (l.toArray[j]?).bind (·.dst) ≠ some d := fun i j d hi hj hij he => hd i j d hi (by omega) hij he
  have hd2 : ∀ i t d, i < n → n ≤ t → (l.toArray[i]?).bind (·.dst) = some d → (l.toArray[t]?).bind (·.dst) ≠ some d := fun i t d hi ht he => by
    rcases Nat.lt_or_ge t l.toArray.size with h' | h'
    · exact hd i t d hi h' (by omega) he
    · rw [Array.getElem?_eq_none h']; simp
  have hmn : ∀ i ∈ mks.map (·.1), i < n := hms
  have inv0 : HeadInv .any l.toArray n (Array.replicate l.toArray.size false) :=
    ⟨by simp, fun j oj _ hl => (by rw [getD_replicate_false] at hl; cases hl), fun t _ ht => getD_in (by simpa using ht) (getD_replicate_false _ _)⟩
  have hdr : BelowD W.heap.size W { W with drawn := W.drawn + 1 } := (BelowD.refl _ W).drew
  refine wp_region_any hm ?_
  have H := anyM_sound (P := P) (md := .any) (g := l.toArray.size - n) (A0 := A0) (Q := Q) (W := W) hsel hM hmn hn hd1 hd2
    (fun listed => Region.seqB .any l.toArray (l.toArray.size - n) n listed = true ∧ ((List.range n).all fun i => listed.getD i false) = true)
    (fun bs listed w hw hG hF => by
      have hall : ∀ i ∈ mks.map (·.1), listed.getD i false = true := fun i hi => List.all_eq_true.1 hG.2 i (List.mem_range.2 (hmn i hi))
      rw [conc_full _ _ hall]
      have hf := fin bs w hw (fun x hx => by
        obtain ⟨q1, obj, q2, q3⟩ := hF.at_ x.1 (List.mem_map_of_mem hx) (hall _ (List.mem_map_of_mem hx))
        rw [mkOf_of_mem hnodup hx] at q2
        cases q2
        exact ⟨q1, q3⟩) (fun x hx y hy hne => hF.ne _ (List.mem_map_of_mem hx) _ (List.mem_map_of_mem hy) (hall _ (List.mem_map_of_mem hx)) (hall _ (List.mem_map_of_mem hy)) hne)
      have := wpAny_of_seq (md := .any) (Q' := Q) (l.drop n) n listed _ w (fun j => by simp [List.getElem?_drop]) (by
        rw [show (l.drop n).length = l.toArray.size - n by simp]; exact hG.1) hf
      rwa [show (l.drop n).length = l.toArray.size - n by simp] at this)
    ks.length (fun _ => 0) (Array.replicate l.toArray.size false) a { W with drawn := W.drawn + 1 } inv0 hdr
    ⟨fun i _ hl => (by rw [getD_replicate_false] at hl; cases hl), fun i _ j _ hl => (by rw [getD_replicate_false] at hl; cases hl)⟩
    (fun W' hW' => by
      have := anyM_lex (P := P) (C := cls W') (mk := mkOf mks) (Lq := fun a' => a' = A0) hsel hs hc hn ks _ a inv0 hord (by rw [hq]; exact h W' (hdr.trans hW'))
      exact this)
  have hc0 : conc l.toArray (fun _ => 0) (Array.replicate l.toArray.size false) a (mks.map (·.1)) = a := by
    generalize mks.map (·.1) = ms
    induction ms with
    | nil => rfl
    | cons i ms ih => simp only [conc, List.foldr_cons, getD_replicate_false] at ih ⊢; simpa using ih
  rw [hc0, hlen, show n + (l.toArray.size - n) = l.toArray.size by omega] at H
  exact H

theorem cell_block {w : World} {b o : Nat} {vs : Array Value} {T : TypeId} {fz : Nat × Nat} {v : Value} (h : w.heap[b]? = some (.cells vs T fz)) (hv : vs[o]? = some v) : w.cell? ⟨b, o, none⟩ = some v := by
  unfold World.cell?; simp only [h]; simpa using hv
theorem frozen_block {w : World} {b o : Nat} {vs : Array Value} {T : TypeId} (h : w.heap[b]? = some (.cells vs T (0, 0))) : w.frozen? ⟨b, o, none⟩ = false := by
  unfold World.frozen?; simp only [h]; simp
theorem lt_block {w : World} {b : Nat} {x : Obj} (h : w.heap[b]? = some x) : b < w.heap.size := (Array.getElem?_eq_some_iff.1 h).1
end
end Go.Proofs.YtpnmapfabjdfjaaDoor.Dn

/-
  The order of sounds once more, with what it says of the tape: what the sort asks of its comparison.
-/
namespace Go.Proofs.YtpnmapfabjdfjaaDoor
/-- How two sounds compare. -/
def ordS (x y : Snd) : Int := ordN x.1.toNat x.2.toNat y.1.toNat y.2.toNat
end Go.Proofs.YtpnmapfabjdfjaaDoor
namespace Go.Proofs.YtpnmapfabjdfjaaDoor.Dn
open Go.RowKit Go.Sort Go.Proofs.YtpnmapfabjdfjaaDoor
attribute [local go_sem] sv
abbrev GivesD (f : Nat) (args : Array Value) (w : World) (v : Value) : Prop := Calls Tryd.prog f args w fun e w' => e = .returned v ∧ BelowD w.heap.size w w'
theorem GivesD.then {f : Nat} {args : Array Value} {w : World} {v : Value} {Q : Ending → World → Prop} (h : GivesD f args w v) (k : ∀ w1, BelowD w.heap.size w w1 → Q (.returned v) w1) : Calls Tryd.prog f args w Q := Calls.mono h (by rintro e w1 ⟨rfl, hb⟩; exact k w1 hb)
set_option maxHeartbeats 400000 in
theorem compare_d (x y : BitVec 32) (w : World) :
    Calls Tryd.prog 78 #[.int .u32 (x.toNat : Int), .int .u32 (y.toNat : Int)] w fun e w' => e = .returned (.int .i64 (cmpN x.toNat y.toNat)) ∧ BelowD w.heap.size w w' := by
  generalize x.toNat = X
  generalize y.toNat = Y
  by_cases h : X < Y
  · have e : cmpN X Y = -1 := by simp [cmpN, h]
    rw [e]; clear e
    go_enter Tryd.func78, Tryd.ntmps78
    go_wp2_with (go_at_call 100; refine (isNaN_any _ _).mono ?_; rintro e w1 ⟨rfl, rfl⟩)
    go_returns
    exact ⟨rfl, BelowD.refl _ _⟩
  · by_cases h2 : Y < X
    · have e : cmpN X Y = 1 := by simp [cmpN, h, h2]
      rw [e]; clear e
      go_enter Tryd.func78, Tryd.ntmps78
      go_wp2_with (go_at_call 100; refine (isNaN_any _ _).mono ?_; rintro e w1 ⟨rfl, rfl⟩)
      go_returns
      exact ⟨rfl, BelowD.refl _ _⟩
    · have e : cmpN X Y = 0 := by simp [cmpN, h, h2]
      rw [e]; clear e
      go_enter Tryd.func78, Tryd.ntmps78
      go_wp2_with (go_at_call 100; refine (isNaN_any _ _).mono ?_; rintro e w1 ⟨rfl, rfl⟩)
      go_returns
      exact ⟨rfl, BelowD.refl _ _⟩
set_option maxHeartbeats 1000000 in
theorem or_d (x y : Int) (b : Nat) (w : World) (h0 : w.cell? ⟨b, 0, none⟩ = some (.int .i64 x)) (h1 : w.cell? ⟨b, 1, none⟩ = some (.int .i64 y)) :
    Calls Tryd.prog 77 #[.slice (some ⟨b, 0, none⟩) 2 2] w fun e w' => e = .returned (.int .i64 (if x = 0 then y else x)) ∧ BelowD w.heap.size w w' := by
  by_cases hx : x = 0
  · subst hx
    rw [if_pos rfl]
    by_cases hy : y = 0
    · subst hy
      go_enter Tryd.func77, Tryd.ntmps77
      go_wp2
      go_rounds 3
      go_returns
      exact ⟨rfl, ⟨by go_grown, by first | exact Nat.le_refl _ | (simp only [World.drawn_alloc, World.drawn_setCell, World.drawn_drew]; omega)⟩⟩
    · go_enter Tryd.func77, Tryd.ntmps77
      go_wp2
      go_rounds 3
      go_returns
      exact ⟨rfl, ⟨by go_grown, by first | exact Nat.le_refl _ | (simp only [World.drawn_alloc, World.drawn_setCell, World.drawn_drew]; omega)⟩⟩
  · rw [if_neg hx]
    go_enter Tryd.func77, Tryd.ntmps77
    go_wp2
    go_rounds 3
    go_returns
    exact ⟨rfl, ⟨by go_grown, by first | exact Nat.le_refl _ | (simp only [World.drawn_alloc, World.drawn_setCell, World.drawn_drew]; omega)⟩⟩

set_option maxHeartbeats 1000000 in
theorem orderF_d (p m q n : BitVec 32) (w : World) : GivesD 41 #[sn p.toNat m.toNat, sn q.toNat n.toNat] w (.int .i64 (ordS (p, m) (q, n))) := by
  unfold GivesD
  generalize ho : ordS (p, m) (q, n) = o
  have HO := Lib.hid ho; clear ho
  go_enter Tryd.func41, Tryd.ntmps41
  go_wp2_with fail
  refine wp_gen ?_
  intro W1 hW1
  have hw1 : Below w.heap.size w W1 := by rw [hW1]; go_grown
  have hd1 : w.drawn ≤ W1.drawn := by rw [hW1]; simp only [World.drawn_alloc, World.drawn_setCell]; omega
  have hz1 : w.heap.size + 1 + 1 ≤ W1.heap.size := by rw [hW1]; go_size
  have g0 : W1.cell? ⟨w.heap.size, 0, none⟩ = some (.int .u32 (p.toNat : Int)) := by rw [hW1]; first | go_cell | (go_simp; done)
  have g1 : W1.cell? ⟨w.heap.size, 1, none⟩ = some (.int .u32 (m.toNat : Int)) := by rw [hW1]; first | go_cell | (go_simp; done)
  have g2 : W1.cell? ⟨w.heap.size + 1, 0, none⟩ = some (.int .u32 (q.toNat : Int)) := by rw [hW1]; first | go_cell | (go_simp; done)
  have g3 : W1.cell? ⟨w.heap.size + 1, 1, none⟩ = some (.int .u32 (n.toNat : Int)) := by rw [hW1]; first | go_cell | (go_simp; done)
  clear hW1
  refine Dn.wp_region_makers 10 [] [0, 1, 2, 3, 4, 5, 6, 7, 8, 9] ?A1 _ (by kernel_rfl) (by kernel_rfl) ?hrun1 (by simp [Dn.quiets, Dn.mkOf]; rfl) ?walk1 ?fin1
  case hrun1 =>
    intro x hx
    cases hx
  case walk1 =>
    intro W2 hW2
    have e0 := (hW2.b.cell (p := ⟨w.heap.size, 0, none⟩) (by (try simp only []); omega)).trans g0
    have k0 := cell_regrown e0
    have e1 := (hW2.b.cell (p := ⟨w.heap.size, 1, none⟩) (by (try simp only []); omega)).trans g1
    have k1 := cell_regrown e1
    have e2 := (hW2.b.cell (p := ⟨w.heap.size + 1, 0, none⟩) (by (try simp only []); omega)).trans g2
    have k2 := cell_regrown e2
    have e3 := (hW2.b.cell (p := ⟨w.heap.size + 1, 1, none⟩) (by (try simp only []); omega)).trans g3
    have k3 := cell_regrown e3
    repeat (go_big_quiet_step (first | (go_at_call 78; exact Dn.Calls.regrownD_of (compare_d _ _ _))))
    refine wpQuiet_nil ?_
    rfl
  intro bs w2 hb hF hN
  have hw := chain hw1 (by omega) hb.b
  have hd2 := Nat.le_trans hd1 hb.dr
  have hz := hb.size
  clear hb hF hN hw1 g0 g1 g2 g3
  simp only [List.map_cons, List.map_nil, List.foldr_cons, List.foldr_nil] at *
  clear bs
  simp only [Dn.dstOf, Dn.ptr, Act.put, List.getElem?_toArray, List.getElem?_cons_succ, List.getElem?_cons_zero, Option.bind_some, List.setIfInBounds_toArray, List.set_cons_zero, List.set_cons_succ, List.drop_succ_cons, List.drop_zero]
  go_wp2_with fail
  go_at_call 77
  refine GivesD.then (or_d (cmpN p.toNat q.toNat) (cmpN m.toNat n.toNat) _ _ (by first | go_cell | (go_simp; done) | (simp [World.cell?, World.alloc]; done)) (by first | go_cell | (go_simp; done) | (simp [World.cell?, World.alloc]; done))) ?_
  intro w3 hb3
  go_wp2_with fail
  all_goals go_returns
  all_goals exact ⟨by rw [← HO.out]; simp [ordS, ordN, *], ⟨hw.trans ((by go_grown : Below w2.heap.size w2 _).trans (hb3.b.mono (by go_size)) |>.mono hw.size), by have := hb3.dr; simp only [World.drawn_alloc, World.drawn_setCell] at this; omega⟩⟩
end Go.Proofs.YtpnmapfabjdfjaaDoor.Dn
