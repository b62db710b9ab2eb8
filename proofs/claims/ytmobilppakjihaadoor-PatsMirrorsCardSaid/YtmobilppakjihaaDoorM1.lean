/-
  Lemmas that the theorem of this claim rests on: 11 texts, one behind the other.
-/
import Derived.WalkKit
import Derived.Lib.QuietBelow
import Derived.StillTail
import Derived.Barred
import Derived.Test.YtmobilppakjihaaDoorProg
import Derived.WalkSpells
import Derived.WalkLawsBesides
import Derived.BigQuiet
import Derived.Handy
import Derived.Lib.Hide
import Derived.Deep.RegionHeld3
import Derived.OwnWalk
import Derived.Laws.AppendOwnNone
import Derived.RangeFuncBox
import Derived.Lib.SliceRun
import Derived.Lib.AppendZeros
set_option linter.unusedSimpArgs false
set_option linter.unusedVariables false
/-
  The arithmetic of 32-bit sets as the walk writes it, in words of BitVec 32. No program is named here.
-/
namespace Go.Proofs.YtmobilppakjihaaDoor
open Go.RowKit

theorem ofInt32_nat (x : BitVec 32) : BitVec.ofInt 32 (x.toNat : Int) = x := by
  rw [BitVec.ofInt_natCast]; simp
theorem u32_lt (x : BitVec 32) : x.toNat < 4294967296 := x.isLt
theorem wrap_u32_nat (x : BitVec 32) : IntKind.u32.wrap (x.toNat : Int) = (x.toNat : Int) := by
  have := u32_lt x; rw [IntKind.wrap_u32]; omega
theorem bv_and (a b : Int) : bits .and .u32 a b = ((BitVec.ofInt 32 a &&& BitVec.ofInt 32 b).toNat : Int) := by
  show IntKind.u32.wrap _ = _; exact wrap_u32_nat _
theorem bv_or (a b : Int) : bits .or .u32 a b = ((BitVec.ofInt 32 a ||| BitVec.ofInt 32 b).toNat : Int) := by
  show IntKind.u32.wrap _ = _; exact wrap_u32_nat _
theorem bv_xor (a b : Int) : bits .xor .u32 a b = ((BitVec.ofInt 32 a ^^^ BitVec.ofInt 32 b).toNat : Int) := by
  show IntKind.u32.wrap _ = _; exact wrap_u32_nat _
theorem bv_andNot (a b : Int) : bits .andNot .u32 a b = ((BitVec.ofInt 32 a &&& ~~~BitVec.ofInt 32 b).toNat : Int) := by
  show IntKind.u32.wrap _ = _; exact wrap_u32_nat _
theorem nat_beq (x y : BitVec 32) : (((x.toNat : Nat) : Int) == ((y.toNat : Nat) : Int)) = (x == y) := by
  rw [Bool.eq_iff_iff]; simp [BitVec.toNat_inj, Int.ofNat_inj]
theorem nat_beq0 (x : BitVec 32) : (((x.toNat : Nat) : Int) == 0) = (x == 0#32) := by
  have := nat_beq x 0#32; simpa using this
/-- A sound as a value. -/
abbrev sv (p m : BitVec 32) : Value := .agg #[.int .u32 (p.toNat : Int), .int .u32 (m.toNat : Int)]
/-- The set of one feature. -/
def bit (k : Nat) : BitVec 32 := 1#32 <<< k
theorem bit_toNat (k : Nat) (hk : k < 32) : (bit k).toNat = 2 ^ k := by
  unfold bit
  rw [BitVec.toNat_shiftLeft, Nat.shiftLeft_eq]
  have : 2 ^ k < 2 ^ 32 := Nat.pow_lt_pow_right (by omega) hk
  simp; omega
theorem pow_bit (k : Nat) (hk : k < 32) : (2 : Int) ^ k % 4294967296 = ((bit k).toNat : Int) := by
  have h2 : 2 ^ k < 2 ^ 32 := Nat.pow_lt_pow_right (by omega) hk
  rw [bit_toNat k hk, show (2 ^ k : Int) = ((2 ^ k : Nat) : Int) from by simp]
  generalize 2 ^ k = z at *
  omega
theorem bit_get (k j : Nat) (hk : k < 32) : (bit k).getLsbD j = decide (j = k) := by
  unfold bit
  rw [BitVec.getLsbD_shiftLeft]
  by_cases h : j = k
  · subst h; simp [hk]
  · simp [h]; intro _ h2 h3; omega
theorem and_bit (x : BitVec 32) (k : Nat) (hk : k < 32) : x.toNat &&& (bit k).toNat = 0 ↔ x.getLsbD k = false := by
  rw [← BitVec.toNat_and, show (0 : Nat) = (0#32).toNat from rfl, BitVec.toNat_inj]
  constructor
  · intro h
    have := congrArg (fun y => y.getLsbD k) h
    simpa [bit_get k k hk] using this
  · intro h
    apply BitVec.eq_of_getLsbD_eq
    intro j hj
    simp [bit_get k j hk]
    intro h1 h2; subst h2; simp [h] at h1
/-- The value of a feature. -/
def getV (p m : BitVec 32) (k : Nat) : Int := if p.getLsbD k then 1 else if m.getLsbD k then -1 else 0
/-- A sound with another value of a feature. -/
def withP (p : BitVec 32) (k : Nat) (v : Int) : BitVec 32 := if v = 1 then (p &&& ~~~bit k) ||| bit k else p &&& ~~~bit k
def withM (m : BitVec 32) (k : Nat) (v : Int) : BitVec 32 := if v = -1 then (m &&& ~~~bit k) ||| bit k else m &&& ~~~bit k
/-- The complement of a set, as one word. -/
def bnot (c : BitVec 32) : BitVec 32 := ~~~c
theorem bnot_toNat (c : BitVec 32) : (bnot c).toNat = 4294967295 - c.toNat := by unfold bnot; simp
theorem xor_all (c : BitVec 32) : 4294967295 ^^^ c.toNat = (bnot c).toNat := by
  rw [show (4294967295 : Nat) = (BitVec.allOnes 32).toNat from by decide, ← BitVec.toNat_xor, BitVec.allOnes_xor]; rfl
theorem u32_unsigned : IntKind.u32.signed = false := rfl
theorem u32_max : IntKind.u32.max = 4294967295 := rfl
theorem sub_mod (x : Nat) : (4294967295 - x) % 4294967296 = 4294967295 - x := by omega
/-- Which sounds are valid. -/
def vld (p m : BitVec 32) : Bool := (p &&& m == 0#32) && ((p ||| m) &&& ~~~16777215#32 == 0#32)
end Go.Proofs.YtmobilppakjihaaDoor

/-
  A region that draws its order: its operations read, or call functions that leave what was there as it was, or make an empty variable of the call's own; behind them, in one forced order, the stores. One walk in the order of the text serves every order. No program is named here.
-/
namespace Go.Proofs.YtmobilppakjihaaDoor
open Go.RowKit Go.Sort

section
variable {P : Program} {ops : Array Oper} {md : Region.Mode} {C : World → Prop} {mk : Nat → Option Obj}

/-- The worlds in which all blocks of W stand as they stood. -/
def cls (W : World) : World → Prop := fun w' => ∃ p : Regrown, w' = grow (redrawn W p.d) p.os
theorem cls_of {W w : World} (h : Below W.heap.size W w) : cls W w := regrown_of_below h
theorem cls_to {W w : World} (h : cls W w) : Below W.heap.size W w := by obtain ⟨p, rfl⟩ := h; exact below_regrown _ _ _

/-- Whatever order the head is carried out in; what a maker yields is not looked at. -/
def anyM (P : Program) (md : Region.Mode) (ops : Array Oper) (C : World → Prop) (mk : Nat → Option Obj) (n : Nat) (L : Array Bool → Act → Prop) : Nat → Array Bool → Act → Prop
  | 0, listed, a => L listed a
  | f + 1, listed, a => Region.ready md ops listed ≠ [] ∧ ∀ i ∈ Region.ready md ops listed, i < n ∧
      (if (mk i).isSome then anyM P md ops C mk n L f (listed.setIfInBounds i true) a else qOp P ops C i (anyM P md ops C mk n L f (listed.setIfInBounds i true)) a)

theorem anyM_first {n i : Nat} {oi : Oper} {v : Value} {L : Array Bool → Act → Prop} (hi : ops[i]? = some oi) (hmi : (mk i).isSome = false)
    (hsel : ∀ (j : Nat) (o : Oper) cs b, ops[j]? = some o → o.op ≠ .select cs b)
    (hs : Region.sinkB md ops n = true) (hc : Region.chainB md ops n = true) (hn : n < ops.size) (hin : i < n)
    (hdone : ∀ listed a, L listed a → ∀ j ∈ Region.ready md ops listed, n ≤ j) :
    ∀ (f : Nat) (listed : Array Bool) (a : Act), HeadInv md ops n listed →
      (∀ j oj, ops[j]? = some oj → j ≠ i → listed.getD j true = false → (∀ e ∈ oj.after, Region.binds md e = true → e.on ≠ i) → oi.apart ops oj = true) →
      i ∈ Region.ready md ops listed → YieldsIn P ops C oi v a →
      anyM P md ops C mk n L f (listed.setIfInBounds i true) (a.put oi.dst v) → anyM P md ops C mk n L (f + 1) listed a := by
  intro f
  induction f with
  | zero =>
    intro listed a inv _ hr hy H
    have hun := (mem_ready.1 hr).1
    refine ⟨fun h => (by rw [h] at hr; cases hr), fun j hj => ?_⟩
    have hjn : j < n := by
      rcases Nat.lt_or_ge j n with h | h
      · exact h
      · exact absurd hj (tail_waits hs hc hn inv _ i rfl hin hun j h)
    refine ⟨hjn, ?_⟩
    by_cases hji : j = i
    · subst hji; rw [if_neg (by simp [hmi])]; exact hy.qOp hi H
    · have := hdone _ _ H j (ready_mono hj hji)
      omega
  | succ f ih =>
    intro listed a inv hfree hr hy H
    have hun := (mem_ready.1 hr).1
    refine ⟨fun h => (by rw [h] at hr; cases hr), fun j hj => ?_⟩
    have hjn : j < n := by
      rcases Nat.lt_or_ge j n with h | h
      · exact h
      · exact absurd hj (tail_waits hs hc hn inv _ i rfl hin hun j h)
    refine ⟨hjn, ?_⟩
    by_cases hji : j = i
    · subst hji; rw [if_neg (by simp [hmi])]; exact hy.qOp hi H
    · have h1 := (H.2 j (ready_mono hj hji)).2
      obtain ⟨hjun, oj, hoj, hall⟩ := mem_ready.1 hj
      have hnot : ∀ e ∈ oj.after, Region.binds md e = true → e.on ≠ i := fun e he hb heq => by
        have h1 := hall e he hb
        rw [heq, getD_both hun] at h1
        cases h1
      have hfree' : ∀ k ok, ops[k]? = some ok → k ≠ i → (listed.setIfInBounds j true).getD k true = false →
          (∀ e ∈ ok.after, Region.binds md e = true → e.on ≠ i) → oi.apart ops ok = true := fun k ok hk hki hun hno => by
        refine hfree k ok hk hki ?_ hno
        by_cases hjk : j = k
        · subst hjk; exact hjun
        · rw [getD_set_ne true hjk] at hun; exact hun
      by_cases hmj : (mk j).isSome = true
      · rw [if_pos hmj] at h1 ⊢
        refine ih (listed.setIfInBounds j true) a (inv.set hj hjn) hfree' (ready_mono hr (Ne.symm hji)) hy ?_
        rw [Array.setIfInBounds_comm _ _ hji]
        exact h1
      · rw [if_neg hmj] at h1 ⊢
        have h2 := qOp_put hoj (hfree j oj hoj hji hjun hnot) (fun cs b => hsel i oi cs b hi) (fun cs b => hsel j oj cs b hoj) hy h1
        refine qOp_mono (fun a' h3 => ih (listed.setIfInBounds j true) a' (inv.set hj hjn) hfree' (ready_mono hr (Ne.symm hji)) h3.1 ?_) h2
        rw [Array.setIfInBounds_comm _ _ hji]
        exact h3.2

theorem anyM_maker {n i : Nat} {L : Array Bool → Act → Prop} (hmi : (mk i).isSome = true)
    (hs : Region.sinkB md ops n = true) (hc : Region.chainB md ops n = true) (hn : n < ops.size) (hin : i < n)
    (hdone : ∀ listed a, L listed a → ∀ j ∈ Region.ready md ops listed, n ≤ j) :
    ∀ (f : Nat) (listed : Array Bool) (a : Act), HeadInv md ops n listed → i ∈ Region.ready md ops listed →
      anyM P md ops C mk n L f (listed.setIfInBounds i true) a → anyM P md ops C mk n L (f + 1) listed a := by
  intro f
  induction f with
  | zero =>
    intro listed a inv hr H
    have hun := (mem_ready.1 hr).1
    refine ⟨fun h => (by rw [h] at hr; cases hr), fun j hj => ?_⟩
    have hjn : j < n := by
      rcases Nat.lt_or_ge j n with h | h
      · exact h
      · exact absurd hj (tail_waits hs hc hn inv _ i rfl hin hun j h)
    refine ⟨hjn, ?_⟩
    by_cases hji : j = i
    · subst hji; rw [if_pos hmi]; exact H
    · have := hdone _ _ H j (ready_mono hj hji)
      omega
  | succ f ih =>
    intro listed a inv hr H
    have hun := (mem_ready.1 hr).1
    refine ⟨fun h => (by rw [h] at hr; cases hr), fun j hj => ?_⟩
    have hjn : j < n := by
      rcases Nat.lt_or_ge j n with h | h
      · exact h
      · exact absurd hj (tail_waits hs hc hn inv _ i rfl hin hun j h)
    refine ⟨hjn, ?_⟩
    by_cases hji : j = i
    · subst hji; rw [if_pos hmi]; exact H
    · have h1 := (H.2 j (ready_mono hj hji)).2
      have step : ∀ a', anyM P md ops C mk n L f ((listed.setIfInBounds i true).setIfInBounds j true) a' → anyM P md ops C mk n L (f + 1) (listed.setIfInBounds j true) a' := fun a' h => by
        refine ih (listed.setIfInBounds j true) a' (inv.set hj hjn) (ready_mono hr (Ne.symm hji)) ?_
        rw [Array.setIfInBounds_comm _ _ hji]
        exact h
      by_cases hmj : (mk j).isSome = true
      · rw [if_pos hmj] at h1 ⊢; exact step a h1
      · rw [if_neg hmj] at h1 ⊢; exact qOp_mono step h1

/-- The head, in the order of the list: the operations that are no makers first. -/
def ordB (md : Region.Mode) (ops : Array Oper) (mk : Nat → Option Obj) (n g : Nat) : List Nat → Array Bool → Bool
  | [], listed => Region.seqB md ops g n listed && (List.range n).all fun i => listed.getD i false
  | k :: ks, listed => (Region.ready md ops listed).contains k && decide (k < n) && ((mk k).isSome || Region.free md ops listed k) && ordB md ops mk n g ks (listed.setIfInBounds k true)
def quiets (ops : Array Oper) (mk : Nat → Option Obj) (ks : List Nat) : List Oper := ks.filterMap fun k => if (mk k).isSome then none else ops[k]?

theorem anyM_lex {n g : Nat} {Lq : Act → Prop} (hsel : Region.noSelect ops = true) (hs : Region.sinkB md ops n = true) (hc : Region.chainB md ops n = true) (hn : n < ops.size) :
    ∀ (ks : List Nat) (listed : Array Bool) (a : Act), HeadInv md ops n listed → ordB md ops mk n g ks listed = true → wpQuiet P ops C Lq (quiets ops mk ks) a →
    anyM P md ops C mk n (fun listed' a' => (Region.seqB md ops g n listed' = true ∧ ((List.range n).all fun i => listed'.getD i false) = true) ∧ Lq a') ks.length listed a
  | [], listed, a, _, hB, h => by
    simp only [ordB, Bool.and_eq_true] at hB
    exact ⟨hB, h⟩
  | k :: ks, listed, a, inv, hB, h => by
    simp only [ordB, Bool.and_eq_true, decide_eq_true_eq] at hB
    obtain ⟨⟨⟨hr, hkn⟩, hf⟩, hB'⟩ := hB
    have hr' : k ∈ Region.ready md ops listed := by simpa using hr
    have hd : ∀ (listed : Array Bool) (a : Act), ((Region.seqB md ops g n listed = true ∧ ((List.range n).all fun i => listed.getD i false) = true) ∧ Lq a) → ∀ j ∈ Region.ready md ops listed, n ≤ j := fun listed a hL => seqB_ready hL.1.1
    obtain ⟨_, o, ho, _⟩ := mem_ready.1 hr'
    by_cases hm : (mk k).isSome = true
    · have hq : quiets ops mk (k :: ks) = quiets ops mk ks := by unfold quiets; rw [List.filterMap_cons_none (by rw [if_pos hm])]
      rw [hq] at h
      exact anyM_maker hm hs hc hn hkn hd ks.length listed a inv hr' (anyM_lex hsel hs hc hn ks _ a (inv.set hr' hkn) hB' h)
    · have hq : quiets ops mk (k :: ks) = o :: quiets ops mk ks := by unfold quiets; rw [List.filterMap_cons_some (by rw [if_neg hm]; exact ho)]
      rw [hq] at h
      have hf' : Region.free md ops listed k = true := by simpa [hm] using hf
      have hst : qOp P ops C k (wpQuiet P ops C Lq (quiets ops mk ks)) a := by unfold qOp; simp only [ho]; exact h
      obtain ⟨v, hy, hK⟩ := yieldsIn_of_qOp ho hst
      exact anyM_first ho (by simpa using hm) (Region.noSelect_spec hsel) hs hc hn hkn hd ks.length listed a inv (Region.free_spec ho hf') hr' hy
        (anyM_lex hsel hs hc hn ks _ _ (inv.set hr' hkn) hB' hK)

theorem put_slot {a : Act} {dst : Option Tmp} {d : Tmp} (v : Value) (h : dst ≠ some d) : (a.put dst v).tmps[d]? = a.tmps[d]? := by
  cases dst with
  | none => rfl
  | some e =>
    have : e ≠ d := fun he => h (by rw [he])
    simp [Act.put, Array.getElem?_setIfInBounds_ne this]
theorem put_same {a : Act} {dst : Option Tmp} {v v' : Value} (h : ∀ d, dst = some d → (a.put dst v).tmps[d]? = (a.put dst v').tmps[d]?) : a.put dst v = a.put dst v' := by
  cases dst with
  | none => rfl
  | some d =>
    have := h d rfl
    simp only [Act.put] at this ⊢
    rcases Nat.lt_or_ge d a.tmps.size with hd | hd
    · simp [hd] at this; rw [this]
    · rw [Array.setIfInBounds_eq_of_size_le hd, Array.setIfInBounds_eq_of_size_le hd]

theorem anyM_slot {n : Nat} {G : Array Bool → Prop} {A0 : Act} {d : Tmp} : ∀ (f : Nat) (listed : Array Bool) (a : Act),
    anyM P md ops C mk n (fun l' a' => G l' ∧ a' = A0) f listed a → (∀ k, listed.getD k true = false → (ops[k]?).bind (·.dst) ≠ some d) → a.tmps[d]? = A0.tmps[d]?
  | 0, _, a, h, _ => by rw [h.2]
  | f + 1, listed, a, h, hd => by
    obtain ⟨i, hi⟩ := List.exists_mem_of_ne_nil _ h.1
    have h1 := (h.2 i hi).2
    obtain ⟨hun, o, ho, _⟩ := mem_ready.1 hi
    have hdi : o.dst ≠ some d := by have := hd i hun; rw [ho] at this; exact this
    have hd' : ∀ k, (listed.setIfInBounds i true).getD k true = false → (ops[k]?).bind (·.dst) ≠ some d := fun k hk => by
      by_cases hik : i = k
      · subst hik; exact hd i hun
      · rw [getD_set_ne true hik] at hk; exact hd k hk
    by_cases hm : (mk i).isSome = true
    · rw [if_pos hm] at h1; exact anyM_slot f _ a h1 hd'
    · rw [if_neg hm] at h1
      unfold qOp at h1
      simp only [ho] at h1
      split at h1
      · obtain ⟨v, _, hk⟩ := h1
        have := anyM_slot f _ _ hk hd'
        rwa [put_slot _ hdi] at this
      · have := anyM_slot f _ _ h1 hd'
        rwa [put_slot _ hdi] at this

def ptr (b : Nat) : Value := .pointer (some ⟨b, 0, none⟩)
/-- The frame with what the makers that have come up have yielded. -/
def conc (ops : Array Oper) (bs : Nat → Nat) (listed : Array Bool) (a : Act) (ms : List Nat) : Act :=
  ms.foldr (fun i a => if listed.getD i false then a.put ((ops[i]?).bind (·.dst)) (ptr (bs i)) else a) a

/-- What is asked of the makers. -/
structure MakersOK (P : Program) (ops : Array Oper) (mk : Nat → Option Obj) (n : Nat) (ms : List Nat) : Prop where
  nodup : ms.Nodup
  all : ∀ i, (mk i).isSome = true ↔ i ∈ ms
  run : ∀ i obj, mk i = some obj → ∃ o, ops[i]? = some o ∧ (∀ ts, Region.wanted o (yielded ops ts) = true) ∧ ∀ (a : Act) w, (execOp a.eval o).run P w = .ok (.value (ptr w.heap.size)) (w.alloc obj)
  apart : ∀ i oi j oj, i ∈ ms → ops[i]? = some oi → j < n → j ≠ i → ops[j]? = some oj → oi.apart ops oj = true

variable {n : Nat} {ms : List Nat}

theorem conc_exec (hM : MakersOK P ops mk n ms) (bs : Nat → Nat) (listed : Array Bool) (a : Act) {j : Nat} {oj : Oper} (hj : ops[j]? = some oj) (hjn : j < n) (hmj : j ∉ ms)
    (hsel : ∀ cs b, oj.op ≠ .select cs b) : ∀ (l : List Nat), (∀ i ∈ l, i ∈ ms) →
    execOp (conc ops bs listed a l).eval oj = execOp a.eval oj ∧ Region.wanted oj (yielded ops (conc ops bs listed a l).tmps) = Region.wanted oj (yielded ops a.tmps) ∧
    ∀ v, (conc ops bs listed a l).put oj.dst v = conc ops bs listed (a.put oj.dst v) l
  | [], _ => ⟨rfl, rfl, fun _ => rfl⟩
  | i :: l, hl => by
    obtain ⟨h1, h2, h3⟩ := conc_exec hM bs listed a hj hjn hmj hsel l (fun i hi => hl i (List.mem_cons_of_mem _ hi))
    have him := hl i (List.mem_cons_self ..)
    obtain ⟨obj, hobj⟩ := Option.isSome_iff_exists.1 ((hM.all i).2 him)
    obtain ⟨oi, hoi, _⟩ := hM.run i obj hobj
    obtain ⟨a1, a2, a3⟩ := Oper.apart_spec (hM.apart i oi j oj him hoi hjn (fun e => hmj (e ▸ him)) hj)
    simp only [conc, List.foldr_cons, hoi, Option.bind_some]
    by_cases hli : listed.getD i false = true
    · simp only [hli, if_true]
      refine ⟨?_, ?_, fun v => ?_⟩
      · rw [execOp_put oj hsel _ _ _ a1]; exact h1
      · rw [wanted_put oj _ _ _ a1]; exact h2
      · rw [Act.put_comm _ _ _ a2]; exact congrArg (fun x => Act.put x oi.dst (ptr (bs i))) (h3 v)
    · simp only [hli]
      exact ⟨h1, h2, h3⟩

theorem conc_other (bs : Nat → Nat) (listed : Array Bool) (a : Act) {j : Nat} : ∀ (l : List Nat), j ∉ l → conc ops bs (listed.setIfInBounds j true) a l = conc ops bs listed a l
  | [], _ => rfl
  | i :: l, h => by
    have hij : j ≠ i := fun e => h (e ▸ List.mem_cons_self ..)
    have ih := conc_other bs listed a l (fun hm => h (List.mem_cons_of_mem _ hm))
    simp only [conc, List.foldr_cons] at ih ⊢
    rw [getD_set_ne false hij, ih]

theorem conc_bs (bs bs' : Nat → Nat) (listed : Array Bool) (a : Act) : ∀ (l : List Nat), (∀ i ∈ l, bs i = bs' i) → conc ops bs listed a l = conc ops bs' listed a l
  | [], _ => rfl
  | i :: l, h => by
    have ih := conc_bs bs bs' listed a l (fun j hj => h j (List.mem_cons_of_mem _ hj))
    simp only [conc, List.foldr_cons] at ih ⊢
    rw [ih, h i (List.mem_cons_self ..)]

def upd (bs : Nat → Nat) (i b : Nat) : Nat → Nat := fun k => if k = i then b else bs k
theorem upd_same (bs : Nat → Nat) (i b : Nat) : upd bs i b i = b := if_pos rfl
theorem upd_ne (bs : Nat → Nat) {i k : Nat} (b : Nat) (h : k ≠ i) : upd bs i b k = bs k := if_neg h

theorem conc_set (hM : MakersOK P ops mk n ms) (hmn : ∀ i ∈ ms, i < n) (bs : Nat → Nat) (listed : Array Bool) (a : Act) {i : Nat} {oi : Oper} (hoi : ops[i]? = some oi) (him : i ∈ ms) (b : Nat) (hi : i < listed.size) (hun : listed.getD i false = false) :
    ∀ (l : List Nat), (∀ i ∈ l, i ∈ ms) → l.Nodup → i ∈ l → conc ops (upd bs i b) (listed.setIfInBounds i true) a l = (conc ops bs listed a l).put oi.dst (ptr b)
  | h :: l, hl, hnd, hin => by
    rw [List.nodup_cons] at hnd
    by_cases hhi : h = i
    · subst hhi
      have e1 : conc ops (upd bs h b) (listed.setIfInBounds h true) a l = conc ops bs listed a l := by
        rw [conc_other (j := h) _ _ _ l hnd.1]
        exact conc_bs _ _ _ _ l fun k hk => upd_ne bs b (fun e => hnd.1 (e ▸ hk))
      simp only [conc, List.foldr_cons] at e1 ⊢
      rw [e1, upd_same, hun, hoi]
      simp [hi]
    · have hil : i ∈ l := (List.mem_cons.1 hin).elim (fun e => absurd e.symm hhi) id
      have ih := conc_set hM hmn bs listed a hoi him b hi hun l (fun j hj => hl j (List.mem_cons_of_mem _ hj)) hnd.2 hil
      have hhm := hl h (List.mem_cons_self ..)
      obtain ⟨obj, hobj⟩ := Option.isSome_iff_exists.1 ((hM.all h).2 hhm)
      obtain ⟨oh, hoh, _⟩ := hM.run h obj hobj
      obtain ⟨_, a2, _⟩ := Oper.apart_spec (hM.apart i oi h oh him hoi (hmn h hhm) hhi hoh)
      simp only [conc, List.foldr_cons] at ih ⊢
      rw [getD_set_ne false (Ne.symm hhi), ih, upd_ne bs b hhi, hoh]
      simp only [Option.bind_some]
      by_cases hlh : listed.getD h false = true
      · simp only [hlh, if_true]
        exact Act.put_comm _ _ _ a2
      · simp only [hlh]
        rfl

/-- What is known of the makers' blocks. -/
structure Facts (W w : World) (mk : Nat → Option Obj) (ms : List Nat) (listed : Array Bool) (bs : Nat → Nat) : Prop where
  at_ : ∀ i ∈ ms, listed.getD i false = true → W.heap.size ≤ bs i ∧ ∃ obj, mk i = some obj ∧ w.heap[bs i]? = some obj
  ne : ∀ i ∈ ms, ∀ j ∈ ms, listed.getD i false = true → listed.getD j false = true → i ≠ j → bs i ≠ bs j

theorem anyM_sound {g : Nat} {A0 : Act} {Q : Exit → Act → World → Prop} {W : World} (hsel : Region.noSelect ops = true) (hM : MakersOK P ops mk n ms) (hmn : ∀ i ∈ ms, i < n) (hn : n < ops.size)
    (hd : ∀ i j d, i < n → j < n → i ≠ j → (ops[i]?).bind (·.dst) = some d → (ops[j]?).bind (·.dst) ≠ some d)
    (hdt : ∀ i t d, i < n → n ≤ t → (ops[i]?).bind (·.dst) = some d → (ops[t]?).bind (·.dst) ≠ some d)
    (G : Array Bool → Prop)
    (fin : ∀ bs listed w, Below W.heap.size W w → G listed → Facts W w mk ms listed bs → wpAny P md ops Q g listed (conc ops bs listed A0 ms) w) :
    ∀ (f : Nat) (bs : Nat → Nat) (listed : Array Bool) (a : Act) (w : World), HeadInv md ops n listed → Below W.heap.size W w → Facts W w mk ms listed bs →
      (∀ W', Below w.heap.size w W' → anyM P md ops (cls W') mk n (fun l' a' => G l' ∧ a' = A0) f listed a) →
      wpAny P md ops Q (f + g) listed (conc ops bs listed a ms) w
  | 0, bs, listed, a, w, _, hB, hF, H => by
    obtain ⟨h1, h2⟩ := H w (Below.refl _ _)
    subst h2
    rw [Nat.zero_add]
    exact fin bs listed w hB h1 hF
  | f + 1, bs, listed, a, w, inv, hB, hF, H => by
    rw [show f + 1 + g = (f + g) + 1 by omega]
    refine ⟨fun h0 => absurd h0 (H w (Below.refl _ _)).1, fun i hi => ?_⟩
    obtain ⟨hin, h1⟩ := (H w (Below.refl _ _)).2 i hi
    obtain ⟨hun, o, ho, _⟩ := mem_ready.1 hi
    have hsz : i < listed.size := by rw [inv.size]; omega
    have hunF := getD_both hun
    -- facts kept while the world grows
    have keepF : ∀ {w'' : World}, Below w.heap.size w w'' → i ∉ ms → Facts W w'' mk ms (listed.setIfInBounds i true) bs := fun {w''} hb him => by
      refine ⟨fun k hk hl => ?_, fun k hk j hj hl hl' hne => ?_⟩
      · have hki : i ≠ k := fun e => him (e ▸ hk)
        rw [getD_set_ne false hki] at hl
        obtain ⟨q1, obj, q2, q3⟩ := hF.at_ k hk hl
        exact ⟨q1, obj, q2, by rw [hb.block _ (Array.getElem?_eq_some_iff.1 q3).1]; exact q3⟩
      · have hki : i ≠ k := fun e => him (e ▸ hk)
        have hji : i ≠ j := fun e => him (e ▸ hj)
        rw [getD_set_ne false hki] at hl
        rw [getD_set_ne false hji] at hl'
        exact hF.ne k hk j hj hl hl' hne
    by_cases hm : (mk i).isSome = true
    · have him := (hM.all i).1 hm
      obtain ⟨obj, hobj⟩ := Option.isSome_iff_exists.1 hm
      obtain ⟨o', ho', hwant, hrun⟩ := hM.run i obj hobj
      have : o' = o := Option.some.inj (ho'.symm.trans ho)
      subst this
      unfold wpOp
      simp only [ho, hwant, if_true]
      refine .inl ?_
      unfold Oper.wp
      rw [hrun]
      show wpAny P md ops Q (f + g) _ ((conc ops bs listed a ms).put o'.dst (ptr w.heap.size)) (w.alloc obj)
      have hbw : Below w.heap.size w (w.alloc obj) := (Below.refl _ w).alloc (Nat.le_refl _) obj
      rw [← conc_set hM hmn bs listed a ho him w.heap.size hsz hunF ms (fun _ h => h) hM.nodup him]
      refine anyM_sound hsel hM hmn hn hd hdt G fin f _ _ a _ (inv.set hi hin) (hB.trans (hbw.mono hB.size)) ⟨fun k hk hl => ?_, fun k hk j hj hl hl' hne => ?_⟩ ?_
      · by_cases hki : k = i
        · subst hki
          rw [upd_same]
          exact ⟨hB.size, obj, hobj, by show (w.heap.push obj)[w.heap.size]? = _; simp⟩
        · rw [getD_set_ne false (Ne.symm hki)] at hl
          rw [upd_ne bs _ hki]
          obtain ⟨q1, obj', q2, q3⟩ := hF.at_ k hk hl
          exact ⟨q1, obj', q2, by rw [hbw.block _ (Array.getElem?_eq_some_iff.1 q3).1]; exact q3⟩
      · by_cases hki : k = i
        · subst hki
          rw [upd_same, upd_ne bs _ (Ne.symm hne)]
          rw [getD_set_ne false hne] at hl'
          obtain ⟨_, _, _, q3⟩ := hF.at_ j hj hl'
          have := (Array.getElem?_eq_some_iff.1 q3).1
          omega
        · by_cases hji : j = i
          · subst hji
            rw [upd_same, upd_ne bs _ hki]
            rw [getD_set_ne false (Ne.symm hki)] at hl
            obtain ⟨_, _, _, q3⟩ := hF.at_ k hk hl
            have := (Array.getElem?_eq_some_iff.1 q3).1
            omega
          · rw [upd_ne bs _ hki, upd_ne bs _ hji]
            rw [getD_set_ne false (Ne.symm hki)] at hl
            rw [getD_set_ne false (Ne.symm hji)] at hl'
            exact hF.ne k hk j hj hl hl' hne
      · intro W' hW'
        have := ((H W' (hbw.trans (hW'.mono hbw.size))).2 i hi).2
        rwa [if_pos hm] at this
    · have him : i ∉ ms := fun h => hm ((hM.all i).2 h)
      rw [if_neg hm] at h1
      have hs1 := Region.noSelect_spec hsel i o
      obtain ⟨c1, c2, c3⟩ := conc_exec hM bs listed a ho hin him (fun cs b => hs1 cs b ho) ms (fun _ h => h)
      -- the frame behind the operation is the same whatever the class
      have next : ∀ (u : Value) (w'' : World), Below w.heap.size w w'' → anyM P md ops (cls w) mk n (fun l' a' => G l' ∧ a' = A0) f (listed.setIfInBounds i true) (a.put o.dst u) →
          (∀ W', Below w''.heap.size w'' W' → ∃ u', anyM P md ops (cls W') mk n (fun l' a' => G l' ∧ a' = A0) f (listed.setIfInBounds i true) (a.put o.dst u')) →
          wpAny P md ops Q (f + g) (listed.setIfInBounds i true) ((conc ops bs listed a ms).put o.dst u) w'' := fun u w'' hb hu hall => by
        rw [c3 u, ← conc_other (j := i) bs listed _ ms him]
        refine anyM_sound hsel hM hmn hn hd hdt G fin f bs _ _ w'' (inv.set hi hin) (hB.trans (hb.mono hB.size)) (keepF hb him) fun W' hW' => ?_
        obtain ⟨u', hu'⟩ := hall W' hW'
        have hslot : ∀ d, o.dst = some d → ∀ k, (listed.setIfInBounds i true).getD k true = false → (ops[k]?).bind (·.dst) ≠ some d := fun d hd' k hk => by
          have hki : i ≠ k := fun e => by
            subst e
            simp [hsz] at hk
          rcases Nat.lt_or_ge k n with hkn | hkn
          · exact hd i k d hin hkn hki (by rw [ho]; exact hd')
          · exact hdt i k d hin hkn (by rw [ho]; exact hd')
        rw [put_same (a := a) (v := u) (v' := u') fun d hd' => (anyM_slot f _ _ hu (hslot d hd')).trans (anyM_slot f _ _ hu' (hslot d hd')).symm]
        exact hu'
      have hall : ∀ {w'' : World}, Below w.heap.size w w'' → ∀ W', Below w''.heap.size w'' W' → ∃ u', anyM P md ops (cls W') mk n (fun l' a' => G l' ∧ a' = A0) f (listed.setIfInBounds i true) (a.put o.dst u') := fun {w''} hb W' hW' => by
        have h2 := ((H W' (hb.trans (hW'.mono hb.size))).2 i hi).2
        rw [if_neg hm] at h2
        obtain ⟨u', _, hk⟩ := yieldsIn_of_qOp ho h2
        exact ⟨u', hk⟩
      unfold qOp at h1
      unfold wpOp
      simp only [ho] at h1 ⊢
      rw [c2]
      split
      · rename_i hw
        simp only [hw, if_true] at h1
        obtain ⟨v, hv, hk⟩ := h1
        have h3 := hv w (cls_of (Below.refl _ _))
        refine .inl ?_
        unfold Oper.quietAt at h3
        unfold Oper.wp
        rw [c1]
        generalize (execOp a.eval o).run P w = r at *
        cases r with
        | ok nx w' =>
          cases nx <;> simp only [Oper.quietUpon] at h3 <;> simp only [Oper.upon]
          case value u =>
            obtain ⟨e1, e2⟩ := h3
            rw [e1, e2]
            exact next v w (Below.refl _ _) hk (hall (Below.refl _ _))
          case skip =>
            obtain ⟨e1, e2⟩ := h3
            rw [e1, ← e2]
            exact next v w (Below.refl _ _) hk (hall (Below.refl _ _))
          case enter fn args =>
            obtain ⟨e1, hcal⟩ := h3
            rw [e1]
            exact hcal.mono fun e w'' ⟨he, hw''⟩ => by subst he; exact next v w'' (cls_to hw'') hk (hall (cls_to hw''))
        | halt x w' => simp only [Oper.quietUpon] at h3
      · rename_i hw
        simp only [hw] at h1
        exact next undef w (Below.refl _ _) h1 (hall (Below.refl _ _))

/-- Which operations are makers, and what each makes. -/
def mkOf (mks : List (Nat × Obj)) (i : Nat) : Option Obj := (mks.find? fun x => x.1 == i).map (·.2)
theorem mkOf_some {mks : List (Nat × Obj)} {i : Nat} : (mkOf mks i).isSome = true ↔ i ∈ mks.map (·.1) := by
  unfold mkOf
  rw [Option.isSome_map, List.find?_isSome, List.mem_map]
  constructor
  · rintro ⟨x, hx, h⟩; exact ⟨x, hx, by simpa using h⟩
  · rintro ⟨x, hx, h⟩; exact ⟨x, hx, by simpa using h⟩
theorem mkOf_mem {mks : List (Nat × Obj)} {i : Nat} {obj : Obj} (h : mkOf mks i = some obj) : (i, obj) ∈ mks := by
  unfold mkOf at h
  obtain ⟨x, hx, rfl⟩ := Option.map_eq_some_iff.1 h
  have h1 := List.find?_some hx
  have h2 := List.mem_of_find?_eq_some hx
  have : x.1 = i := by simpa using h1
  subst this; exact h2
theorem mkOf_of_mem {mks : List (Nat × Obj)} (hnd : (mks.map (·.1)).Nodup) {x : Nat × Obj} (h : x ∈ mks) : mkOf mks x.1 = some x.2 := by
  induction mks with
  | nil => cases h
  | cons y ys ih =>
    simp only [List.map_cons, List.nodup_cons] at hnd
    unfold mkOf
    rcases List.mem_cons.1 h with rfl | h
    · simp
    · have hne : (y.1 == x.1) = false := by
        rw [beq_eq_false_iff_ne]
        intro e
        exact hnd.1 (e ▸ List.mem_map_of_mem h)
      rw [List.find?_cons_of_neg (by rw [hne]; simp)]
      exact ih hnd.2 h

def nodupB : List Nat → Bool
  | [] => true
  | x :: xs => !xs.contains x && nodupB xs
theorem nodupB_spec : ∀ {l : List Nat}, nodupB l = true → l.Nodup
  | [], _ => List.nodup_nil
  | x :: xs, h => by
    simp only [nodupB, Bool.and_eq_true, Bool.not_eq_true'] at h
    exact List.nodup_cons.2 ⟨by simpa using h.1, nodupB_spec h.2⟩
def dstOf (ops : Array Oper) (i : Nat) : Option Tmp := (ops[i]?).bind (·.dst)
def apartB (ops : Array Oper) (i j : Nat) : Bool := match ops[i]?, ops[j]? with
  | some oi, some oj => oi.apart ops oj
  | _, _ => true
/-- All that can be reckoned about the region's shape. -/
def regB (ops : Array Oper) (n : Nat) (ms ks : List Nat) : Bool :=
  Region.noSelect ops && decide (n < ops.size) && Region.sinkB .any ops n && Region.chainB .any ops n &&
  ordB .any ops (mkOf (ms.map fun i => (i, default))) n (ops.size - n) ks (Array.replicate ops.size false) && (ks.length == n) && nodupB ms && ms.all (fun i => decide (i < n)) &&
  ((List.range n).all fun i => (List.range ops.size).all fun j => i == j || match dstOf ops i with | none => true | some d => dstOf ops j != some d) &&
  (ms.all fun i => (List.range n).all fun j => i == j || apartB ops i j)

theorem ordB_congr {mk mk' : Nat → Option Obj} {n g : Nat} (h : ∀ i, (mk i).isSome = (mk' i).isSome) : ∀ (ks : List Nat) (listed : Array Bool), ordB md ops mk n g ks listed = ordB md ops mk' n g ks listed
  | [], _ => rfl
  | k :: ks, listed => by simp only [ordB, h k, ordB_congr h ks]

theorem conc_full {ops : Array Oper} {bs : Nat → Nat} {listed : Array Bool} (a : Act) : ∀ (l : List Nat), (∀ i ∈ l, listed.getD i false = true) →
    conc ops bs listed a l = l.foldr (fun i a => a.put (dstOf ops i) (ptr (bs i))) a
  | [], _ => rfl
  | i :: l, h => by
    have ih := conc_full (ops := ops) (bs := bs) a l (fun j hj => h j (List.mem_cons_of_mem _ hj))
    simp only [conc, List.foldr_cons] at ih ⊢
    rw [ih, h i (List.mem_cons_self ..)]
    rfl

/-- **The law.** n: how many operations stand ahead of the stores; mks: the makers among them, with what each makes; ks: the order of the walk (the makers may stand anywhere); A0: the frame behind the walk. -/
theorem wp_region_makers {P : Program} {id : Nat} {Q : Exit → Act → World → Prop} {a : Act} {W : World} {l : List Oper} (n : Nat) (mks : List (Nat × Obj)) (ks : List Nat) (A0 : Act) (qs : List Oper)
    (hm : P.follows .mixedOrders = true) (hB : regB l.toArray n (mks.map (·.1)) ks = true)
    (hrun : ∀ x ∈ mks, ∃ o, l[x.1]? = some o ∧ o.guard = none ∧ ∀ (a : Act) w, (execOp a.eval o).run P w = .ok (.value (ptr w.heap.size)) (w.alloc x.2))
    (hq : quiets l.toArray (mkOf mks) ks = qs)
    (h : ∀ W', Below W.heap.size W W' → wpQuiet P l.toArray (fun w' => ∃ p : Regrown, w' = grow (redrawn W' p.d) p.os) (fun a' => a' = A0) qs a)
    (fin : ∀ (bs : Nat → Nat) (w' : World), Below W.heap.size W w' → (∀ x ∈ mks, W.heap.size ≤ bs x.1 ∧ w'.heap[bs x.1]? = some x.2) → (∀ x ∈ mks, ∀ y ∈ mks, x.1 ≠ y.1 → bs x.1 ≠ bs y.1) →
      wpList P l.toArray Q (l.drop n) ((mks.map (·.1)).foldr (fun i a => a.put (dstOf l.toArray i) (ptr (bs i))) A0) w') :
    (Code.region id l.toArray true).wp P Q a W := by
  simp only [regB, Bool.and_eq_true, decide_eq_true_eq, List.all_eq_true, Bool.or_eq_true, beq_iff_eq, List.mem_range] at hB
  obtain ⟨⟨⟨⟨⟨⟨⟨⟨⟨hsel, hn⟩, hs⟩, hc⟩, hord⟩, hlen⟩, hnd⟩, hms⟩, hdst⟩, hap⟩ := hB
  have hnodup := nodupB_spec hnd
  have hiso : ∀ i, (mkOf ((mks.map (·.1)).map fun i => (i, (default : Obj))) i).isSome = (mkOf mks i).isSome := fun i => by
    rw [Bool.eq_iff_iff, mkOf_some, mkOf_some]
    simp
  rw [ordB_congr hiso] at hord
  have hM : MakersOK P l.toArray (mkOf mks) n (mks.map (·.1)) := by
    refine ⟨hnodup, fun i => mkOf_some, fun i obj hi => ?_, fun i oi j oj hi hoi hj hji hoj => ?_⟩
    · obtain ⟨o, ho, hg, hr⟩ := hrun _ (mkOf_mem hi)
      exact ⟨o, by simpa using ho, fun ts => by unfold Region.wanted; rw [hg], hr⟩
    · rcases hap i hi j hj with e | e
      · exact absurd e.symm hji
      · simpa [apartB, hoi, hoj] using e
  have hd : ∀ i j d, i < n → j < l.toArray.size → i ≠ j → dstOf l.toArray i = some d → dstOf l.toArray j ≠ some d := fun i j d hi hj hij he => by
    rcases hdst i hi j hj with e | e
    · exact absurd e hij
    · rw [he] at e; simpa using e
  have hd1 : ∀ i j d, i < n → j < n → i ≠ j → (l.toArray[i]?).bind (·.dst) = some d → (l.toArray[j]?).bind (·.dst) ≠ some d := fun i j d hi hj hij he => hd i j d hi (by omega) hij he
  have hd2 : ∀ i t d, i < n → n ≤ t → (l.toArray[i]?).bind (·.dst) = some d → (l.toArray[t]?).bind (·.dst) ≠ some d := fun i t d hi ht he => by
    rcases Nat.lt_or_ge t l.toArray.size with h' | h'
    · exact hd i t d hi h' (by omega) he
    · rw [Array.getElem?_eq_none h']; simp
  have hmn : ∀ i ∈ mks.map (·.1), i < n := hms
  have inv0 : HeadInv .any l.toArray n (Array.replicate l.toArray.size false) :=
    ⟨by simp, fun j oj _ hl => (by rw [getD_replicate_false] at hl; cases hl), fun t _ ht => getD_in (by simpa using ht) (getD_replicate_false _ _)⟩
  have hdr : Below W.heap.size W { W with drawn := W.drawn + 1 } := (Below.refl _ W).drew
  refine wp_region_any hm ?_
  have H := anyM_sound (P := P) (md := .any) (g := l.toArray.size - n) (A0 := A0) (Q := Q) (W := W) hsel hM hmn hn hd1 hd2
    (fun listed => Region.seqB .any l.toArray (l.toArray.size - n) n listed = true ∧ ((List.range n).all fun i => listed.getD i false) = true)
    (fun bs listed w hw hG hF => by
      have hall : ∀ i ∈ mks.map (·.1), listed.getD i false = true := fun i hi => List.all_eq_true.1 hG.2 i (List.mem_range.2 (hmn i hi))
      rw [conc_full _ _ hall]
      have hf := fin bs w hw (fun x hx => by
        obtain ⟨q1, obj, q2, q3⟩ := hF.at_ x.1 (List.mem_map_of_mem hx) (hall _ (List.mem_map_of_mem hx))
        rw [mkOf_of_mem hnodup hx] at q2
        cases q2
        exact ⟨q1, q3⟩) (fun x hx y hy hne => hF.ne _ (List.mem_map_of_mem hx) _ (List.mem_map_of_mem hy) (hall _ (List.mem_map_of_mem hx)) (hall _ (List.mem_map_of_mem hy)) hne)
      have := wpAny_of_seq (md := .any) (Q' := Q) (l.drop n) n listed _ w (fun j => by simp [List.getElem?_drop]) (by
        rw [show (l.drop n).length = l.toArray.size - n by simp]; exact hG.1) hf
      rwa [show (l.drop n).length = l.toArray.size - n by simp] at this)
    ks.length (fun _ => 0) (Array.replicate l.toArray.size false) a { W with drawn := W.drawn + 1 } inv0 hdr
    ⟨fun i _ hl => (by rw [getD_replicate_false] at hl; cases hl), fun i _ j _ hl => (by rw [getD_replicate_false] at hl; cases hl)⟩
    (fun W' hW' => by
      have := anyM_lex (P := P) (C := cls W') (mk := mkOf mks) (Lq := fun a' => a' = A0) hsel hs hc hn ks _ a inv0 hord (by rw [hq]; exact h W' (hdr.trans hW'))
      exact this)
  have hc0 : conc l.toArray (fun _ => 0) (Array.replicate l.toArray.size false) a (mks.map (·.1)) = a := by
    generalize mks.map (·.1) = ms
    induction ms with
    | nil => rfl
    | cons i ms ih => simp only [conc, List.foldr_cons, getD_replicate_false] at ih ⊢; simpa using ih
  rw [hc0, hlen, show n + (l.toArray.size - n) = l.toArray.size by omega] at H
  exact H

theorem cell_block {w : World} {b o : Nat} {vs : Array Value} {T : TypeId} {fz : Nat × Nat} {v : Value} (h : w.heap[b]? = some (.cells vs T fz)) (hv : vs[o]? = some v) : w.cell? ⟨b, o, none⟩ = some v := by
  unfold World.cell?; simp only [h]; simpa using hv
theorem frozen_block {w : World} {b o : Nat} {vs : Array Value} {T : TypeId} (h : w.heap[b]? = some (.cells vs T (0, 0))) : w.frozen? ⟨b, o, none⟩ = false := by
  unfold World.frozen?; simp only [h]; simp
theorem lt_block {w : World} {b : Nat} {x : Obj} (h : w.heap[b]? = some x) : b < w.heap.size := (Array.getElem?_eq_some_iff.1 h).1
end
end Go.Proofs.YtmobilppakjihaaDoor

/-
  What every walk of this program uses: worlds that have grown, cells behind new blocks, calls that return a value and change nothing that was there.
-/
namespace Go.Proofs.YtmobilppakjihaaDoor
open Go.RowKit Go.Sort
theorem bcell {W w1 : World} (hb : Below W.heap.size W w1) : (∀ b o, b < W.heap.size → w1.cell? ⟨b, o, none⟩ = W.cell? ⟨b, o, none⟩) ∧ (∀ b o, b < W.heap.size → w1.frozen? ⟨b, o, none⟩ = W.frozen? ⟨b, o, none⟩) ∧ W.heap.size ≤ w1.heap.size :=
  ⟨fun b o h => hb.cell (p := ⟨b, o, none⟩) h, fun b o h => hb.frozen (p := ⟨b, o, none⟩) h, hb.size⟩
theorem chain {B : Nat} {a W w1 : World} (h : Below B a W) (hB : B ≤ W.heap.size) (hb : Below W.heap.size W w1) : Below B a w1 := h.trans (hb.mono hB)
theorem ne_of {X y : Nat} (h : X ≤ y) : (∀ k, k < X → ¬ k = y) ∧ (∀ k, k < X → ¬ y = k) := ⟨fun k hk e => by omega, fun k hk e => by omega⟩
theorem alloc_lt {X : Nat} {w1 : World} (h : X ≤ w1.heap.size) : (∀ O b o, b < X → (w1.alloc O).cell? ⟨b, o, none⟩ = w1.cell? ⟨b, o, none⟩) ∧ (∀ O O' b o, b < X → ((w1.alloc O).alloc O').cell? ⟨b, o, none⟩ = w1.cell? ⟨b, o, none⟩) :=
  ⟨fun O b o hb => World.cell?_of_block (w := w1) (Below.heap_alloc w1 O b (by omega)),
   fun O O' b o hb => (World.cell?_of_block (w := w1.alloc O) (Below.heap_alloc (w1.alloc O) O' b (by rw [World.size_alloc]; omega))).trans (World.cell?_of_block (w := w1) (Below.heap_alloc w1 O b (by omega)))⟩
theorem vld_iff (p m : BitVec 32) : vld p m = true ↔ p.toNat &&& m.toNat = 0 ∧ (p.toNat ||| m.toNat) &&& 4278190080 = 0 := by
  unfold vld
  rw [Bool.and_eq_true, beq_iff_eq, beq_iff_eq, ← BitVec.toNat_inj, ← BitVec.toNat_inj]
  simp
theorem keep_alloc {w1 : World} {X : Obj} {b o : Nat} {v : Value} (h : w1.cell? ⟨b, o, none⟩ = some v) (hb : b < w1.heap.size) : (w1.alloc X).cell? ⟨b, o, none⟩ = some v := by
  rw [World.cell?_alloc_some _ _ _ (by rw [h]; rfl)]; exact h
theorem keep_set {w1 : World} {a : Addr} {u : Value} {b o : Nat} {v : Value} (h : w1.cell? ⟨b, o, none⟩ = some v) (hb : b < a.block) : (w1.setCell a u).cell? ⟨b, o, none⟩ = some v := by
  rw [World.cell?_setCell_far _ _ _ _ (by simp; omega)]; exact h
theorem keep_size {w1 : World} {X : Obj} {n : Nat} (h : n ≤ w1.heap.size) : n ≤ (w1.alloc X).heap.size := by rw [World.size_alloc]; omega
theorem keep_size2 {w1 : World} {a : Addr} {u : Value} {n : Nat} (h : n ≤ w1.heap.size) : n ≤ (w1.setCell a u).heap.size := by rw [World.size_setCell]; exact h
theorem keep_b_alloc {B : Nat} {a w1 : World} {X : Obj} (h : Below B a w1) (hB : B ≤ w1.heap.size) : Below B a (w1.alloc X) := h.alloc hB X
theorem keep_b_set {B : Nat} {a w1 : World} {p : Addr} {u : Value} (h : Below B a w1) (hB : B ≤ p.block) : Below B a (w1.setCell p u) := h.setCell hB u
theorem re_cell {w1 : World} {X Y : Obj} {b o : Nat} {v : Value} (h : (w1.alloc X).cell? ⟨b, o, none⟩ = some v) (hb : b < w1.heap.size) : (w1.alloc Y).cell? ⟨b, o, none⟩ = some v := by
  have e : ∀ Z : Obj, (w1.alloc Z).cell? ⟨b, o, none⟩ = w1.cell? ⟨b, o, none⟩ := fun Z => World.cell?_of_block (w := w1) (Below.heap_alloc w1 Z b hb)
  rw [e] at h ⊢; exact h
theorem re_below {B : Nat} {a w1 : World} {X Y : Obj} (h : Below B a (w1.alloc X)) (hB : B ≤ w1.heap.size) : Below B a (w1.alloc Y) :=
  ⟨h.os, h.tape, h.output, by have := h.size; rw [World.size_alloc] at this ⊢; exact this, fun k hk => by rw [Below.heap_alloc w1 Y k (by omega), ← Below.heap_alloc w1 X k (by omega)]; exact h.block k hk⟩
theorem re_size {w1 : World} {X Y : Obj} {n : Nat} (h : n ≤ (w1.alloc X).heap.size) : n ≤ (w1.alloc Y).heap.size := by rw [World.size_alloc] at *; exact h
theorem keep_alloc_d {w1 : World} {X : Obj} {b o : Nat} {v : Value} (h : w1.drew.cell? ⟨b, o, none⟩ = some v) (hb : b < w1.drew.heap.size) : (w1.alloc X).drew.cell? ⟨b, o, none⟩ = some v := keep_alloc (w1 := w1) h hb
theorem keep_size_d {w1 : World} {X : Obj} {n : Nat} (h : n ≤ w1.drew.heap.size) : n ≤ (w1.alloc X).drew.heap.size := keep_size (w1 := w1) h
theorem undrew {B : Nat} {a w1 : World} (h : Below B a w1.drew) : Below B a w1 := ⟨h.os, h.tape, h.output, h.size, h.block⟩
theorem keep_b_alloc_d {B : Nat} {a w1 : World} {X : Obj} (h : Below B a w1.drew) (hB : B ≤ w1.drew.heap.size) : Below B a (w1.alloc X).drew := ((undrew h).alloc hB X).drew
theorem re_cell_d {w1 : World} {X Y : Obj} {b o : Nat} {v : Value} (h : (w1.alloc X).drew.cell? ⟨b, o, none⟩ = some v) (hb : b < w1.heap.size) : (w1.alloc Y).drew.cell? ⟨b, o, none⟩ = some v := re_cell (w1 := w1) (X := X) h hb
theorem re_below_d {B : Nat} {a w1 : World} {X Y : Obj} (h : Below B a (w1.alloc X).drew) (hB : B ≤ w1.heap.size) : Below B a (w1.alloc Y).drew := (re_below (undrew h) hB).drew
theorem re_size_d {w1 : World} {X Y : Obj} {n : Nat} (h : n ≤ (w1.alloc X).drew.heap.size) : n ≤ (w1.alloc Y).drew.heap.size := re_size (w1 := w1) (X := X) h
theorem wp_gen {P : Program} {c : Code} {Q : Exit → Act → World → Prop} {a : Act} {W : World} (h : ∀ W1, W1 = W → c.wp P Q a W1) : c.wp P Q a W := h W rfl
theorem ret_bool {a b : Bool} (h : a = b) : Ending.returned (.bool a) = .returned (.bool b) := by rw [h]

/-- The call returns v and changes nothing that was there. -/
abbrev Gives (f : Nat) (args : Array Value) (w : World) (v : Value) : Prop := Calls Tryd.prog f args w fun e w' => e = .returned v ∧ Below w.heap.size w w'
theorem Gives.eq {f : Nat} {args args' : Array Value} {w : World} {v v' : Value} (h : Gives f args w v) (ha : args = args') (hv : v = v') : Gives f args' w v' := by subst ha; subst hv; exact h
theorem Gives.then {f : Nat} {args : Array Value} {w : World} {v : Value} {Q : Ending → World → Prop} (h : Gives f args w v) (k : ∀ w1, Below w.heap.size w w1 → Q (.returned v) w1) : Calls Tryd.prog f args w Q := Calls.mono h (by rintro e w1 ⟨rfl, hb⟩; exact k w1 hb)
theorem cell_fresh {W0 w1 : World} {cs : Array Value} {t : Nat} (hc : ∀ b o, b < W0.heap.size + 1 → w1.cell? ⟨b, o, none⟩ = (W0.alloc (.cells cs t)).cell? ⟨b, o, none⟩) (hz : W0.heap.size + 1 ≤ w1.heap.size) : ∃ bx, W0.heap.size = bx ∧ bx < w1.heap.size ∧ ∀ o, w1.cell? ⟨bx, o, none⟩ = (W0.alloc (.cells cs t)).cell? ⟨W0.heap.size, o, none⟩ := ⟨_, rfl, by omega, fun o => hc _ o (by omega)⟩
theorem cell_past {w : World} {X : Obj} {b o : Nat} {v : Value} (hl : b < w.heap.size) (h : w.cell? ⟨b, o, none⟩ = some v) : (w.alloc X).cell? ⟨b, o, none⟩ = some v := (World.cell?_alloc_past X b o hl).trans h
/-- A sound by its two numbers. -/
abbrev sn (p m : Int) : Value := .agg #[.int .u32 p, .int .u32 m]
theorem sv_sn (p m : BitVec 32) : sv p m = sn p.toNat m.toNat := rfl

end Go.Proofs.YtmobilppakjihaaDoor

/-
  Words: lists of sounds that a slice holds; rows that a call has made; what append makes of them.
-/
namespace Go.Proofs.YtmobilppakjihaaDoor
open Go.RowKit Go.Sort
/-- A sound: its two sets. -/
abbrev Snd := BitVec 32 × BitVec 32
/-- The cells of some sounds. -/
def flat : List Snd → List Value
  | [] => []
  | s :: l => .int .u32 s.1.toNat :: .int .u32 s.2.toNat :: flat l
theorem flat_length : ∀ l : List Snd, (flat l).length = l.length * 2
  | [] => rfl
  | s :: l => by simp only [flat, List.length_cons, flat_length l]; omega
theorem flat_append : ∀ a b : List Snd, flat (a ++ b) = flat a ++ flat b
  | [], _ => rfl
  | s :: l, b => by simp only [List.cons_append, flat, flat_append l b]
theorem flat_one : ∀ l : List Snd, ∀ u ∈ flat l, u.oneCell' = true
  | [], u, h => by simp [flat] at h
  | s :: l, u, h => by
    simp only [flat, List.mem_cons] at h
    rcases h with rfl | rfl | h
    · rfl
    · rfl
    · exact flat_one l u h
theorem flat_take : ∀ (l : List Snd) (k : Nat), (flat l).take (k * 2) = flat (l.take k)
  | [], k => by simp [flat]
  | s :: l, 0 => by simp [flat]
  | s :: l, k + 1 => by
    rw [show (k + 1) * 2 = k * 2 + 1 + 1 from by omega]
    simp only [flat, List.take_succ_cons, flat_take l k]
theorem flat_get0 : ∀ (l : List Snd) (i : Nat) (h : i < l.length), (flat l)[i * 2]? = some (.int .u32 (l[i].1.toNat : Int))
  | s :: l, 0, _ => by simp [flat]
  | s :: l, i + 1, h => by
    have := flat_get0 l i (by simpa using h)
    rw [show (i + 1) * 2 = i * 2 + 1 + 1 from by omega]
    simpa [flat] using this
theorem flat_get1 : ∀ (l : List Snd) (i : Nat) (h : i < l.length), (flat l)[i * 2 + 1]? = some (.int .u32 (l[i].2.toNat : Int))
  | s :: l, 0, _ => by simp [flat]
  | s :: l, i + 1, h => by
    have := flat_get1 l i (by simpa using h)
    rw [show (i + 1) * 2 + 1 = i * 2 + 1 + 1 + 1 from by omega]
    simpa [flat] using this
/-- A slice that holds these sounds (an empty one may have any address). -/
def Wd (w : World) (v : Value) (ss : List Snd) : Prop :=
  ((v = .slice none 0 0 ∨ ∃ aa, v = .slice (some aa) 0 0) ∧ ss = []) ∨ ∃ b off cap, v = .slice (some ⟨b, off, none⟩) ss.length cap ∧ ss.length ≤ cap ∧ cap ≤ maxLen ∧ b < w.heap.size ∧ ∀ i (h : i < ss.length), w.cell? ⟨b, off + i * 2, none⟩ = some (.int .u32 (ss[i].1.toNat : Int)) ∧ w.cell? ⟨b, off + i * 2 + 1, none⟩ = some (.int .u32 (ss[i].2.toNat : Int))
theorem Wd.below {w w' : World} {v : Value} {ss : List Snd} (h : Wd w v ss) (hb : Below w.heap.size w w') : Wd w' v ss := by
  rcases h with h | ⟨b, off, cap, h1, hc, hm, h2, h3⟩
  · exact .inl h
  · exact .inr ⟨b, off, cap, h1, hc, hm, by have := hb.size; omega, fun i hi => ⟨(hb.cell (p := ⟨b, off + i * 2, none⟩) h2).trans (h3 i hi).1, (hb.cell (p := ⟨b, off + i * 2 + 1, none⟩) h2).trans (h3 i hi).2⟩⟩
theorem Wd.nil (w : World) : Wd w (.slice none 0 0) [] := .inl ⟨.inl rfl, rfl⟩
theorem Wd.void (w : World) (aa : Addr) : Wd w (.slice (some aa) 0 0) [] := .inl ⟨.inr ⟨aa, rfl⟩, rfl⟩
/-- The cells, as the laws of append ask for them. -/
theorem Wd.news {w : World} {b off : Nat} {ss : List Snd} (h3 : ∀ i (h : i < ss.length), w.cell? ⟨b, off + i * 2, none⟩ = some (.int .u32 (ss[i].1.toNat : Int)) ∧ w.cell? ⟨b, off + i * 2 + 1, none⟩ = some (.int .u32 (ss[i].2.toNat : Int))) :
    ∀ j u, (flat ss)[j]? = some u → w.cell? ((⟨b, off, none⟩ : Addr).add j) = some u := by
  intro j u hu
  have hj : j < (flat ss).length := (List.getElem?_eq_some_iff.1 hu).1
  rw [flat_length] at hj
  have hi : j / 2 < ss.length := by omega
  rcases Nat.mod_two_eq_zero_or_one j with e | e
  · have e2 : j = j / 2 * 2 := by omega
    have := flat_get0 ss (j / 2) hi
    rw [← e2, hu] at this
    rw [Option.some.inj this, show (⟨b, off, none⟩ : Addr).add j = ⟨b, off + j / 2 * 2, none⟩ from by simp [Addr.add, ← e2]]
    exact (h3 _ hi).1
  · have e2 : j = j / 2 * 2 + 1 := by omega
    have := flat_get1 ss (j / 2) hi
    rw [← e2, hu] at this
    rw [Option.some.inj this, show (⟨b, off, none⟩ : Addr).add j = ⟨b, off + j / 2 * 2 + 1, none⟩ from by rw [show off + j / 2 * 2 + 1 = off + j from by omega]; simp [Addr.add]]
    exact (h3 _ hi).2
/-- A slice that a call has made, holding these sounds. -/
def Own (w : World) (base : Nat) (v : Value) (ss : List Snd) : Prop := w.ownsRow base 24 2 v ss.length (flat ss)
theorem Own.wd {w : World} {base : Nat} {v : Value} {ss : List Snd} (h : Own w base v ss) : Wd w v ss := by
  obtain ⟨hl, ⟨rfl, h0⟩ | ⟨g, cap, cur, rfl, hg, hh, hn, hm, hs, ht⟩⟩ := h
  · exact .inl ⟨.inl rfl, List.eq_nil_of_length_eq_zero h0⟩
  · refine .inr ⟨g, 0, cap, rfl, hn, hm, (Array.getElem?_eq_some_iff.1 hh).1, fun i hi => ?_⟩
    have key : ∀ j, j < ss.length * 2 → cur[j]? = (flat ss)[j]? := fun j hj => by
      rw [← ht, List.getElem?_take_of_lt hj, Array.getElem?_toList]
    refine ⟨?_, ?_⟩
    · rw [Nat.zero_add]; exact cell_block hh ((key _ (by omega)).trans (flat_get0 ss i hi))
    · rw [Nat.zero_add]; exact cell_block hh ((key _ (by omega)).trans (flat_get1 ss i hi))
theorem Own.nil (w : World) (base : Nat) : Own w base (.slice none 0 0) [] := ⟨rfl, .inl ⟨rfl, rfl⟩⟩
theorem Own.mono {w : World} {base base' : Nat} {v : Value} {ss : List Snd} (h : Own w base v ss) (hb : base' ≤ base) : Own w base' v ss := by
  obtain ⟨hl, h0 | ⟨g, cap, cur, hv, hg, hr⟩⟩ := h
  · exact ⟨hl, .inl h0⟩
  · exact ⟨hl, .inr ⟨g, cap, cur, hv, by omega, hr⟩⟩
theorem Own.below {w w' : World} {base : Nat} {v : Value} {ss : List Snd} (h : Own w base v ss) (hb : Below w.heap.size w w') : Own w' base v ss := by
  obtain ⟨hl, h0 | ⟨g, cap, cur, hv, hg, hh, hr⟩⟩ := h
  · exact ⟨hl, .inl h0⟩
  · exact ⟨hl, .inr ⟨g, cap, cur, hv, hg, (hb.block g (Array.getElem?_eq_some_iff.1 hh).1).trans hh, hr⟩⟩
theorem Own.row {w : World} {base : Nat} {v : Value} {ss : List Snd} (h : Own w base v ss) (k : Nat) (hk : v.ownBlock = some k) : base ≤ k := by
  obtain ⟨hl, ⟨rfl, h0⟩ | ⟨g, cap, cur, rfl, hg, hr⟩⟩ := h
  · cases hk
  · cases hk; exact hg
theorem infoSound : (Tryd.prog.info? 24).map (fun i => (i.zero, i.size, i.bytes)) = some (some (.agg #[.int .u32 0, .int .u32 0]), 2, 8) := by kernel_rfl
/-- append of a word to a slice that the call has made. -/
theorem wpList_app {ops : Array Oper} {rest : List Oper} {o : Oper} {a : Act} {w : World} {Q : Exit → Act → World → Prop} (hgd : o.guard = none) (s x : Operand) (t : TypeId) (ht : Tryd.prog.underlying t = some (.slice 24))
    (ho : o.op = .call { callee := .builtin .append, args := #[s, x], argTypes := #[t, t] })
    (base : Nat) (v u : Value) (ss ts : List Snd) (hs : a.eval s = v) (hx : a.eval x = u) (hown : Own w base v ss) (hw : Wd w u ts) (hlen : ss.length + ts.length ≤ 1000000000000) (hbase : base ≤ w.heap.size)
    (h : ∀ v' w', Own w' base v' (ss ++ ts) → (∀ B a, B ≤ base → Below B a w → Below B a w') → w.heap.size ≤ w'.heap.size → wpList Tryd.prog ops Q rest (a.put o.dst v') w') : wpList Tryd.prog ops Q (o :: rest) a w := by
  obtain ⟨i, hi, hz, hs1, hb1⟩ := info_parts infoSound
  rcases hw with ⟨rfl | ⟨aa, rfl⟩, rfl⟩ | ⟨b, off, cap, rfl, hc, hm, hb, h3⟩
  · refine wpList_append_own_none hgd s x t ho base _ i 2 ht hi v ss.length (flat ss) hs hown hx ?_
    exact h v w (by rw [List.append_nil]; exact hown) (fun _ _ _ hb => hb) (Nat.le_refl _)
  · refine wpList_append_own w hgd s x t ho base _ i _ 2 8 ht hi hz hs1 hb1 rfl (by decide) v ss.length (flat ss) hs hown aa 0 0 (flat []) hx rfl (by intro j u hu; simp [flat] at hu) (by intro u hu; simp [flat] at hu) (Nat.le_trans hlen (by decide)) (by omega) hbase ?_
    intro v' w' ho' hg _
    refine h v' w' ?_ (fun B a hB hb => hb.grown hg (by omega) (fun k e => Nat.le_trans hB (Own.row hown k e))) hg.size
    unfold Own
    rw [List.append_nil]
    simpa [flat] using ho'
  · refine wpList_append_own w hgd s x t ho base _ i _ 2 8 ht hi hz hs1 hb1 rfl (by decide) v ss.length (flat ss) hs hown ⟨b, off, none⟩ ts.length cap (flat ts) hx (flat_length ts) (Wd.news h3) (flat_one ts) (Nat.le_trans hlen (by decide)) (by omega) hbase ?_
    intro v' w' ho' hg _
    refine h v' w' ?_ (fun B a hB hb => hb.grown hg (by omega) (fun k e => Nat.le_trans hB (Own.row hown k e))) hg.size
    unfold Own
    rw [flat_append, List.length_append]
    exact ho'
theorem snd_eql (a b c d : Int) (w : World) : (binOp .eql 24 (.agg #[.int .u32 a, .int .u32 b]) (.agg #[.int .u32 c, .int .u32 d])).run Tryd.prog w = .ok (.bool (a == c && b == d)) w := by
  by_cases h1 : a = c
  · by_cases h2 : b = d
    · simp [go_sem, h1, h2]
    · simp [go_sem, h1, h2]
  · simp [go_sem, h1]
theorem snd_neq (a b c d : Int) (w : World) : (binOp .neq 24 (.agg #[.int .u32 a, .int .u32 b]) (.agg #[.int .u32 c, .int .u32 d])).run Tryd.prog w = .ok (.bool (!(a == c && b == d))) w := by
  by_cases h1 : a = c
  · by_cases h2 : b = d
    · simp [go_sem, h1, h2]
    · simp [go_sem, h1, h2]
  · simp [go_sem, h1]
/-- The value of a word, and its cells. -/
theorem Wd.open {w : World} {v : Value} {ss : List Snd} (h : Wd w v ss) : ∃ ao cap, v = .slice ao ss.length cap ∧ ss.length ≤ cap ∧ cap ≤ maxLen ∧ (∀ i (_ : i < ss.length), ∃ b off, ao = some ⟨b, off, none⟩ ∧ b < w.heap.size ∧ w.cell? ⟨b, off + i * 2, none⟩ = some (.int .u32 (ss[i].1.toNat : Int)) ∧ w.cell? ⟨b, off + i * 2 + 1, none⟩ = some (.int .u32 (ss[i].2.toNat : Int))) := by
  rcases h with ⟨rfl | ⟨aa, rfl⟩, rfl⟩ | ⟨b, off, cap, rfl, hc, hm, hb, h3⟩
  · exact ⟨none, 0, rfl, by simp, by simp, fun i hi => by simp at hi⟩
  · exact ⟨some aa, 0, rfl, by simp, by simp, fun i hi => by simp at hi⟩
  · exact ⟨some ⟨b, off, none⟩, cap, rfl, hc, hm, fun i hi => ⟨b, off, rfl, hb, h3 i hi⟩⟩
end Go.Proofs.YtmobilppakjihaaDoor

/-
  slices.Equal on words, and the specification's Equal.
-/
namespace Go.Proofs.YtmobilppakjihaaDoor
open Go.RowKit Go.Sort
attribute [local go_sem ↓] snd_eql snd_neq
theorem maxLen_lt {n : Nat} (h : n ≤ maxLen) : n ≤ 9223372036854775807 := h
theorem pre_eq {xs ys : List Snd} {k : Nat} (h : k < xs.length) (h' : k < ys.length) (hp : xs.take k = ys.take k) (he : xs[k] = ys[k]) : xs.take (k + 1) = ys.take (k + 1) := by
  rw [List.take_succ_eq_append_getElem h, List.take_succ_eq_append_getElem h', hp, he]
theorem snd_ne {x y : Snd} (h : x ≠ y) : (((x.1.toNat : Int) == y.1.toNat) && ((x.2.toNat : Int) == y.2.toNat)) = false := by
  rw [Bool.eq_false_iff]
  intro e
  simp only [Bool.and_eq_true, beq_iff_eq, Int.natCast_inj] at e
  exact h (Prod.ext (BitVec.toNat_inj.1 e.1) (BitVec.toNat_inj.1 e.2))
theorem eq_of_pre {xs ys : List Snd} {k : Nat} (h : ¬ k < xs.length) (hl : xs.length = ys.length) (hp : xs.take k = ys.take k) : xs = ys := by
  rwa [List.take_of_length_le (by omega), List.take_of_length_le (by omega)] at hp
set_option maxHeartbeats 2000000 in
theorem rEqual_any (xs ys : List Snd) (v u : Value) (w : World) (h1 : Wd w v xs) (h2 : Wd w u ys) : Gives 33 #[v, u] w (.bool (decide (xs = ys))) := by
  unfold Gives
  obtain ⟨ao, cap, rfl, c1, m1, H1⟩ := h1.open
  obtain ⟨bo, cap', rfl, c2, m2, H2⟩ := h2.open
  have l1 := maxLen_lt (Nat.le_trans c1 m1); have l2 := maxLen_lt (Nat.le_trans c2 m2)
  clear h1 h2 c1 m1 c2 m2
  by_cases hl : xs.length = ys.length
  · have H1 := Lib.hid H1; have H2 := Lib.hid H2
    generalize hdd : decide (xs = ys) = D
    have HDD := Lib.hid hdd; clear hdd
    go_enter Tryd.func33, Tryd.ntmps33
    go_wp2_with fail
    go_loopw [5] (fun i wr => ∃ k : Nat, k ≤ xs.length ∧ i = .int .i64 (k : Int) ∧ xs.take k = ys.take k ∧ Below w.heap.size w wr ∧ w.heap.size ≤ wr.heap.size) (fun i _ => xs.length - (intOf i).toNat)
    case atStart => exact ⟨0, by omega, rfl, by simp, Below.refl _ _, Nat.le_refl _⟩
    case round =>
      obtain ⟨k, hk, rfl, hp, hw, hsz⟩ := hrel
      have HP := Lib.hid hp; clear hp
      by_cases hlt : k < xs.length
      · obtain ⟨b, off, rfl, lb, d0, d1⟩ := H1.out k hlt
        obtain ⟨b', off', rfl, lb', e0, e1⟩ := H2.out k (by omega)
        have d0 := (hw.cell (p := ⟨b, off + k * 2, none⟩) lb).trans d0
        have d1 := (hw.cell (p := ⟨b, off + k * 2 + 1, none⟩) lb).trans d1
        have e0 := (hw.cell (p := ⟨b', off' + k * 2, none⟩) lb').trans e0
        have e1 := (hw.cell (p := ⟨b', off' + k * 2 + 1, none⟩) lb').trans e1
        go_wp2_with fail
        clear H1 H2
        generalize hx : xs[k] = x at d0 d1
        generalize hy : ys[k]'(by omega) = y at e0 e1
        have HX := Lib.hid hx; have HY := Lib.hid hy; clear hx hy
        have hlt' : k < ys.length := by omega
        by_cases hxy : x = y
        · subst hxy
          refine wp_gen ?_
          intro W1 hW1
          have hw1 : Below w.heap.size w W1 := by rw [hW1]; go_grown
          have hz1 : wr.heap.size ≤ W1.heap.size := by rw [hW1]; go_size
          have c0 : W1.cell? ⟨b, off + k * 2, none⟩ = some (.int .u32 x.1.toNat) := by rw [hW1]; first | assumption | go_cell | (go_simp; done) | exact cell_past (by first | assumption | omega) (by assumption)
          have c1 : W1.cell? ⟨b, off + k * 2 + 1, none⟩ = some (.int .u32 x.2.toNat) := by rw [hW1]; first | assumption | go_cell | (go_simp; done) | exact cell_past (by first | assumption | omega) (by assumption)
          have c2 : W1.cell? ⟨b', off' + k * 2, none⟩ = some (.int .u32 x.1.toNat) := by rw [hW1]; first | assumption | go_cell | (go_simp; done) | exact cell_past (by first | assumption | omega) (by assumption)
          have c3 : W1.cell? ⟨b', off' + k * 2 + 1, none⟩ = some (.int .u32 x.2.toNat) := by rw [hW1]; first | assumption | go_cell | (go_simp; done) | exact cell_past (by first | assumption | omega) (by assumption)
          clear hW1
          have k0 := cell_regrown c0
          have k1 := cell_regrown c1
          have k2 := cell_regrown c2
          have k3 := cell_regrown c3
          refine wp_region_quiet_below (by kernel_rfl) (by kernel_rfl) ?_
          try simp only [List.append]
          repeat (go_big_quiet_step (first | exact Calls.regrown_of ()))
          refine wpQuiet_nil ?_
          intro w2 hw2
          have hb : Below W1.heap.size W1 w2 := by obtain ⟨q, rfl⟩ := hw2; exact below_regrown _ _ _
          clear hw2
          clear k0 k1 k2 k3
          have hw := chain hw1 (by omega) hb
          obtain ⟨hc, hf, hz⟩ := bcell hb
          clear hb
          try have r0 : w2.cell? ⟨b, off + k * 2, none⟩ = some (.int .u32 x.1.toNat) := (hc _ _ (by omega)).trans c0
          try have r1 : w2.cell? ⟨b, off + k * 2 + 1, none⟩ = some (.int .u32 x.2.toNat) := (hc _ _ (by omega)).trans c1
          try have r2 : w2.cell? ⟨b', off' + k * 2, none⟩ = some (.int .u32 x.1.toNat) := (hc _ _ (by omega)).trans c2
          try have r3 : w2.cell? ⟨b', off' + k * 2 + 1, none⟩ = some (.int .u32 x.2.toNat) := (hc _ _ (by omega)).trans c3
          go_wp2_with fail
          go_roundw
          case rel => exact ⟨k + 1, by omega, by go_num, pre_eq hlt hlt' HP.out (HX.out.trans HY.out.symm), hw, by have := hw.size; omega⟩
          case measure => simp [intOf]; omega
        · have hne := snd_ne hxy
          have hfin : decide (xs = ys) = false := decide_eq_false fun e => hxy (by rw [← HX.out, ← HY.out]; simp only [e])
          have HF := Lib.hid hfin
          obtain ⟨x1, x2⟩ := x
          obtain ⟨y1, y2⟩ := y
          simp only at d0 d1 e0 e1 hne
          clear hfin hxy
          refine wp_gen ?_
          intro W1 hW1
          have hw1 : Below w.heap.size w W1 := by rw [hW1]; go_grown
          have hz1 : wr.heap.size ≤ W1.heap.size := by rw [hW1]; go_size
          have c0 : W1.cell? ⟨b, off + k * 2, none⟩ = some (.int .u32 x1.toNat) := by rw [hW1]; first | assumption | go_cell | (go_simp; done) | exact cell_past (by first | assumption | omega) (by assumption)
          have c1 : W1.cell? ⟨b, off + k * 2 + 1, none⟩ = some (.int .u32 x2.toNat) := by rw [hW1]; first | assumption | go_cell | (go_simp; done) | exact cell_past (by first | assumption | omega) (by assumption)
          have c2 : W1.cell? ⟨b', off' + k * 2, none⟩ = some (.int .u32 y1.toNat) := by rw [hW1]; first | assumption | go_cell | (go_simp; done) | exact cell_past (by first | assumption | omega) (by assumption)
          have c3 : W1.cell? ⟨b', off' + k * 2 + 1, none⟩ = some (.int .u32 y2.toNat) := by rw [hW1]; first | assumption | go_cell | (go_simp; done) | exact cell_past (by first | assumption | omega) (by assumption)
          clear hW1
          have k0 := cell_regrown c0
          have k1 := cell_regrown c1
          have k2 := cell_regrown c2
          have k3 := cell_regrown c3
          refine wp_region_quiet_below (by kernel_rfl) (by kernel_rfl) ?_
          try simp only [List.append]
          repeat (go_big_quiet_step (first | exact Calls.regrown_of ()))
          refine wpQuiet_nil ?_
          intro w2 hw2
          have hb : Below W1.heap.size W1 w2 := by obtain ⟨q, rfl⟩ := hw2; exact below_regrown _ _ _
          clear hw2
          clear k0 k1 k2 k3
          have hw := chain hw1 (by omega) hb
          obtain ⟨hc, hf, hz⟩ := bcell hb
          clear hb
          try have r0 : w2.cell? ⟨b, off + k * 2, none⟩ = some (.int .u32 x1.toNat) := (hc _ _ (by omega)).trans c0
          try have r1 : w2.cell? ⟨b, off + k * 2 + 1, none⟩ = some (.int .u32 x2.toNat) := (hc _ _ (by omega)).trans c1
          try have r2 : w2.cell? ⟨b', off' + k * 2, none⟩ = some (.int .u32 y1.toNat) := (hc _ _ (by omega)).trans c2
          try have r3 : w2.cell? ⟨b', off' + k * 2 + 1, none⟩ = some (.int .u32 y2.toNat) := (hc _ _ (by omega)).trans c3
          go_wp2_with fail
          go_returns
          exact ⟨ret_bool (HF.out.symm.trans HDD.out), hw⟩
      · have hfin : decide (xs = ys) = true := decide_eq_true (eq_of_pre hlt hl HP.out)
        have HF := Lib.hid hfin
        clear hfin H1 H2
        go_wp2_with fail
        go_returns
        exact ⟨ret_bool (HF.out.symm.trans HDD.out), hw⟩
  · have hfin : decide (xs = ys) = false := decide_eq_false fun e => hl (by rw [e])
    rw [hfin]
    clear hfin H1 H2
    go_enter Tryd.func33, Tryd.ntmps33
    go_wp2_with fail
    go_returns
    exact ⟨rfl, Below.refl _ _⟩
end Go.Proofs.YtmobilppakjihaaDoor

/-
  Valid sounds and words: valid, Check; parts: isPart, slices.Clone.
-/
namespace Go.Proofs.YtmobilppakjihaaDoor
open Go.RowKit Go.Sort
attribute [local go_sem] bv_and bv_or ofInt32_nat
/-- Which sounds are valid. -/
def vd (s : Snd) : Bool := decide (s.1.toNat &&& s.2.toNat = 0) && decide (s.1.toNat ||| s.2.toNat < 16777216)
/-- What Check returns. -/
def chk (ss : List Snd) : Int := if 32 < ss.length then 11 else if ss.all vd then 0 else 14
theorem ret_num {a b : Int} (h : a = b) : Ending.returned (.int .i64 a) = .returned (.int .i64 b) := by rw [h]
theorem vd_iff (p m : BitVec 32) : vd (p, m) = true ↔ p.toNat &&& m.toNat = 0 ∧ p.toNat ||| m.toNat < 16777216 := by simp [vd]
set_option maxHeartbeats 1000000 in
theorem valid_any (p m : BitVec 32) (w : World) : Gives 85 #[sn p.toNat m.toNat] w (.bool (vd (p, m))) := by
  unfold Gives
  generalize hd : vd (p, m) = D
  have hv := vd_iff p m
  rw [hd] at hv
  have HV := Lib.hid hv; clear hv hd
  by_cases h1 : p.toNat &&& m.toNat = 0
  · go_enter Tryd.func85, Tryd.ntmps85
    go_wp2
    go_returns
    refine ⟨ret_bool ?_, by go_grown⟩
    rw [Bool.eq_iff_iff, HV.out]; simp [h1]; omega
  · go_enter Tryd.func85, Tryd.ntmps85
    go_wp2
    go_returns
    refine ⟨ret_bool ?_, by go_grown⟩
    rw [Bool.eq_iff_iff, HV.out]; simp [h1]
theorem chk_long {ss : List Snd} (h : ¬ ss.length ≤ 32) : chk ss = 11 := by unfold chk; rw [if_pos (by omega)]
theorem chk_bad {ss : List Snd} {k : Nat} (h : ss.length ≤ 32) (hk : k < ss.length) (hv : vd ss[k] = false) : chk ss = 14 := by
  have : ss.all vd = false := by
    rw [Bool.eq_false_iff]; intro ha; rw [List.all_eq_true] at ha
    have := ha _ (List.getElem_mem hk); rw [hv] at this; cases this
  unfold chk; rw [if_neg (by omega), this]; rfl
theorem chk_good {ss : List Snd} {k : Nat} (h : ss.length ≤ 32) (hk : ¬ k < ss.length) (hv : (ss.take k).all vd = true) : chk ss = 0 := by
  rw [List.take_of_length_le (by omega)] at hv
  unfold chk; rw [if_neg (by omega), hv]; rfl
theorem vd_more {ss : List Snd} {k : Nat} (hk : k < ss.length) (h : vd ss[k] = true) (ha : (ss.take k).all vd = true) : (ss.take (k + 1)).all vd = true := by
  rw [List.take_succ_eq_append_getElem hk, List.all_append, ha]; simp [h]
set_option maxHeartbeats 2000000 in
theorem check_any (ss : List Snd) (v : Value) (w : World) (h : Wd w v ss) : Gives 63 #[v] w (.int .i64 (chk ss)) := by
  unfold Gives
  obtain ⟨ao, cap, rfl, c1, m1, H1⟩ := h.open
  have l1 := maxLen_lt (Nat.le_trans c1 m1)
  clear h c1 m1
  generalize hC : chk ss = C
  have HC := Lib.hid hC; have H1 := Lib.hid H1; clear hC
  by_cases hlen : ss.length ≤ 32
  · go_enter Tryd.func63, Tryd.ntmps63
    go_wp2_with fail
    go_loopw [10] (fun i wr => ∃ k : Nat, k ≤ ss.length ∧ i = .int .i64 (k : Int) ∧ (ss.take k).all vd = true ∧ Below w.heap.size w wr ∧ w.heap.size ≤ wr.heap.size) (fun i _ => ss.length - (intOf i).toNat)
    case atStart => exact ⟨0, by omega, rfl, by simp, by go_grown, by go_size⟩
    case round =>
      obtain ⟨k, hk, rfl, hp, hw, hsz⟩ := hrel
      have HP := Lib.hid hp; clear hp
      by_cases hlt : k < ss.length
      · obtain ⟨b, off, rfl, lb, d0, d1⟩ := H1.out k hlt
        have d0 := (hw.cell (p := ⟨b, off + k * 2, none⟩) lb).trans d0
        have d1 := (hw.cell (p := ⟨b, off + k * 2 + 1, none⟩) lb).trans d1
        clear H1
        have hbad := fun hv => chk_bad hlen hlt hv
        have hgood := fun hv => vd_more hlt hv HP.out
        generalize hx : ss[k] = x at *
        obtain ⟨x1, x2⟩ := x
        rcases hv : vd (x1, x2) with _ | _
        · have HB := Lib.hid (hbad hv); have HV := Lib.hid hv; clear hbad hgood hv hx
          go_wp2_with fail
          go_at_call 85
          with_reducible refine Gives.then (Gives.eq (valid_any x1 x2 _) rfl (by rw [HV.out])) ?_
          intro w1 hb
          go_wp2_with fail
          go_returns
          exact ⟨ret_num (HB.out.symm.trans HC.out), hw.trans ((by go_grown : Below wr.heap.size wr _).trans (hb.mono (by go_size)) |>.mono hsz)⟩
        · have HB := Lib.hid (hgood hv); have HV := Lib.hid hv; clear hbad hgood hv hx
          go_wp2_with fail
          go_at_call 85
          with_reducible refine Gives.then (Gives.eq (valid_any x1 x2 _) rfl (by rw [HV.out])) ?_
          intro w1 hb
          go_wp2_with fail
          have hw2 : Below w.heap.size w w1 := hw.trans ((by go_grown : Below wr.heap.size wr _).trans (hb.mono (by go_size)) |>.mono hsz)
          go_roundw
          case rel => exact ⟨k + 1, by omega, by go_num, HB.out, hw2, hw2.size⟩
          case measure => simp [intOf]; omega
      · clear H1
        go_wp2_with fail
        go_returns
        exact ⟨ret_num ((chk_good hlen hlt HP.out).symm.trans HC.out), hw⟩
  · have hfin := (chk_long hlen).symm.trans HC.out
    subst hfin
    clear H1
    go_enter Tryd.func63, Tryd.ntmps63
    go_wp2_with fail
    go_returns
    exact ⟨rfl, by go_grown⟩
end Go.Proofs.YtmobilppakjihaaDoor

/-
  Parts of words: isPart, slices.Clone, Cut.
-/
namespace Go.Proofs.YtmobilppakjihaaDoor
open Go.RowKit Go.Sort
/-- Whether a and b are the ends of a part. -/
def part (n : Nat) (a b : Int) : Bool := decide (0 ≤ a) && decide (a ≤ b) && decide (b ≤ n)
theorem Own.empty (w : World) : Own (w.alloc (.cells #[] 24)) w.heap.size (.slice (some ⟨w.heap.size, 0, none⟩) 0 0) [] :=
  ⟨rfl, .inr ⟨w.heap.size, 0, #[], rfl, Nat.le_refl _, World.alloc_heap_new w _, Nat.le_refl _, by decide, rfl, rfl⟩⟩
/-- The call returns a new slice that holds these sounds. -/
abbrev Makes (f : Nat) (args : Array Value) (w : World) (ss : List Snd) : Prop := Calls Tryd.prog f args w fun e w' => ∃ v, e = .returned v ∧ Own w' w.heap.size v ss ∧ Below w.heap.size w w'
theorem Makes.then {f : Nat} {args : Array Value} {w : World} {ss : List Snd} {Q : Ending → World → Prop} (h : Makes f args w ss) (k : ∀ v w1, Own w1 w.heap.size v ss → Below w.heap.size w w1 → Q (.returned v) w1) : Calls Tryd.prog f args w Q := Calls.mono h (by rintro e w1 ⟨v, rfl, ho, hb⟩; exact k v w1 ho hb)
set_option maxHeartbeats 1000000 in
theorem clone_any (ss : List Snd) (v : Value) (w : World) (hl : ss.length ≤ 1000000000000) (h : Wd w v ss) : Makes 64 #[v] w ss := by
  unfold Makes
  have hnil := fun (w : World) (ao : Option Addr) (n c : Nat) => Lib.run_eql_slice_nil (P := Tryd.prog) w 34 24 ao n c 0 0 Tryd.underlying34
  have h' := h
  have HL := Lib.hid hl; clear hl
  rcases h with ⟨rfl | ⟨aa, rfl⟩, rfl⟩ | ⟨b, off, cap, rfl, hx⟩
  · go_enter Tryd.func64, Tryd.ntmps64
    go_wp2
    go_returns
    exact ⟨_, rfl, Own.nil _ _, by go_grown⟩
  · have HW := Lib.hid h'; clear h'
    have ho1 := Own.empty w
    go_enter Tryd.func64, Tryd.ntmps64
    go_wp2_with (at_builtin; refine wpList_app rfl (.tmp 5) (.tmp 6) 34 Tryd.underlying34 rfl w.heap.size _ _ [] [] rfl rfl ho1 (HW.out.below ((Below.refl _ w).alloc (Nat.le_refl _) _)) (by simp) (by go_size) ?_; intro v' w2 ho2 hk2 hz2)
    go_returns
    exact ⟨_, rfl, ho2, hk2 _ _ (Nat.le_refl _) (by go_grown)⟩
  · have HW := Lib.hid h'; clear h' hx
    have ho1 := Own.empty w
    go_enter Tryd.func64, Tryd.ntmps64
    go_wp2_with (at_builtin; refine wpList_app rfl (.tmp 5) (.tmp 6) 34 Tryd.underlying34 rfl w.heap.size _ _ [] ss rfl rfl ho1 (HW.out.below ((Below.refl _ w).alloc (Nat.le_refl _) _)) (by simpa using HL.out) (by go_size) ?_; intro v' w2 ho2 hk2 hz2)
    go_returns
    exact ⟨_, rfl, ho2, hk2 _ _ (Nat.le_refl _) (by go_grown)⟩
/-- The sounds from A on, to B. -/
def sub (ss : List Snd) (A B : Nat) : List Snd := (ss.drop A).take (B - A)
theorem sub_length {ss : List Snd} {A B : Nat} (hB : B ≤ ss.length) : (sub ss A B).length = B - A := by unfold sub; simp; omega
theorem sub_get {ss : List Snd} {A B i : Nat} (h : i < (sub ss A B).length) (h' : A + i < ss.length) : (sub ss A B)[i] = ss[A + i] := by
  have h2 : i < ((ss.drop A).take (B - A)).length := h
  exact (List.getElem_take (xs := ss.drop A) (h := h2)).trans List.getElem_drop
theorem Wd.sub {w : World} {b off cap A B : Nat} {ss : List Snd} (hc : ss.length ≤ cap) (hm : cap ≤ maxLen) (hb : b < w.heap.size) (h3 : ∀ i (h : i < ss.length), w.cell? ⟨b, off + i * 2, none⟩ = some (.int .u32 (ss[i].1.toNat : Int)) ∧ w.cell? ⟨b, off + i * 2 + 1, none⟩ = some (.int .u32 (ss[i].2.toNat : Int)))
    (hB : B ≤ ss.length) : Wd w (.slice (some ⟨b, off + A * 2, none⟩) (B - A) (cap - A)) (Proofs.YtmobilppakjihaaDoor.sub ss A B) := by
  have hl := sub_length (A := A) hB
  refine .inr ⟨b, off + A * 2, cap - A, by rw [hl], by omega, by omega, hb, fun i hi => ?_⟩
  have hi' : A + i < ss.length := by omega
  obtain ⟨e0, e1⟩ := h3 (A + i) hi'
  rw [sub_get hi hi', show off + A * 2 + i * 2 = off + (A + i) * 2 from by omega]
  exact ⟨e0, e1⟩
theorem Wd.sub0 {w : World} {b off A B : Nat} {ss : List Snd} (hc : ss.length ≤ A) (hb : b < w.heap.size) (hB : B ≤ ss.length) : Wd w (.slice (some ⟨b, off, none⟩) (B - A) 0) (Proofs.YtmobilppakjihaaDoor.sub ss A B) := by
  have hl := sub_length (A := A) hB
  refine .inr ⟨b, off, 0, by rw [hl], by omega, by decide, hb, fun i hi => by omega⟩
/-- What Cut returns: the error, and the sounds. -/
def cutE (ss : List Snd) (a b : Int) : Int := if chk ss ≠ 0 then chk ss else if part ss.length a b then 0 else 3
def cutS (ss : List Snd) (a b : Int) : List Snd := if chk ss ≠ 0 then [] else if part ss.length a b then sub ss a.toNat b.toNat else []
theorem chk_short {ss : List Snd} (h : chk ss = 0) : ss.length ≤ 32 := by
  unfold chk at h
  split at h
  · cases h
  · omega
/-- The call returns an error, and a new slice that holds these sounds. -/
abbrev MakesE (f : Nat) (args : Array Value) (w : World) (e : Int) (ss : List Snd) : Prop := Calls Tryd.prog f args w fun z w' => ∃ v, z = .returned (.tuple #[v, .int .i64 e]) ∧ Own w' w.heap.size v ss ∧ Below w.heap.size w w'
theorem MakesE.then {f : Nat} {args : Array Value} {w : World} {e : Int} {ss : List Snd} {Q : Ending → World → Prop} (h : MakesE f args w e ss) (k : ∀ v w1, Own w1 w.heap.size v ss → Below w.heap.size w w1 → Q (.returned (.tuple #[v, .int .i64 e])) w1) : Calls Tryd.prog f args w Q := Calls.mono h (by rintro z w1 ⟨v, rfl, ho, hb⟩; exact k v w1 ho hb)
theorem own_in {w w1 w2 : World} {v : Value} {ss : List Snd} (ho : Own w2 w1.heap.size v ss) (h1 : Below w.heap.size w w1) : Own w2 w.heap.size v ss := ho.mono h1.size
end Go.Proofs.YtmobilppakjihaaDoor

/-
  Lists of words: checkEach; slices.Grow of a nil slice, slices.Concat.
-/
namespace Go.Proofs.YtmobilppakjihaaDoor
open Go.RowKit Go.Sort
/-- A slice of words. -/
def Ws (w : World) (v : Value) (l : List (Value × List Snd)) : Prop :=
  (v = .slice none 0 0 ∧ l = []) ∨ ∃ b off cap, v = .slice (some ⟨b, off, none⟩) l.length cap ∧ l.length ≤ cap ∧ cap ≤ maxLen ∧ b < w.heap.size ∧ ∀ i (h : i < l.length), w.cell? ⟨b, off + i, none⟩ = some l[i].1 ∧ Wd w l[i].1 l[i].2
theorem Ws.below {w w' : World} {v : Value} {l : List (Value × List Snd)} (h : Ws w v l) (hb : Below w.heap.size w w') : Ws w' v l := by
  rcases h with h | ⟨b, off, cap, h1, hc, hm, h2, h3⟩
  · exact .inl h
  · exact .inr ⟨b, off, cap, h1, hc, hm, by have := hb.size; omega, fun i hi => ⟨(hb.cell (p := ⟨b, off + i, none⟩) h2).trans (h3 i hi).1, (h3 i hi).2.below hb⟩⟩
theorem Ws.open {w : World} {v : Value} {l : List (Value × List Snd)} (h : Ws w v l) : ∃ ao cap, v = .slice ao l.length cap ∧ l.length ≤ cap ∧ cap ≤ maxLen ∧ (∀ i (_ : i < l.length), ∃ b off, ao = some ⟨b, off, none⟩ ∧ b < w.heap.size ∧ w.cell? ⟨b, off + i, none⟩ = some l[i].1 ∧ Wd w l[i].1 l[i].2) := by
  rcases h with ⟨rfl, rfl⟩ | ⟨b, off, cap, rfl, hc, hm, hb, h3⟩
  · exact ⟨none, 0, rfl, by simp, by simp, fun i hi => by simp at hi⟩
  · exact ⟨some ⟨b, off, none⟩, cap, rfl, hc, hm, fun i hi => ⟨b, off, rfl, hb, h3 i hi⟩⟩
/-- The words of a list literal, in a block that was just laid. -/
theorem Ws.lit {w : World} (l : List (Value × List Snd)) (cs : Array Value) (t : TypeId) (hcs : cs.toList = l.map (·.1)) (hl : l.length ≤ 1000000) (h : ∀ x ∈ l, Wd w x.1 x.2) : Ws (w.alloc (.cells cs t)) (.slice (some ⟨w.heap.size, 0, none⟩) l.length l.length) l := by
  refine .inr ⟨w.heap.size, 0, l.length, rfl, Nat.le_refl _, Nat.le_trans hl (by decide), by rw [World.size_alloc]; omega, fun i hi => ⟨?_, (h _ (List.getElem_mem hi)).below ((Below.refl _ w).alloc (Nat.le_refl _) _)⟩⟩
  rw [Nat.zero_add]
  refine cell_block (World.alloc_heap_new w _) ?_
  rw [← Array.getElem?_toList, hcs, List.getElem?_map, List.getElem?_eq_getElem hi]; rfl
/-- The first error of Check. -/
def cke : List (Value × List Snd) → Int
  | [] => 0
  | x :: l => if chk x.2 = 0 then cke l else chk x.2
theorem cke_step {l : List (Value × List Snd)} {k : Nat} (h : k < l.length) : cke (l.drop k) = if chk l[k].2 = 0 then cke (l.drop (k + 1)) else chk l[k].2 := by
  rw [List.drop_eq_getElem_cons h]; rfl
theorem zeroCells_size (cs : Array Value) (n : Nat) : (Builtin.zeroCells cs n).size = n * cs.size := by simp [Builtin.zeroCells]
/-- The sounds of the first k words, one word after the other. -/
def cat (l : List (Value × List Snd)) (k : Nat) : List Snd := ((l.take k).map (·.2)).flatten
theorem cat_step {l : List (Value × List Snd)} {k : Nat} (h : k < l.length) : cat l (k + 1) = cat l k ++ l[k].2 := by
  unfold cat
  rw [List.take_succ_eq_append_getElem h, List.map_append, List.flatten_append]; simp
theorem cat_mono {l : List (Value × List Snd)} {k : Nat} (h : k < l.length) : (cat l k).length + l[k].2.length ≤ (cat l l.length).length := by
  have e : l = l.take k ++ (l[k] :: l.drop (k + 1)) := by rw [← List.drop_eq_getElem_cons h, List.take_append_drop]
  have e2 := congrArg (fun z : List (Value × List Snd) => ((z.map (·.2)).flatten).length) e
  simp only [List.map_append, List.flatten_append, List.length_append, List.map_cons, List.flatten_cons] at e2
  unfold cat
  rw [List.take_length]
  omega
end Go.Proofs.YtmobilppakjihaaDoor

/-
  The words that the examples are made of: sound and spell.
-/
namespace Go.Proofs.YtmobilppakjihaaDoor
open Go.RowKit Go.Sort
/-- The sound that sound(k) returns. -/
def sd : Nat → Snd
  | 0 => (1#32, 16#32)
  | 1 => (2#32, 32#32)
  | _ => (4#32, 64#32)
/-- The sounds of a text. -/
def spellS (l : List UInt8) : List Snd := l.map fun c => if c = 112 then sd 0 else if c = 97 then sd 1 else sd 2
/-- A word of one sound, in a block that was just laid. -/
theorem one_new (w : World) (p m : Int) (a b : BitVec 32) (ha : (a.toNat : Int) = p) (hb : (b.toNat : Int) = m) : Wd (w.alloc (.cells #[.int .u32 p, .int .u32 m] 24 (0, 0))) (.slice (some ⟨w.heap.size, 0, none⟩) 1 1) [(a, b)] := by
  refine .inr ⟨w.heap.size, 0, 1, rfl, by simp, by decide, by rw [World.size_alloc]; omega, fun i hi => ?_⟩
  match i, hi with
  | 0, _ => exact ⟨by rw [← ha]; exact cell_block (World.alloc_heap_new w _) rfl, by rw [← hb]; exact cell_block (World.alloc_heap_new w _) rfl⟩
theorem spell_step {l : List UInt8} {k : Nat} {c : UInt8} (hlt : k < l.length) (hc : l[k] = c) : spellS (l.take (k + 1)) = spellS (l.take k) ++ [if c = 112 then sd 0 else if c = 97 then sd 1 else sd 2] := by
  unfold spellS
  rw [List.take_succ_eq_append_getElem hlt, List.map_append, hc]; rfl
end Go.Proofs.YtmobilppakjihaaDoor

/-
  The specification's Valid, Check, Copy and Cut.
-/
namespace Go.Proofs.YtmobilppakjihaaDoor
open Go.RowKit Go.Sort
attribute [local go_sem] bv_and bv_or ofInt32_nat
theorem vd_iff3 (p m : BitVec 32) : vd (p, m) = true ↔ p.toNat &&& m.toNat = 0 ∧ p.toNat < 16777216 ∧ m.toNat < 16777216 := by
  rw [vd_iff]
  refine and_congr_right fun _ => ⟨fun h => ⟨Nat.lt_of_le_of_lt Nat.left_le_or h, Nat.lt_of_le_of_lt Nat.right_le_or h⟩, fun h => ?_⟩
  exact Nat.or_lt_two_pow (n := 24) h.1 h.2
theorem vd_iff4 (p m : BitVec 32) : vd (p, m) = true ↔ p.toNat &&& m.toNat = 0 ∧ (decide ((p.toNat : Int) < 16777216) = true) ∧ decide ((m.toNat : Int) < 16777216) = true := by
  rw [vd_iff3, decide_eq_true_eq, decide_eq_true_eq]
  exact and_congr_right fun _ => ⟨fun h => ⟨by omega, by omega⟩, fun h => ⟨by omega, by omega⟩⟩
set_option maxHeartbeats 1000000 in
theorem rvalid_any (p m : BitVec 32) (w : World) : Gives 86 #[sn p.toNat m.toNat] w (.bool (vd (p, m))) := by
  unfold Gives
  generalize hd : vd (p, m) = D
  have hv := vd_iff4 p m
  rw [hd] at hv
  have HV := Lib.hid hv; clear hv hd
  by_cases h1 : p.toNat &&& m.toNat = 0
  · rcases h2 : decide ((p.toNat : Int) < 16777216) with _ | _
    · have hD : false = D := by
        rcases D with _ | _
        · rfl
        · have := (HV.out.1 rfl).2.1; rw [h2] at this; cases this
      subst hD; clear HV
      go_enter Tryd.func86, Tryd.ntmps86
      go_wp2
      go_returns
      exact ⟨ret_bool (by first | rfl | simp), by go_grown⟩
    · rcases h3 : decide ((m.toNat : Int) < 16777216) with _ | _
      · have hD : false = D := by
          rcases D with _ | _
          · rfl
          · have := (HV.out.1 rfl).2.2; rw [h3] at this; cases this
        subst hD; clear HV
        go_enter Tryd.func86, Tryd.ntmps86
        go_wp2
        go_returns
        exact ⟨ret_bool (by first | rfl | simp), by go_grown⟩
      · have hD : true = D := (HV.out.2 ⟨h1, h2, h3⟩).symm
        subst hD; clear HV
        go_enter Tryd.func86, Tryd.ntmps86
        go_wp2
        go_returns
        exact ⟨ret_bool (by first | rfl | simp), by go_grown⟩
  · have hD : false = D := by
      rcases D with _ | _
      · rfl
      · exact absurd (HV.out.1 rfl).1 h1
    subst hD; clear HV
    go_enter Tryd.func86, Tryd.ntmps86
    go_wp2
    go_returns
    exact ⟨ret_bool (by first | rfl | simp), by go_grown⟩
set_option maxHeartbeats 2000000 in
theorem rcheck_any (ss : List Snd) (v : Value) (w : World) (h : Wd w v ss) : Gives 82 #[v] w (.int .i64 (chk ss)) := by
  unfold Gives
  obtain ⟨ao, cap, rfl, c1, m1, H1⟩ := h.open
  have l1 := maxLen_lt (Nat.le_trans c1 m1)
  clear h c1 m1
  generalize hC : chk ss = C
  have HC := Lib.hid hC; have H1 := Lib.hid H1; clear hC
  by_cases hlen : ss.length ≤ 32
  · go_enter Tryd.func82, Tryd.ntmps82
    go_wp2_with fail
    go_loopw [3] (fun i wr => ∃ k : Nat, k ≤ ss.length ∧ i = .int .i64 (k : Int) ∧ (ss.take k).all vd = true ∧ Below w.heap.size w wr ∧ w.heap.size ≤ wr.heap.size) (fun i _ => ss.length - (intOf i).toNat)
    case atStart => exact ⟨0, by omega, rfl, by simp, by go_grown, by go_size⟩
    case round =>
      obtain ⟨k, hk, rfl, hp, hw, hsz⟩ := hrel
      have HP := Lib.hid hp; clear hp
      by_cases hlt : k < ss.length
      · obtain ⟨b, off, rfl, lb, d0, d1⟩ := H1.out k hlt
        have d0 := (hw.cell (p := ⟨b, off + k * 2, none⟩) lb).trans d0
        have d1 := (hw.cell (p := ⟨b, off + k * 2 + 1, none⟩) lb).trans d1
        clear H1
        have hbad := fun hv => chk_bad hlen hlt hv
        have hgood := fun hv => vd_more hlt hv HP.out
        generalize hx : ss[k] = x at *
        obtain ⟨x1, x2⟩ := x
        rcases hv : vd (x1, x2) with _ | _
        · have HB := Lib.hid (hbad hv); have HV := Lib.hid hv; clear hbad hgood hv hx
          go_wp2_with fail
          go_at_call 86
          with_reducible refine Gives.then (Gives.eq (rvalid_any x1 x2 _) rfl (by rw [HV.out])) ?_
          intro w1 hb
          go_wp2_with fail
          go_returns
          exact ⟨ret_num (HB.out.symm.trans HC.out), hw.trans ((by go_grown : Below wr.heap.size wr _).trans (hb.mono (by go_size)) |>.mono hsz)⟩
        · have HB := Lib.hid (hgood hv); have HV := Lib.hid hv; clear hbad hgood hv hx
          go_wp2_with fail
          go_at_call 86
          with_reducible refine Gives.then (Gives.eq (rvalid_any x1 x2 _) rfl (by rw [HV.out])) ?_
          intro w1 hb
          go_wp2_with fail
          have hw2 : Below w.heap.size w w1 := hw.trans ((by go_grown : Below wr.heap.size wr _).trans (hb.mono (by go_size)) |>.mono hsz)
          go_roundw
          case rel => exact ⟨k + 1, by omega, by go_num, HB.out, hw2, hw2.size⟩
          case measure => simp [intOf]; omega
      · clear H1
        go_wp2_with fail
        go_returns
        exact ⟨ret_num ((chk_good hlen hlt HP.out).symm.trans HC.out), hw⟩
  · have hfin := (chk_long hlen).symm.trans HC.out
    subst hfin
    clear H1
    go_enter Tryd.func82, Tryd.ntmps82
    go_wp2_with fail
    go_returns
    exact ⟨rfl, by go_grown⟩
set_option maxHeartbeats 2000000 in
set_option maxRecDepth 100000 in
theorem copy_any (xs : List Snd) (v : Value) (hl : xs.length ≤ 1000000000) (w : World) (h : Wd w v xs) : Makes 28 #[v] w xs := by
  unfold Makes
  obtain ⟨ao, cap, rfl, -, -, H1⟩ := h.open
  clear h
  have H1 := Lib.hid H1
  go_enter Tryd.func28, Tryd.ntmps28
  go_wp2_with fail
  go_loopw [4, 3] (fun i s wr => ∃ k : Nat, k ≤ xs.length ∧ i = .int .i64 (k : Int) ∧ Own wr w.heap.size s (xs.take k) ∧ Below w.heap.size w wr ∧ w.heap.size ≤ wr.heap.size) (fun i _ _ => xs.length - (intOf i).toNat)
  case atStart => exact ⟨0, by omega, rfl, by rw [List.take_zero]; exact Own.nil _ _, Below.refl _ _, Nat.le_refl _⟩
  case round =>
    obtain ⟨k, hk, rfl, ho, hw, hsz⟩ := hrel
    by_cases hlt : k < xs.length
    · obtain ⟨bb, off, rfl, lb, d0, d1⟩ := H1.out k hlt
      have d0 := (hw.cell (p := ⟨bb, off + k * 2, none⟩) lb).trans d0
      have d1 := (hw.cell (p := ⟨bb, off + k * 2 + 1, none⟩) lb).trans d1
      have hq := List.take_succ_eq_append_getElem hlt
      have hkl : (xs.take k).length = k := by rw [List.length_take]; omega
      generalize hx : xs[k] = x at *
      obtain ⟨x1, x2⟩ := x
      have HO := Lib.hid ho; have HQ := Lib.hid hq; have HKL := Lib.hid hkl
      simp only at d0 d1
      clear ho hq hx H1 hkl
      have ho1 := HO.out.below ((Below.refl _ wr).alloc (Nat.le_refl _) (.cells #[.int .u32 x1.toNat, .int .u32 x2.toNat] 24 (0, 0)))
      have hw1 := hw.alloc hsz (.cells #[.int .u32 x1.toNat, .int .u32 x2.toNat] 24 (0, 0))
      have HO1 := Lib.hid ho1
      clear ho1
      go_wp2_with (at_builtin; refine wpList_app rfl (.tmp 11) (.tmp 16) 34 Tryd.underlying34 rfl w.heap.size _ _ _ _ rfl rfl HO1.out (one_new wr _ _ x1 x2 rfl rfl) (by have := HKL.out; simp; omega) (by rw [World.size_alloc]; omega) ?_; intro v' w2 ho2 hk2 hz2)
      go_roundw
      case rel => exact ⟨k + 1, by omega, by go_num, by rw [HQ.out]; exact ho2, hk2 _ _ (Nat.le_refl _) hw1, by have := (hk2 _ _ (Nat.le_refl _) hw1).size; omega⟩
      case measure => simp [intOf]; omega
    · obtain rfl : k = xs.length := by omega
      rw [List.take_length] at ho
      go_wp2_with fail
      go_returns
      exact ⟨_, rfl, ho, hw⟩
end Go.Proofs.YtmobilppakjihaaDoor

/-
  Patterns as trees: a node, the patterns below it, the patterns behind it.
-/
namespace Go.Proofs.YtmobilppakjihaaDoor
open Go.RowKit Go.Sort
/-- A node, without the patterns below it; the slice in which they lie. -/
structure Nd where
  kind : Int
  is : Snd
  neg : Bool
  mi : Int
  ma : Int
  sl : Value
/-- Lists of patterns: a node, the patterns below it, and those behind it. -/
inductive Fo where
  | nil : Fo
  | cons (d : Nd) (k : Fo) (r : Fo) : Fo
/-- How many patterns there are. -/
def Fo.len : Fo → Nat
  | .nil => 0
  | .cons _ _ r => r.len + 1
/-- How many nodes there are. -/
def Fo.size : Fo → Nat
  | .nil => 0
  | .cons _ k r => k.size + r.size + 1
/-- The nodes in their order, with the numbers of patterns below them. -/
def Fo.pre : Fo → List (Nd × Nat)
  | .nil => []
  | .cons d k r => (d, k.len) :: (k.pre ++ r.pre)
/-- The patterns from one on. -/
def Fo.drop : Fo → Nat → Fo
  | f, 0 => f
  | .nil, _ + 1 => .nil
  | .cons _ _ r, n + 1 => r.drop n
theorem Fo.drop_zero (f : Fo) : f.drop 0 = f := by cases f <;> rfl
theorem Fo.pre_length : ∀ f : Fo, f.pre.length = f.size
  | .nil => rfl
  | .cons d k r => by simp only [Fo.pre, List.length_cons, List.length_append, Fo.pre_length k, Fo.pre_length r, Fo.size]
theorem Fo.len_size : ∀ f : Fo, f.len ≤ f.size
  | .nil => Nat.le_refl _
  | .cons d k r => by simp only [Fo.len, Fo.size]; have := Fo.len_size r; omega
theorem Fo.drop_step : ∀ (f : Fo) (i : Nat), i < f.len → ∃ d k, f.drop i = .cons d k (f.drop (i + 1))
  | .nil, i, h => by simp [Fo.len] at h
  | .cons d k r, 0, _ => ⟨d, k, by simp [Fo.drop, Fo.drop_zero]⟩
  | .cons d k r, i + 1, h => by
    obtain ⟨d', k', e⟩ := Fo.drop_step r i (by simpa [Fo.len] using h)
    exact ⟨d', k', by simpa [Fo.drop] using e⟩
theorem Fo.drop_len : ∀ (f : Fo), f.drop f.len = .nil
  | .nil => rfl
  | .cons _ _ r => by simpa [Fo.drop, Fo.len] using Fo.drop_len r
theorem Fo.drop_size : ∀ (f : Fo) (i : Nat), (f.drop i).size ≤ f.size
  | f, 0 => by rw [Fo.drop_zero]; exact Nat.le_refl _
  | .nil, _ + 1 => Nat.le_refl _
  | .cons _ k r, i + 1 => by simp only [Fo.drop, Fo.size]; have := Fo.drop_size r i; omega
/-- A sound as a value. -/
def sdV (s : Snd) : Value := .agg #[.int .u32 (s.1.toNat : Int), .int .u32 (s.2.toNat : Int)]
/-- A node as a value. -/
def ndV (d : Nd) : Value := .agg #[.int .i64 d.kind, .int .u32 (d.is.1.toNat : Int), .int .u32 (d.is.2.toNat : Int), .bool d.neg, .int .i64 d.mi, .int .i64 d.ma, d.sl]
/-- A slice of n elements, of which P tells what lies from some cell on. -/
def SlOf (w : World) (v : Value) (n : Nat) (P : Nat → Nat → Prop) : Prop :=
  ((v = .slice none 0 0 ∨ ∃ aa, v = .slice (some aa) 0 0) ∧ n = 0) ∨ ∃ b off cap, v = .slice (some ⟨b, off, none⟩) n cap ∧ n ≤ cap ∧ cap ≤ maxLen ∧ b < w.heap.size ∧ P b off
/-- Patterns that lie one after the other, from a cell on. -/
def Pf (w : World) : Fo → Nat → Nat → Prop
  | .nil, _, _ => True
  | .cons d k r, b, o => w.cell? ⟨b, o, none⟩ = some (.int .i64 d.kind) ∧ w.cell? ⟨b, o + 1, none⟩ = some (.int .u32 (d.is.1.toNat : Int)) ∧ w.cell? ⟨b, o + 2, none⟩ = some (.int .u32 (d.is.2.toNat : Int)) ∧ w.cell? ⟨b, o + 3, none⟩ = some (.bool d.neg)
      ∧ w.cell? ⟨b, o + 4, none⟩ = some (.int .i64 d.mi) ∧ w.cell? ⟨b, o + 5, none⟩ = some (.int .i64 d.ma) ∧ w.cell? ⟨b, o + 6, none⟩ = some d.sl ∧ SlOf w d.sl k.len (Pf w k) ∧ Pf w r b (o + 7)
/-- The patterns below a node. -/
abbrev Pt (w : World) (d : Nd) (k : Fo) : Prop := SlOf w d.sl k.len (Pf w k)
theorem SlOf.mono {w w' : World} {v : Value} {n : Nat} {P Q : Nat → Nat → Prop} (h : SlOf w v n P) (hs : w.heap.size ≤ w'.heap.size) (hPQ : ∀ b o, b < w.heap.size → P b o → Q b o) : SlOf w' v n Q := by
  rcases h with h | ⟨b, off, cap, h1, h2, h3, h4, h5⟩
  · exact .inl h
  · exact .inr ⟨b, off, cap, h1, h2, h3, by omega, hPQ _ _ h4 h5⟩
theorem Pf.below {w w' : World} (hb : Below w.heap.size w w') : ∀ (f : Fo) (b o : Nat), b < w.heap.size → Pf w f b o → Pf w' f b o
  | .nil, _, _, _, _ => trivial
  | .cons d k r, b, o, hl, ⟨h0, h1, h2, h3, h4, h5, h6, h7, h8⟩ =>
    ⟨(hb.cell (p := ⟨b, o, none⟩) hl).trans h0, (hb.cell (p := ⟨b, o + 1, none⟩) hl).trans h1, (hb.cell (p := ⟨b, o + 2, none⟩) hl).trans h2, (hb.cell (p := ⟨b, o + 3, none⟩) hl).trans h3, (hb.cell (p := ⟨b, o + 4, none⟩) hl).trans h4, (hb.cell (p := ⟨b, o + 5, none⟩) hl).trans h5, (hb.cell (p := ⟨b, o + 6, none⟩) hl).trans h6,
      h7.mono hb.size (fun b' o' hl' hp => Pf.below hb k b' o' hl' hp), Pf.below hb r b (o + 7) hl h8⟩
theorem Pt.below {w w' : World} {d : Nd} {k : Fo} (h : Pt w d k) (hb : Below w.heap.size w w') : Pt w' d k := SlOf.mono h hb.size (fun b o hl hp => Pf.below hb k b o hl hp)
theorem Pf.drop {w : World} : ∀ (f : Fo) (i b o : Nat), Pf w f b o → Pf w (f.drop i) b (o + i * 7)
  | f, 0, b, o, h => by rw [Fo.drop_zero, Nat.zero_mul, Nat.add_zero]; exact h
  | .nil, _ + 1, _, _, _ => trivial
  | .cons d k r, i + 1, b, o, h => by
    obtain ⟨-, -, -, -, -, -, -, -, h8⟩ := h
    have := Pf.drop r i b (o + 7) h8
    rw [show o + (i + 1) * 7 = o + 7 + i * 7 from by omega]
    exact this
/-- The slice opened: its form, and what lies in it. -/
theorem Pt.open {w : World} {d : Nd} {k : Fo} (h : Pt w d k) : ∃ ao cap, d.sl = .slice ao k.len cap ∧ k.len ≤ cap ∧ cap ≤ maxLen ∧ ∀ i, i < k.len → ∃ b off, ao = some ⟨b, off, none⟩ ∧ b < w.heap.size ∧ Pf w (k.drop i) b (off + i * 7) := by
  rcases h with ⟨h1 | ⟨aa, h1⟩, h2⟩ | ⟨b, off, cap, h1, h2, h3, h4, h5⟩
  · exact ⟨none, 0, by rw [h1, h2], by omega, by decide, fun i hi => by omega⟩
  · exact ⟨some aa, 0, by rw [h1, h2], by omega, by decide, fun i hi => by omega⟩
  · exact ⟨some ⟨b, off, none⟩, cap, h1, h2, h3, fun i hi => ⟨b, off, rfl, h4, Pf.drop k i b off h5⟩⟩
end Go.Proofs.YtmobilppakjihaaDoor
