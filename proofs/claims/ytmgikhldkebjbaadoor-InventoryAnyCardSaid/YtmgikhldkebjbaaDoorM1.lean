/-
  Lemmas that the theorem of this claim rests on: 16 texts, one behind the other.
-/
import Derived.WalkKit
import Derived.Lib.QuietBelow
import Derived.StillTail
import Derived.Barred
import Derived.Test.YtmgikhldkebjbaaDoorProg
import Derived.WalkSpells
import Derived.WalkLawsBesides
import Derived.BigQuiet
import Derived.Handy
import Derived.Lib.Hide
import Derived.Deep.RegionHeld3
import Derived.OwnWalk
import Derived.Laws.AppendOwnNone
import Derived.Maps.OwnOps
import Derived.Carry
import Derived.MapKept
import Derived.RangeFuncRecord
import Derived.Maps.OwnSet
import Derived.Deep.AppendLies
import Derived.Lib.Strings
import Derived.Lib.Slices
import Derived.Lib.Walk
import Derived.Lib.Bytealg
import Derived.Deep.RegionLaw
import Derived.Laws.StructEq
import Derived.LaidEqlPtr

/-
  The arithmetic of 32-bit sets as the walk writes it, in words of BitVec 32. No program is named here.
-/
namespace Go.Proofs.YtmgikhldkebjbaaDoor
open Go.RowKit

theorem ofInt32_nat (x : BitVec 32) : BitVec.ofInt 32 (x.toNat : Int) = x := by
  rw [BitVec.ofInt_natCast]; simp
theorem u32_lt (x : BitVec 32) : x.toNat < 4294967296 := x.isLt
theorem wrap_u32_nat (x : BitVec 32) : IntKind.u32.wrap (x.toNat : Int) = (x.toNat : Int) := by
  have := u32_lt x; rw [IntKind.wrap_u32]; omega
theorem bv_and (a b : Int) : bits .and .u32 a b = ((BitVec.ofInt 32 a &&& BitVec.ofInt 32 b).toNat : Int) := by
  show IntKind.u32.wrap _ = _; exact wrap_u32_nat _
theorem bv_or (a b : Int) : bits .or .u32 a b = ((BitVec.ofInt 32 a ||| BitVec.ofInt 32 b).toNat : Int) := by
  show IntKind.u32.wrap _ = _; exact wrap_u32_nat _
theorem bv_xor (a b : Int) : bits .xor .u32 a b = ((BitVec.ofInt 32 a ^^^ BitVec.ofInt 32 b).toNat : Int) := by
  show IntKind.u32.wrap _ = _; exact wrap_u32_nat _
theorem bv_andNot (a b : Int) : bits .andNot .u32 a b = ((BitVec.ofInt 32 a &&& ~~~BitVec.ofInt 32 b).toNat : Int) := by
  show IntKind.u32.wrap _ = _; exact wrap_u32_nat _
theorem nat_beq (x y : BitVec 32) : (((x.toNat : Nat) : Int) == ((y.toNat : Nat) : Int)) = (x == y) := by
  rw [Bool.eq_iff_iff]; simp [BitVec.toNat_inj, Int.ofNat_inj]
theorem nat_beq0 (x : BitVec 32) : (((x.toNat : Nat) : Int) == 0) = (x == 0#32) := by
  have := nat_beq x 0#32; simpa using this
/-- A sound as a value. -/
abbrev sv (p m : BitVec 32) : Value := .agg #[.int .u32 (p.toNat : Int), .int .u32 (m.toNat : Int)]
/-- The set of one feature. -/
def bit (k : Nat) : BitVec 32 := 1#32 <<< k
theorem bit_toNat (k : Nat) (hk : k < 32) : (bit k).toNat = 2 ^ k := by
  unfold bit
  rw [BitVec.toNat_shiftLeft, Nat.shiftLeft_eq]
  have : 2 ^ k < 2 ^ 32 := Nat.pow_lt_pow_right (by omega) hk
  simp; omega
theorem pow_bit (k : Nat) (hk : k < 32) : (2 : Int) ^ k % 4294967296 = ((bit k).toNat : Int) := by
  have h2 : 2 ^ k < 2 ^ 32 := Nat.pow_lt_pow_right (by omega) hk
  rw [bit_toNat k hk, show (2 ^ k : Int) = ((2 ^ k : Nat) : Int) from by simp]
  generalize 2 ^ k = z at *
  omega
theorem bit_get (k j : Nat) (hk : k < 32) : (bit k).getLsbD j = decide (j = k) := by
  unfold bit
  rw [BitVec.getLsbD_shiftLeft]
  by_cases h : j = k
  · subst h; simp [hk]
  · simp [h]; intro _ h2 h3; omega
theorem and_bit (x : BitVec 32) (k : Nat) (hk : k < 32) : x.toNat &&& (bit k).toNat = 0 ↔ x.getLsbD k = false := by
  rw [← BitVec.toNat_and, show (0 : Nat) = (0#32).toNat from rfl, BitVec.toNat_inj]
  constructor
  · intro h
    have := congrArg (fun y => y.getLsbD k) h
    simpa [bit_get k k hk] using this
  · intro h
    apply BitVec.eq_of_getLsbD_eq
    intro j hj
    simp [bit_get k j hk]
    intro h1 h2; subst h2; simp [h] at h1
/-- The value of a feature. -/
def getV (p m : BitVec 32) (k : Nat) : Int := if p.getLsbD k then 1 else if m.getLsbD k then -1 else 0
/-- A sound with another value of a feature. -/
def withP (p : BitVec 32) (k : Nat) (v : Int) : BitVec 32 := if v = 1 then (p &&& ~~~bit k) ||| bit k else p &&& ~~~bit k
def withM (m : BitVec 32) (k : Nat) (v : Int) : BitVec 32 := if v = -1 then (m &&& ~~~bit k) ||| bit k else m &&& ~~~bit k
/-- The complement of a set, as one word. -/
def bnot (c : BitVec 32) : BitVec 32 := ~~~c
theorem bnot_toNat (c : BitVec 32) : (bnot c).toNat = 4294967295 - c.toNat := by unfold bnot; simp
theorem xor_all (c : BitVec 32) : 4294967295 ^^^ c.toNat = (bnot c).toNat := by
  rw [show (4294967295 : Nat) = (BitVec.allOnes 32).toNat from by decide, ← BitVec.toNat_xor, BitVec.allOnes_xor]; rfl
theorem u32_unsigned : IntKind.u32.signed = false := rfl
theorem u32_max : IntKind.u32.max = 4294967295 := rfl
theorem sub_mod (x : Nat) : (4294967295 - x) % 4294967296 = 4294967295 - x := by omega
/-- Which sounds are valid. -/
def vld (p m : BitVec 32) : Bool := (p &&& m == 0#32) && ((p ||| m) &&& ~~~16777215#32 == 0#32)
end Go.Proofs.YtmgikhldkebjbaaDoor

/-
  A region that draws its order: its operations read, or call functions that leave what was there as it was, or make an empty variable of the call's own; behind them, in one forced order, the stores. One walk in the order of the text serves every order. No program is named here.
-/
namespace Go.Proofs.YtmgikhldkebjbaaDoor
open Go.RowKit Go.Sort

section
variable {P : Program} {ops : Array Oper} {md : Region.Mode} {C : World → Prop} {mk : Nat → Option Obj}

/-- The worlds in which all blocks of W stand as they stood. -/
def cls (W : World) : World → Prop := fun w' => ∃ p : Regrown, w' = grow (redrawn W p.d) p.os
theorem cls_of {W w : World} (h : Below W.heap.size W w) : cls W w := regrown_of_below h
theorem cls_to {W w : World} (h : cls W w) : Below W.heap.size W w := by obtain ⟨p, rfl⟩ := h; exact below_regrown _ _ _

/-- Whatever order the head is carried out in; what a maker yields is not looked at. -/
def anyM (P : Program) (md : Region.Mode) (ops : Array Oper) (C : World → Prop) (mk : Nat → Option Obj) (n : Nat) (L : Array Bool → Act → Prop) : Nat → Array Bool → Act → Prop
  | 0, listed, a => L listed a
  | f + 1, listed, a => Region.ready md ops listed ≠ [] ∧ ∀ i ∈ Region.ready md ops listed, i < n ∧
      (if (mk i).isSome then anyM P md ops C mk n L f (listed.setIfInBounds i true) a else qOp P ops C i (anyM P md ops C mk n L f (listed.setIfInBounds i true)) a)

theorem anyM_first {n i : Nat} {oi : Oper} {v : Value} {L : Array Bool → Act → Prop} (hi : ops[i]? = some oi) (hmi : (mk i).isSome = false)
    (hsel : ∀ (j : Nat) (o : Oper) cs b, ops[j]? = some o → o.op ≠ .select cs b)
    (hs : Region.sinkB md ops n = true) (hc : Region.chainB md ops n = true) (hn : n < ops.size) (hin : i < n)
    (hdone : ∀ listed a, L listed a → ∀ j ∈ Region.ready md ops listed, n ≤ j) :
    ∀ (f : Nat) (listed : Array Bool) (a : Act), HeadInv md ops n listed →
      (∀ j oj, ops[j]? = some oj → j ≠ i → listed.getD j true = false → (∀ e ∈ oj.after, Region.binds md e = true → e.on ≠ i) → oi.apart ops oj = true) →
      i ∈ Region.ready md ops listed → YieldsIn P ops C oi v a →
      anyM P md ops C mk n L f (listed.setIfInBounds i true) (a.put oi.dst v) → anyM P md ops C mk n L (f + 1) listed a := by
  intro f
  induction f with
  | zero =>
    intro listed a inv _ hr hy H
    have hun := (mem_ready.1 hr).1
    refine ⟨fun h => (by rw [h] at hr; cases hr), fun j hj => ?_⟩
    have hjn : j < n := by
      rcases Nat.lt_or_ge j n with h | h
      · exact h
      · exact absurd hj (tail_waits hs hc hn inv _ i rfl hin hun j h)
    refine ⟨hjn, ?_⟩
    by_cases hji : j = i
    · subst hji; rw [if_neg (by simp [hmi])]; exact hy.qOp hi H
    · have := hdone _ _ H j (ready_mono hj hji)
      omega
  | succ f ih =>
    intro listed a inv hfree hr hy H
    have hun := (mem_ready.1 hr).1
    refine ⟨fun h => (by rw [h] at hr; cases hr), fun j hj => ?_⟩
    have hjn : j < n := by
      rcases Nat.lt_or_ge j n with h | h
      · exact h
      · exact absurd hj (tail_waits hs hc hn inv _ i rfl hin hun j h)
    refine ⟨hjn, ?_⟩
    by_cases hji : j = i
    · subst hji; rw [if_neg (by simp [hmi])]; exact hy.qOp hi H
    · have h1 := (H.2 j (ready_mono hj hji)).2
      obtain ⟨hjun, oj, hoj, hall⟩ := mem_ready.1 hj
      have hnot : ∀ e ∈ oj.after, Region.binds md e = true → e.on ≠ i := fun e he hb heq => by
        have h1 := hall e he hb
        rw [heq, getD_both hun] at h1
        cases h1
      have hfree' : ∀ k ok, ops[k]? = some ok → k ≠ i → (listed.setIfInBounds j true).getD k true = false →
          (∀ e ∈ ok.after, Region.binds md e = true → e.on ≠ i) → oi.apart ops ok = true := fun k ok hk hki hun hno => by
        refine hfree k ok hk hki ?_ hno
        by_cases hjk : j = k
        · subst hjk; exact hjun
        · rw [getD_set_ne true hjk] at hun; exact hun
      by_cases hmj : (mk j).isSome = true
      · rw [if_pos hmj] at h1 ⊢
        refine ih (listed.setIfInBounds j true) a (inv.set hj hjn) hfree' (ready_mono hr (Ne.symm hji)) hy ?_
        rw [Array.setIfInBounds_comm _ _ hji]
        exact h1
      · rw [if_neg hmj] at h1 ⊢
        have h2 := qOp_put hoj (hfree j oj hoj hji hjun hnot) (fun cs b => hsel i oi cs b hi) (fun cs b => hsel j oj cs b hoj) hy h1
        refine qOp_mono (fun a' h3 => ih (listed.setIfInBounds j true) a' (inv.set hj hjn) hfree' (ready_mono hr (Ne.symm hji)) h3.1 ?_) h2
        rw [Array.setIfInBounds_comm _ _ hji]
        exact h3.2

theorem anyM_maker {n i : Nat} {L : Array Bool → Act → Prop} (hmi : (mk i).isSome = true)
    (hs : Region.sinkB md ops n = true) (hc : Region.chainB md ops n = true) (hn : n < ops.size) (hin : i < n)
    (hdone : ∀ listed a, L listed a → ∀ j ∈ Region.ready md ops listed, n ≤ j) :
    ∀ (f : Nat) (listed : Array Bool) (a : Act), HeadInv md ops n listed → i ∈ Region.ready md ops listed →
      anyM P md ops C mk n L f (listed.setIfInBounds i true) a → anyM P md ops C mk n L (f + 1) listed a := by
  intro f
  induction f with
  | zero =>
    intro listed a inv hr H
    have hun := (mem_ready.1 hr).1
    refine ⟨fun h => (by rw [h] at hr; cases hr), fun j hj => ?_⟩
    have hjn : j < n := by
      rcases Nat.lt_or_ge j n with h | h
      · exact h
      · exact absurd hj (tail_waits hs hc hn inv _ i rfl hin hun j h)
    refine ⟨hjn, ?_⟩
    by_cases hji : j = i
    · subst hji; rw [if_pos hmi]; exact H
    · have := hdone _ _ H j (ready_mono hj hji)
      omega
  | succ f ih =>
    intro listed a inv hr H
    have hun := (mem_ready.1 hr).1
    refine ⟨fun h => (by rw [h] at hr; cases hr), fun j hj => ?_⟩
    have hjn : j < n := by
      rcases Nat.lt_or_ge j n with h | h
      · exact h
      · exact absurd hj (tail_waits hs hc hn inv _ i rfl hin hun j h)
    refine ⟨hjn, ?_⟩
    by_cases hji : j = i
    · subst hji; rw [if_pos hmi]; exact H
    · have h1 := (H.2 j (ready_mono hj hji)).2
      have step : ∀ a', anyM P md ops C mk n L f ((listed.setIfInBounds i true).setIfInBounds j true) a' → anyM P md ops C mk n L (f + 1) (listed.setIfInBounds j true) a' := fun a' h => by
        refine ih (listed.setIfInBounds j true) a' (inv.set hj hjn) (ready_mono hr (Ne.symm hji)) ?_
        rw [Array.setIfInBounds_comm _ _ hji]
        exact h
      by_cases hmj : (mk j).isSome = true
      · rw [if_pos hmj] at h1 ⊢; exact step a h1
      · rw [if_neg hmj] at h1 ⊢; exact qOp_mono step h1

/-- The head, in the order of the list: the operations that are no makers first. -/
def ordB (md : Region.Mode) (ops : Array Oper) (mk : Nat → Option Obj) (n g : Nat) : List Nat → Array Bool → Bool
  | [], listed => Region.seqB md ops g n listed && (List.range n).all fun i => listed.getD i false
  | k :: ks, listed => (Region.ready md ops listed).contains k && decide (k < n) && ((mk k).isSome || Region.free md ops listed k) && ordB md ops mk n g ks (listed.setIfInBounds k true)
def quiets (ops : Array Oper) (mk : Nat → Option Obj) (ks : List Nat) : List Oper := ks.filterMap fun k => if (mk k).isSome then none else ops[k]?

theorem anyM_lex {n g : Nat} {Lq : Act → Prop} (hsel : Region.noSelect ops = true) (hs : Region.sinkB md ops n = true) (hc : Region.chainB md ops n = true) (hn : n < ops.size) :
    ∀ (ks : List Nat) (listed : Array Bool) (a : Act), HeadInv md ops n listed → ordB md ops mk n g ks listed = true → wpQuiet P ops C Lq (quiets ops mk ks) a →
    anyM P md ops C mk n (fun listed' a' => (Region.seqB md ops g n listed' = true ∧ ((List.range n).all fun i => listed'.getD i false) = true) ∧ Lq a') ks.length listed a
  | [], listed, a, _, hB, h => by
    simp only [ordB, Bool.and_eq_true] at hB
    exact ⟨hB, h⟩
  | k :: ks, listed, a, inv, hB, h => by
    simp only [ordB, Bool.and_eq_true, decide_eq_true_eq] at hB
    obtain ⟨⟨⟨hr, hkn⟩, hf⟩, hB'⟩ := hB
    have hr' : k ∈ Region.ready md ops listed := by simpa using hr
    have hd : ∀ (listed : Array Bool) (a : Act), ((Region.seqB md ops g n listed = true ∧ ((List.range n).all fun i => listed.getD i false) = true) ∧ Lq a) → ∀ j ∈ Region.ready md ops listed, n ≤ j := fun listed a hL => seqB_ready hL.1.1
    obtain ⟨_, o, ho, _⟩ := mem_ready.1 hr'
    by_cases hm : (mk k).isSome = true
    · have hq : quiets ops mk (k :: ks) = quiets ops mk ks := by unfold quiets; rw [List.filterMap_cons_none (by rw [if_pos hm])]
      rw [hq] at h
      exact anyM_maker hm hs hc hn hkn hd ks.length listed a inv hr' (anyM_lex hsel hs hc hn ks _ a (inv.set hr' hkn) hB' h)
    · have hq : quiets ops mk (k :: ks) = o :: quiets ops mk ks := by unfold quiets; rw [List.filterMap_cons_some (by rw [if_neg hm]; exact ho)]
      rw [hq] at h
      have hf' : Region.free md ops listed k = true := by simpa [hm] using hf
      have hst : qOp P ops C k (wpQuiet P ops C Lq (quiets ops mk ks)) a := by unfold qOp; simp only [ho]; exact h
      obtain ⟨v, hy, hK⟩ := yieldsIn_of_qOp ho hst
      exact anyM_first ho (by simpa using hm) (Region.noSelect_spec hsel) hs hc hn hkn hd ks.length listed a inv (Region.free_spec ho hf') hr' hy
        (anyM_lex hsel hs hc hn ks _ _ (inv.set hr' hkn) hB' hK)

theorem put_slot {a : Act} {dst : Option Tmp} {d : Tmp} (v : Value) (h : dst ≠ some d) : (a.put dst v).tmps[d]? = a.tmps[d]? := by
  cases dst with
  | none => rfl
  | some e =>
    have : e ≠ d := fun he => h (by rw [he])
    simp [Act.put, Array.getElem?_setIfInBounds_ne this]
theorem put_same {a : Act} {dst : Option Tmp} {v v' : Value} (h : ∀ d, dst = some d → (a.put dst v).tmps[d]? = (a.put dst v').tmps[d]?) : a.put dst v = a.put dst v' := by
  cases dst with
  | none => rfl
  | some d =>
    have := h d rfl
    simp only [Act.put] at this ⊢
    rcases Nat.lt_or_ge d a.tmps.size with hd | hd
    · simp [hd] at this; rw [this]
    · rw [Array.setIfInBounds_eq_of_size_le hd, Array.setIfInBounds_eq_of_size_le hd]

theorem anyM_slot {n : Nat} {G : Array Bool → Prop} {A0 : Act} {d : Tmp} : ∀ (f : Nat) (listed : Array Bool) (a : Act),
    anyM P md ops C mk n (fun l' a' => G l' ∧ a' = A0) f listed a → (∀ k, listed.getD k true = false → (ops[k]?).bind (·.dst) ≠ some d) → a.tmps[d]? = A0.tmps[d]?
  | 0, _, a, h, _ => by rw [h.2]
  | f + 1, listed, a, h, hd => by
    obtain ⟨i, hi⟩ := List.exists_mem_of_ne_nil _ h.1
    have h1 := (h.2 i hi).2
    obtain ⟨hun, o, ho, _⟩ := mem_ready.1 hi
    have hdi : o.dst ≠ some d := by have := hd i hun; rw [ho] at this; exact this
    have hd' : ∀ k, (listed.setIfInBounds i true).getD k true = false → (ops[k]?).bind (·.dst) ≠ some d := fun k hk => by
      by_cases hik : i = k
      · subst hik; exact hd i hun
      · rw [getD_set_ne true hik] at hk; exact hd k hk
    by_cases hm : (mk i).isSome = true
    · rw [if_pos hm] at h1; exact anyM_slot f _ a h1 hd'
    · rw [if_neg hm] at h1
      unfold qOp at h1
      simp only [ho] at h1
      split at h1
      · obtain ⟨v, _, hk⟩ := h1
        have := anyM_slot f _ _ hk hd'
        rwa [put_slot _ hdi] at this
      · have := anyM_slot f _ _ h1 hd'
        rwa [put_slot _ hdi] at this

def ptr (b : Nat) : Value := .pointer (some ⟨b, 0, none⟩)
/-- The frame with what the makers that have come up have yielded. -/
def conc (ops : Array Oper) (bs : Nat → Nat) (listed : Array Bool) (a : Act) (ms : List Nat) : Act :=
  ms.foldr (fun i a => if listed.getD i false then a.put ((ops[i]?).bind (·.dst)) (ptr (bs i)) else a) a

/-- What is asked of the makers. -/
structure MakersOK (P : Program) (ops : Array Oper) (mk : Nat → Option Obj) (n : Nat) (ms : List Nat) : Prop where
  nodup : ms.Nodup
  all : ∀ i, (mk i).isSome = true ↔ i ∈ ms
  run : ∀ i obj, mk i = some obj → ∃ o, ops[i]? = some o ∧ (∀ ts, Region.wanted o (yielded ops ts) = true) ∧ ∀ (a : Act) w, (execOp a.eval o).run P w = .ok (.value (ptr w.heap.size)) (w.alloc obj)
  apart : ∀ i oi j oj, i ∈ ms → ops[i]? = some oi → j < n → j ≠ i → ops[j]? = some oj → oi.apart ops oj = true

variable {n : Nat} {ms : List Nat}

theorem conc_exec (hM : MakersOK P ops mk n ms) (bs : Nat → Nat) (listed : Array Bool) (a : Act) {j : Nat} {oj : Oper} (hj : ops[j]? = some oj) (hjn : j < n) (hmj : j ∉ ms)
    (hsel : ∀ cs b, oj.op ≠ .select cs b) : ∀ (l : List Nat), (∀ i ∈ l, i ∈ ms) →
    execOp (conc ops bs listed a l).eval oj = execOp a.eval oj ∧ Region.wanted oj (yielded ops (conc ops bs listed a l).tmps) = Region.wanted oj (yielded ops a.tmps) ∧
    ∀ v, (conc ops bs listed a l).put oj.dst v = conc ops bs listed (a.put oj.dst v) l
  | [], _ => ⟨rfl, rfl, fun _ => rfl⟩
  | i :: l, hl => by
    obtain ⟨h1, h2, h3⟩ := conc_exec hM bs listed a hj hjn hmj hsel l (fun i hi => hl i (List.mem_cons_of_mem _ hi))
    have him := hl i (List.mem_cons_self ..)
    obtain ⟨obj, hobj⟩ := Option.isSome_iff_exists.1 ((hM.all i).2 him)
    obtain ⟨oi, hoi, _⟩ := hM.run i obj hobj
    obtain ⟨a1, a2, a3⟩ := Oper.apart_spec (hM.apart i oi j oj him hoi hjn (fun e => hmj (e ▸ him)) hj)
    simp only [conc, List.foldr_cons, hoi, Option.bind_some]
    by_cases hli : listed.getD i false = true
    · simp only [hli, if_true]
      refine ⟨?_, ?_, fun v => ?_⟩
      · rw [execOp_put oj hsel _ _ _ a1]; exact h1
      · rw [wanted_put oj _ _ _ a1]; exact h2
      · rw [Act.put_comm _ _ _ a2]; exact congrArg (fun x => Act.put x oi.dst (ptr (bs i))) (h3 v)
    · simp only [hli]
      exact ⟨h1, h2, h3⟩

theorem conc_other (bs : Nat → Nat) (listed : Array Bool) (a : Act) {j : Nat} : ∀ (l : List Nat), j ∉ l → conc ops bs (listed.setIfInBounds j true) a l = conc ops bs listed a l
  | [], _ => rfl
  | i :: l, h => by
    have hij : j ≠ i := fun e => h (e ▸ List.mem_cons_self ..)
    have ih := conc_other bs listed a l (fun hm => h (List.mem_cons_of_mem _ hm))
    simp only [conc, List.foldr_cons] at ih ⊢
    rw [getD_set_ne false hij, ih]

theorem conc_bs (bs bs' : Nat → Nat) (listed : Array Bool) (a : Act) : ∀ (l : List Nat), (∀ i ∈ l, bs i = bs' i) → conc ops bs listed a l = conc ops bs' listed a l
  | [], _ => rfl
  | i :: l, h => by
    have ih := conc_bs bs bs' listed a l (fun j hj => h j (List.mem_cons_of_mem _ hj))
    simp only [conc, List.foldr_cons] at ih ⊢
    rw [ih, h i (List.mem_cons_self ..)]

def upd (bs : Nat → Nat) (i b : Nat) : Nat → Nat := fun k => if k = i then b else bs k
theorem upd_same (bs : Nat → Nat) (i b : Nat) : upd bs i b i = b := if_pos rfl
theorem upd_ne (bs : Nat → Nat) {i k : Nat} (b : Nat) (h : k ≠ i) : upd bs i b k = bs k := if_neg h

theorem conc_set (hM : MakersOK P ops mk n ms) (hmn : ∀ i ∈ ms, i < n) (bs : Nat → Nat) (listed : Array Bool) (a : Act) {i : Nat} {oi : Oper} (hoi : ops[i]? = some oi) (him : i ∈ ms) (b : Nat) (hi : i < listed.size) (hun : listed.getD i false = false) :
    ∀ (l : List Nat), (∀ i ∈ l, i ∈ ms) → l.Nodup → i ∈ l → conc ops (upd bs i b) (listed.setIfInBounds i true) a l = (conc ops bs listed a l).put oi.dst (ptr b)
  | h :: l, hl, hnd, hin => by
    rw [List.nodup_cons] at hnd
    by_cases hhi : h = i
    · subst hhi
      have e1 : conc ops (upd bs h b) (listed.setIfInBounds h true) a l = conc ops bs listed a l := by
        rw [conc_other (j := h) _ _ _ l hnd.1]
        exact conc_bs _ _ _ _ l fun k hk => upd_ne bs b (fun e => hnd.1 (e ▸ hk))
      simp only [conc, List.foldr_cons] at e1 ⊢
      rw [e1, upd_same, hun, hoi]
      simp [hi]
    · have hil : i ∈ l := (List.mem_cons.1 hin).elim (fun e => absurd e.symm hhi) id
      have ih := conc_set hM hmn bs listed a hoi him b hi hun l (fun j hj => hl j (List.mem_cons_of_mem _ hj)) hnd.2 hil
      have hhm := hl h (List.mem_cons_self ..)
      obtain ⟨obj, hobj⟩ := Option.isSome_iff_exists.1 ((hM.all h).2 hhm)
      obtain ⟨oh, hoh, _⟩ := hM.run h obj hobj
      obtain ⟨_, a2, _⟩ := Oper.apart_spec (hM.apart i oi h oh him hoi (hmn h hhm) hhi hoh)
      simp only [conc, List.foldr_cons] at ih ⊢
      rw [getD_set_ne false (Ne.symm hhi), ih, upd_ne bs b hhi, hoh]
      simp only [Option.bind_some]
      by_cases hlh : listed.getD h false = true
      · simp only [hlh, if_true]
        exact Act.put_comm _ _ _ a2
      · simp only [hlh]
        rfl

/-- What is known of the makers' blocks. -/
structure Facts (W w : World) (mk : Nat → Option Obj) (ms : List Nat) (listed : Array Bool) (bs : Nat → Nat) : Prop where
  at_ : ∀ i ∈ ms, listed.getD i false = true → W.heap.size ≤ bs i ∧ ∃ obj, mk i = some obj ∧ w.heap[bs i]? = some obj
  ne : ∀ i ∈ ms, ∀ j ∈ ms, listed.getD i false = true → listed.getD j false = true → i ≠ j → bs i ≠ bs j

theorem anyM_sound {g : Nat} {A0 : Act} {Q : Exit → Act → World → Prop} {W : World} (hsel : Region.noSelect ops = true) (hM : MakersOK P ops mk n ms) (hmn : ∀ i ∈ ms, i < n) (hn : n < ops.size)
    (hd : ∀ i j d, i < n → j < n → i ≠ j → (ops[i]?).bind (·.dst) = some d → (ops[j]?).bind (·.dst) ≠ some d)
    (hdt : ∀ i t d, i < n → n ≤ t → (ops[i]?).bind (·.dst) = some d → (ops[t]?).bind (·.dst) ≠ some d)
    (G : Array Bool → Prop)
    (fin : ∀ bs listed w, Below W.heap.size W w → G listed → Facts W w mk ms listed bs → wpAny P md ops Q g listed (conc ops bs listed A0 ms) w) :
    ∀ (f : Nat) (bs : Nat → Nat) (listed : Array Bool) (a : Act) (w : World), HeadInv md ops n listed → Below W.heap.size W w → Facts W w mk ms listed bs →
      (∀ W', Below w.heap.size w W' → anyM P md ops (cls W') mk n (fun l' a' => G l' ∧ a' = A0) f listed a) →
      wpAny P md ops Q (f + g) listed (conc ops bs listed a ms) w
  | 0, bs, listed, a, w, _, hB, hF, H => by
    obtain ⟨h1, h2⟩ := H w (Below.refl _ _)
    subst h2
    rw [Nat.zero_add]
    exact fin bs listed w hB h1 hF
  | f + 1, bs, listed, a, w, inv, hB, hF, H => by
    rw [show f + 1 + g = (f + g) + 1 by omega]
    refine ⟨fun h0 => absurd h0 (H w (Below.refl _ _)).1, fun i hi => ?_⟩
    obtain ⟨hin, h1⟩ := (H w (Below.refl _ _)).2 i hi
    obtain ⟨hun, o, ho, _⟩ := mem_ready.1 hi
    have hsz : i < listed.size := by rw [inv.size]; omega
    have hunF := getD_both hun
    -- facts kept while the world grows
    have keepF : ∀ {w'' : World}, Below w.heap.size w w'' → i ∉ ms → Facts W w'' mk ms (listed.setIfInBounds i true) bs := fun {w''} hb him => by
      refine ⟨fun k hk hl => ?_, fun k hk j hj hl hl' hne => ?_⟩
      · have hki : i ≠ k := fun e => him (e ▸ hk)
        rw [getD_set_ne false hki] at hl
        obtain ⟨q1, obj, q2, q3⟩ := hF.at_ k hk hl
        exact ⟨q1, obj, q2, by rw [hb.block _ (Array.getElem?_eq_some_iff.1 q3).1]; exact q3⟩
      · have hki : i ≠ k := fun e => him (e ▸ hk)
        have hji : i ≠ j := fun e => him (e ▸ hj)
        rw [getD_set_ne false hki] at hl
        rw [getD_set_ne false hji] at hl'
        exact hF.ne k hk j hj hl hl' hne
    by_cases hm : (mk i).isSome = true
    · have him := (hM.all i).1 hm
      obtain ⟨obj, hobj⟩ := Option.isSome_iff_exists.1 hm
      obtain ⟨o', ho', hwant, hrun⟩ := hM.run i obj hobj
      have : o' = o := Option.some.inj (ho'.symm.trans ho)
      subst this
      unfold wpOp
      simp only [ho, hwant, if_true]
      refine .inl ?_
      unfold Oper.wp
      rw [hrun]
      show wpAny P md ops Q (f + g) _ ((conc ops bs listed a ms).put o'.dst (ptr w.heap.size)) (w.alloc obj)
      have hbw : Below w.heap.size w (w.alloc obj) := (Below.refl _ w).alloc (Nat.le_refl _) obj
      rw [← conc_set hM hmn bs listed a ho him w.heap.size hsz hunF ms (fun _ h => h) hM.nodup him]
      refine anyM_sound hsel hM hmn hn hd hdt G fin f _ _ a _ (inv.set hi hin) (hB.trans (hbw.mono hB.size)) ⟨fun k hk hl => ?_, fun k hk j hj hl hl' hne => ?_⟩ ?_
      · by_cases hki : k = i
        · subst hki
          rw [upd_same]
          exact ⟨hB.size, obj, hobj, by show (w.heap.push obj)[w.heap.size]? = _; simp⟩
        · rw [getD_set_ne false (Ne.symm hki)] at hl
          rw [upd_ne bs _ hki]
          obtain ⟨q1, obj', q2, q3⟩ := hF.at_ k hk hl
          exact ⟨q1, obj', q2, by rw [hbw.block _ (Array.getElem?_eq_some_iff.1 q3).1]; exact q3⟩
      · by_cases hki : k = i
        · subst hki
          rw [upd_same, upd_ne bs _ (Ne.symm hne)]
          rw [getD_set_ne false hne] at hl'
          obtain ⟨_, _, _, q3⟩ := hF.at_ j hj hl'
          have := (Array.getElem?_eq_some_iff.1 q3).1
          omega
        · by_cases hji : j = i
          · subst hji
            rw [upd_same, upd_ne bs _ hki]
            rw [getD_set_ne false (Ne.symm hki)] at hl
            obtain ⟨_, _, _, q3⟩ := hF.at_ k hk hl
            have := (Array.getElem?_eq_some_iff.1 q3).1
            omega
          · rw [upd_ne bs _ hki, upd_ne bs _ hji]
            rw [getD_set_ne false (Ne.symm hki)] at hl
            rw [getD_set_ne false (Ne.symm hji)] at hl'
            exact hF.ne k hk j hj hl hl' hne
      · intro W' hW'
        have := ((H W' (hbw.trans (hW'.mono hbw.size))).2 i hi).2
        rwa [if_pos hm] at this
    · have him : i ∉ ms := fun h => hm ((hM.all i).2 h)
      rw [if_neg hm] at h1
      have hs1 := Region.noSelect_spec hsel i o
      obtain ⟨c1, c2, c3⟩ := conc_exec hM bs listed a ho hin him (fun cs b => hs1 cs b ho) ms (fun _ h => h)
      -- the frame behind the operation is the same whatever the class
      have next : ∀ (u : Value) (w'' : World), Below w.heap.size w w'' → anyM P md ops (cls w) mk n (fun l' a' => G l' ∧ a' = A0) f (listed.setIfInBounds i true) (a.put o.dst u) →
          (∀ W', Below w''.heap.size w'' W' → ∃ u', anyM P md ops (cls W') mk n (fun l' a' => G l' ∧ a' = A0) f (listed.setIfInBounds i true) (a.put o.dst u')) →
          wpAny P md ops Q (f + g) (listed.setIfInBounds i true) ((conc ops bs listed a ms).put o.dst u) w'' := fun u w'' hb hu hall => by
        rw [c3 u, ← conc_other (j := i) bs listed _ ms him]
        refine anyM_sound hsel hM hmn hn hd hdt G fin f bs _ _ w'' (inv.set hi hin) (hB.trans (hb.mono hB.size)) (keepF hb him) fun W' hW' => ?_
        obtain ⟨u', hu'⟩ := hall W' hW'
        have hslot : ∀ d, o.dst = some d → ∀ k, (listed.setIfInBounds i true).getD k true = false → (ops[k]?).bind (·.dst) ≠ some d := fun d hd' k hk => by
          have hki : i ≠ k := fun e => by
            subst e
            simp [hsz] at hk
          rcases Nat.lt_or_ge k n with hkn | hkn
          · exact hd i k d hin hkn hki (by rw [ho]; exact hd')
          · exact hdt i k d hin hkn (by rw [ho]; exact hd')
        rw [put_same (a := a) (v := u) (v' := u') fun d hd' => (anyM_slot f _ _ hu (hslot d hd')).trans (anyM_slot f _ _ hu' (hslot d hd')).symm]
        exact hu'
      have hall : ∀ {w'' : World}, Below w.heap.size w w'' → ∀ W', Below w''.heap.size w'' W' → ∃ u', anyM P md ops (cls W') mk n (fun l' a' => G l' ∧ a' = A0) f (listed.setIfInBounds i true) (a.put o.dst u') := fun {w''} hb W' hW' => by
        have h2 := ((H W' (hb.trans (hW'.mono hb.size))).2 i hi).2
        rw [if_neg hm] at h2
        obtain ⟨u', _, hk⟩ := yieldsIn_of_qOp ho h2
        exact ⟨u', hk⟩
      unfold qOp at h1
      unfold wpOp
      simp only [ho] at h1 ⊢
      rw [c2]
      split
      · rename_i hw
        simp only [hw, if_true] at h1
        obtain ⟨v, hv, hk⟩ := h1
        have h3 := hv w (cls_of (Below.refl _ _))
        refine .inl ?_
        unfold Oper.quietAt at h3
        unfold Oper.wp
        rw [c1]
        generalize (execOp a.eval o).run P w = r at *
        cases r with
        | ok nx w' =>
          cases nx <;> simp only [Oper.quietUpon] at h3 <;> simp only [Oper.upon]
          case value u =>
            obtain ⟨e1, e2⟩ := h3
            rw [e1, e2]
            exact next v w (Below.refl _ _) hk (hall (Below.refl _ _))
          case skip =>
            obtain ⟨e1, e2⟩ := h3
            rw [e1, ← e2]
            exact next v w (Below.refl _ _) hk (hall (Below.refl _ _))
          case enter fn args =>
            obtain ⟨e1, hcal⟩ := h3
            rw [e1]
            exact hcal.mono fun e w'' ⟨he, hw''⟩ => by subst he; exact next v w'' (cls_to hw'') hk (hall (cls_to hw''))
        | halt x w' => simp only [Oper.quietUpon] at h3
      · rename_i hw
        simp only [hw] at h1
        exact next undef w (Below.refl _ _) h1 (hall (Below.refl _ _))

/-- Which operations are makers, and what each makes. -/
def mkOf (mks : List (Nat × Obj)) (i : Nat) : Option Obj := (mks.find? fun x => x.1 == i).map (·.2)
theorem mkOf_some {mks : List (Nat × Obj)} {i : Nat} : (mkOf mks i).isSome = true ↔ i ∈ mks.map (·.1) := by
  unfold mkOf
  rw [Option.isSome_map, List.find?_isSome, List.mem_map]
  constructor
  · rintro ⟨x, hx, h⟩; exact ⟨x, hx, by simpa using h⟩
  · rintro ⟨x, hx, h⟩; exact ⟨x, hx, by simpa using h⟩
theorem mkOf_mem {mks : List (Nat × Obj)} {i : Nat} {obj : Obj} (h : mkOf mks i = some obj) : (i, obj) ∈ mks := by
  unfold mkOf at h
  obtain ⟨x, hx, rfl⟩ := Option.map_eq_some_iff.1 h
  have h1 := List.find?_some hx
  have h2 := List.mem_of_find?_eq_some hx
  have : x.1 = i := by simpa using h1
  subst this; exact h2
theorem mkOf_of_mem {mks : List (Nat × Obj)} (hnd : (mks.map (·.1)).Nodup) {x : Nat × Obj} (h : x ∈ mks) : mkOf mks x.1 = some x.2 := by
  induction mks with
  | nil => cases h
  | cons y ys ih =>
    simp only [List.map_cons, List.nodup_cons] at hnd
    unfold mkOf
    rcases List.mem_cons.1 h with rfl | h
    · simp
    · have hne : (y.1 == x.1) = false := by
        rw [beq_eq_false_iff_ne]
        intro e
        exact hnd.1 (e ▸ List.mem_map_of_mem h)
      rw [List.find?_cons_of_neg (by rw [hne]; simp)]
      exact ih hnd.2 h

def nodupB : List Nat → Bool
  | [] => true
  | x :: xs => !xs.contains x && nodupB xs
theorem nodupB_spec : ∀ {l : List Nat}, nodupB l = true → l.Nodup
  | [], _ => List.nodup_nil
  | x :: xs, h => by
    simp only [nodupB, Bool.and_eq_true, Bool.not_eq_true'] at h
    exact List.nodup_cons.2 ⟨by simpa using h.1, nodupB_spec h.2⟩
def dstOf (ops : Array Oper) (i : Nat) : Option Tmp := (ops[i]?).bind (·.dst)
def apartB (ops : Array Oper) (i j : Nat) : Bool := match ops[i]?, ops[j]? with
  | some oi, some oj => oi.apart ops oj
  | _, _ => true
/-- All that can be reckoned about the region's shape. -/
def regB (ops : Array Oper) (n : Nat) (ms ks : List Nat) : Bool :=
  Region.noSelect ops && decide (n < ops.size) && Region.sinkB .any ops n && Region.chainB .any ops n &&
  ordB .any ops (mkOf (ms.map fun i => (i, default))) n (ops.size - n) ks (Array.replicate ops.size false) && (ks.length == n) && nodupB ms && ms.all (fun i => decide (i < n)) &&
  ((List.range n).all fun i => (List.range ops.size).all fun j => i == j || match dstOf ops i with | none => true | some d => dstOf ops j != some d) &&
  (ms.all fun i => (List.range n).all fun j => i == j || apartB ops i j)

theorem ordB_congr {mk mk' : Nat → Option Obj} {n g : Nat} (h : ∀ i, (mk i).isSome = (mk' i).isSome) : ∀ (ks : List Nat) (listed : Array Bool), ordB md ops mk n g ks listed = ordB md ops mk' n g ks listed
  | [], _ => rfl
  | k :: ks, listed => by simp only [ordB, h k, ordB_congr h ks]

theorem conc_full {ops : Array Oper} {bs : Nat → Nat} {listed : Array Bool} (a : Act) : ∀ (l : List Nat), (∀ i ∈ l, listed.getD i false = true) →
    conc ops bs listed a l = l.foldr (fun i a => a.put (dstOf ops i) (ptr (bs i))) a
  | [], _ => rfl
  | i :: l, h => by
    have ih := conc_full (ops := ops) (bs := bs) a l (fun j hj => h j (List.mem_cons_of_mem _ hj))
    simp only [conc, List.foldr_cons] at ih ⊢
    rw [ih, h i (List.mem_cons_self ..)]
    rfl

/-- **The law.** n: how many operations stand ahead of the stores; mks: the makers among them, with what each makes; ks: the order of the walk (the makers may stand anywhere); A0: the frame behind the walk. -/
theorem wp_region_makers {P : Program} {id : Nat} {Q : Exit → Act → World → Prop} {a : Act} {W : World} {l : List Oper} (n : Nat) (mks : List (Nat × Obj)) (ks : List Nat) (A0 : Act) (qs : List Oper)
    (hm : P.follows .mixedOrders = true) (hB : regB l.toArray n (mks.map (·.1)) ks = true)
    (hrun : ∀ x ∈ mks, ∃ o, l[x.1]? = some o ∧ o.guard = none ∧ ∀ (a : Act) w, (execOp a.eval o).run P w = .ok (.value (ptr w.heap.size)) (w.alloc x.2))
    (hq : quiets l.toArray (mkOf mks) ks = qs)
    (h : ∀ W', Below W.heap.size W W' → wpQuiet P l.toArray (fun w' => ∃ p : Regrown, w' = grow (redrawn W' p.d) p.os) (fun a' => a' = A0) qs a)
    (fin : ∀ (bs : Nat → Nat) (w' : World), Below W.heap.size W w' → (∀ x ∈ mks, W.heap.size ≤ bs x.1 ∧ w'.heap[bs x.1]? = some x.2) → (∀ x ∈ mks, ∀ y ∈ mks, x.1 ≠ y.1 → bs x.1 ≠ bs y.1) →
      wpList P l.toArray Q (l.drop n) ((mks.map (·.1)).foldr (fun i a => a.put (dstOf l.toArray i) (ptr (bs i))) A0) w') :
    (Code.region id l.toArray true).wp P Q a W := by
  simp only [regB, Bool.and_eq_true, decide_eq_true_eq, List.all_eq_true, Bool.or_eq_true, beq_iff_eq, List.mem_range] at hB
  obtain ⟨⟨⟨⟨⟨⟨⟨⟨⟨hsel, hn⟩, hs⟩, hc⟩, hord⟩, hlen⟩, hnd⟩, hms⟩, hdst⟩, hap⟩ := hB
  have hnodup := nodupB_spec hnd
  have hiso : ∀ i, (mkOf ((mks.map (·.1)).map fun i => (i, (default : Obj))) i).isSome = (mkOf mks i).isSome := fun i => by
    rw [Bool.eq_iff_iff, mkOf_some, mkOf_some]
    simp
  rw [ordB_congr hiso] at hord
  have hM : MakersOK P l.toArray (mkOf mks) n (mks.map (·.1)) := by
    refine ⟨hnodup, fun i => mkOf_some, fun i obj hi => ?_, fun i oi j oj hi hoi hj hji hoj => ?_⟩
    · obtain ⟨o, ho, hg, hr⟩ := hrun _ (mkOf_mem hi)
      exact ⟨o, by simpa using ho, fun ts => by unfold Region.wanted; rw [hg], hr⟩
    · rcases hap i hi j hj with e | e
      · exact absurd e.symm hji
      · simpa [apartB, hoi, hoj] using e
  have hd : ∀ i j d, i < n → j < l.toArray.size → i ≠ j → dstOf l.toArray i = some d → dstOf l.toArray j ≠ some d := fun i j d hi hj hij he => by
    rcases hdst i hi j hj with e | e
    · exact absurd e hij
    · rw [he] at e; simpa using e
  have hd1 : ∀ i j d, i < n → j < n → i ≠ j → (l.toArray[i]?).bind (·.dst) = some d → (l.toArray[j]?).bind (·.dst) ≠ some d := fun i j d hi hj hij he => hd i j d hi (by omega) hij he
  have hd2 : ∀ i t d, i < n → n ≤ t → (l.toArray[i]?).bind (·.dst) = some d → (l.toArray[t]?).bind (·.dst) ≠ some d := fun i t d hi ht he => by
    rcases Nat.lt_or_ge t l.toArray.size with h' | h'
    · exact hd i t d hi h' (by omega) he
    · rw [Array.getElem?_eq_none h']; simp
  have hmn : ∀ i ∈ mks.map (·.1), i < n := hms
  have inv0 : HeadInv .any l.toArray n (Array.replicate l.toArray.size false) :=
    ⟨by simp, fun j oj _ hl => (by rw [getD_replicate_false] at hl; cases hl), fun t _ ht => getD_in (by simpa using ht) (getD_replicate_false _ _)⟩
  have hdr : Below W.heap.size W { W with drawn := W.drawn + 1 } := (Below.refl _ W).drew
  refine wp_region_any hm ?_
  have H := anyM_sound (P := P) (md := .any) (g := l.toArray.size - n) (A0 := A0) (Q := Q) (W := W) hsel hM hmn hn hd1 hd2
    (fun listed => Region.seqB .any l.toArray (l.toArray.size - n) n listed = true ∧ ((List.range n).all fun i => listed.getD i false) = true)
    (fun bs listed w hw hG hF => by
      have hall : ∀ i ∈ mks.map (·.1), listed.getD i false = true := fun i hi => List.all_eq_true.1 hG.2 i (List.mem_range.2 (hmn i hi))
      rw [conc_full _ _ hall]
      have hf := fin bs w hw (fun x hx => by
        obtain ⟨q1, obj, q2, q3⟩ := hF.at_ x.1 (List.mem_map_of_mem hx) (hall _ (List.mem_map_of_mem hx))
        rw [mkOf_of_mem hnodup hx] at q2
        cases q2
        exact ⟨q1, q3⟩) (fun x hx y hy hne => hF.ne _ (List.mem_map_of_mem hx) _ (List.mem_map_of_mem hy) (hall _ (List.mem_map_of_mem hx)) (hall _ (List.mem_map_of_mem hy)) hne)
      have := wpAny_of_seq (md := .any) (Q' := Q) (l.drop n) n listed _ w (fun j => by simp [List.getElem?_drop]) (by
        rw [show (l.drop n).length = l.toArray.size - n by simp]; exact hG.1) hf
      rwa [show (l.drop n).length = l.toArray.size - n by simp] at this)
    ks.length (fun _ => 0) (Array.replicate l.toArray.size false) a { W with drawn := W.drawn + 1 } inv0 hdr
    ⟨fun i _ hl => (by rw [getD_replicate_false] at hl; cases hl), fun i _ j _ hl => (by rw [getD_replicate_false] at hl; cases hl)⟩
    (fun W' hW' => by
      have := anyM_lex (P := P) (C := cls W') (mk := mkOf mks) (Lq := fun a' => a' = A0) hsel hs hc hn ks _ a inv0 hord (by rw [hq]; exact h W' (hdr.trans hW'))
      exact this)
  have hc0 : conc l.toArray (fun _ => 0) (Array.replicate l.toArray.size false) a (mks.map (·.1)) = a := by
    generalize mks.map (·.1) = ms
    induction ms with
    | nil => rfl
    | cons i ms ih => simp only [conc, List.foldr_cons, getD_replicate_false] at ih ⊢; simpa using ih
  rw [hc0, hlen, show n + (l.toArray.size - n) = l.toArray.size by omega] at H
  exact H

theorem cell_block {w : World} {b o : Nat} {vs : Array Value} {T : TypeId} {fz : Nat × Nat} {v : Value} (h : w.heap[b]? = some (.cells vs T fz)) (hv : vs[o]? = some v) : w.cell? ⟨b, o, none⟩ = some v := by
  unfold World.cell?; simp only [h]; simpa using hv
theorem frozen_block {w : World} {b o : Nat} {vs : Array Value} {T : TypeId} (h : w.heap[b]? = some (.cells vs T (0, 0))) : w.frozen? ⟨b, o, none⟩ = false := by
  unfold World.frozen?; simp only [h]; simp
theorem lt_block {w : World} {b : Nat} {x : Obj} (h : w.heap[b]? = some x) : b < w.heap.size := (Array.getElem?_eq_some_iff.1 h).1
end
end Go.Proofs.YtmgikhldkebjbaaDoor

/-
  What every walk of this program uses: worlds that have grown, cells behind new blocks, calls that return a value and change nothing that was there.
-/
namespace Go.Proofs.YtmgikhldkebjbaaDoor
open Go.RowKit Go.Sort
theorem bcell {W w1 : World} (hb : Below W.heap.size W w1) : (∀ b o, b < W.heap.size → w1.cell? ⟨b, o, none⟩ = W.cell? ⟨b, o, none⟩) ∧ (∀ b o, b < W.heap.size → w1.frozen? ⟨b, o, none⟩ = W.frozen? ⟨b, o, none⟩) ∧ W.heap.size ≤ w1.heap.size :=
  ⟨fun b o h => hb.cell (p := ⟨b, o, none⟩) h, fun b o h => hb.frozen (p := ⟨b, o, none⟩) h, hb.size⟩
theorem chain {B : Nat} {a W w1 : World} (h : Below B a W) (hB : B ≤ W.heap.size) (hb : Below W.heap.size W w1) : Below B a w1 := h.trans (hb.mono hB)
theorem ne_of {X y : Nat} (h : X ≤ y) : (∀ k, k < X → ¬ k = y) ∧ (∀ k, k < X → ¬ y = k) := ⟨fun k hk e => by omega, fun k hk e => by omega⟩
theorem alloc_lt {X : Nat} {w1 : World} (h : X ≤ w1.heap.size) : (∀ O b o, b < X → (w1.alloc O).cell? ⟨b, o, none⟩ = w1.cell? ⟨b, o, none⟩) ∧ (∀ O O' b o, b < X → ((w1.alloc O).alloc O').cell? ⟨b, o, none⟩ = w1.cell? ⟨b, o, none⟩) :=
  ⟨fun O b o hb => World.cell?_of_block (w := w1) (Below.heap_alloc w1 O b (by omega)),
   fun O O' b o hb => (World.cell?_of_block (w := w1.alloc O) (Below.heap_alloc (w1.alloc O) O' b (by rw [World.size_alloc]; omega))).trans (World.cell?_of_block (w := w1) (Below.heap_alloc w1 O b (by omega)))⟩
theorem vld_iff (p m : BitVec 32) : vld p m = true ↔ p.toNat &&& m.toNat = 0 ∧ (p.toNat ||| m.toNat) &&& 4278190080 = 0 := by
  unfold vld
  rw [Bool.and_eq_true, beq_iff_eq, beq_iff_eq, ← BitVec.toNat_inj, ← BitVec.toNat_inj]
  simp
theorem keep_alloc {w1 : World} {X : Obj} {b o : Nat} {v : Value} (h : w1.cell? ⟨b, o, none⟩ = some v) (hb : b < w1.heap.size) : (w1.alloc X).cell? ⟨b, o, none⟩ = some v := by
  rw [World.cell?_alloc_some _ _ _ (by rw [h]; rfl)]; exact h
theorem keep_set {w1 : World} {a : Addr} {u : Value} {b o : Nat} {v : Value} (h : w1.cell? ⟨b, o, none⟩ = some v) (hb : b < a.block) : (w1.setCell a u).cell? ⟨b, o, none⟩ = some v := by
  rw [World.cell?_setCell_far _ _ _ _ (by simp; omega)]; exact h
theorem keep_size {w1 : World} {X : Obj} {n : Nat} (h : n ≤ w1.heap.size) : n ≤ (w1.alloc X).heap.size := by rw [World.size_alloc]; omega
theorem keep_size2 {w1 : World} {a : Addr} {u : Value} {n : Nat} (h : n ≤ w1.heap.size) : n ≤ (w1.setCell a u).heap.size := by rw [World.size_setCell]; exact h
theorem keep_b_alloc {B : Nat} {a w1 : World} {X : Obj} (h : Below B a w1) (hB : B ≤ w1.heap.size) : Below B a (w1.alloc X) := h.alloc hB X
theorem keep_b_set {B : Nat} {a w1 : World} {p : Addr} {u : Value} (h : Below B a w1) (hB : B ≤ p.block) : Below B a (w1.setCell p u) := h.setCell hB u
theorem re_cell {w1 : World} {X Y : Obj} {b o : Nat} {v : Value} (h : (w1.alloc X).cell? ⟨b, o, none⟩ = some v) (hb : b < w1.heap.size) : (w1.alloc Y).cell? ⟨b, o, none⟩ = some v := by
  have e : ∀ Z : Obj, (w1.alloc Z).cell? ⟨b, o, none⟩ = w1.cell? ⟨b, o, none⟩ := fun Z => World.cell?_of_block (w := w1) (Below.heap_alloc w1 Z b hb)
  rw [e] at h ⊢; exact h
theorem re_below {B : Nat} {a w1 : World} {X Y : Obj} (h : Below B a (w1.alloc X)) (hB : B ≤ w1.heap.size) : Below B a (w1.alloc Y) :=
  ⟨h.os, h.tape, h.output, by have := h.size; rw [World.size_alloc] at this ⊢; exact this, fun k hk => by rw [Below.heap_alloc w1 Y k (by omega), ← Below.heap_alloc w1 X k (by omega)]; exact h.block k hk⟩
theorem re_size {w1 : World} {X Y : Obj} {n : Nat} (h : n ≤ (w1.alloc X).heap.size) : n ≤ (w1.alloc Y).heap.size := by rw [World.size_alloc] at *; exact h
theorem keep_alloc_d {w1 : World} {X : Obj} {b o : Nat} {v : Value} (h : w1.drew.cell? ⟨b, o, none⟩ = some v) (hb : b < w1.drew.heap.size) : (w1.alloc X).drew.cell? ⟨b, o, none⟩ = some v := keep_alloc (w1 := w1) h hb
theorem keep_size_d {w1 : World} {X : Obj} {n : Nat} (h : n ≤ w1.drew.heap.size) : n ≤ (w1.alloc X).drew.heap.size := keep_size (w1 := w1) h
theorem undrew {B : Nat} {a w1 : World} (h : Below B a w1.drew) : Below B a w1 := ⟨h.os, h.tape, h.output, h.size, h.block⟩
theorem keep_b_alloc_d {B : Nat} {a w1 : World} {X : Obj} (h : Below B a w1.drew) (hB : B ≤ w1.drew.heap.size) : Below B a (w1.alloc X).drew := ((undrew h).alloc hB X).drew
theorem re_cell_d {w1 : World} {X Y : Obj} {b o : Nat} {v : Value} (h : (w1.alloc X).drew.cell? ⟨b, o, none⟩ = some v) (hb : b < w1.heap.size) : (w1.alloc Y).drew.cell? ⟨b, o, none⟩ = some v := re_cell (w1 := w1) (X := X) h hb
theorem re_below_d {B : Nat} {a w1 : World} {X Y : Obj} (h : Below B a (w1.alloc X).drew) (hB : B ≤ w1.heap.size) : Below B a (w1.alloc Y).drew := (re_below (undrew h) hB).drew
theorem re_size_d {w1 : World} {X Y : Obj} {n : Nat} (h : n ≤ (w1.alloc X).drew.heap.size) : n ≤ (w1.alloc Y).drew.heap.size := re_size (w1 := w1) (X := X) h
theorem wp_gen {P : Program} {c : Code} {Q : Exit → Act → World → Prop} {a : Act} {W : World} (h : ∀ W1, W1 = W → c.wp P Q a W1) : c.wp P Q a W := h W rfl
theorem ret_bool {a b : Bool} (h : a = b) : Ending.returned (.bool a) = .returned (.bool b) := by rw [h]

/-- The call returns v and changes nothing that was there. -/
abbrev Gives (f : Nat) (args : Array Value) (w : World) (v : Value) : Prop := Calls Tryd.prog f args w fun e w' => e = .returned v ∧ Below w.heap.size w w'
theorem Gives.eq {f : Nat} {args args' : Array Value} {w : World} {v v' : Value} (h : Gives f args w v) (ha : args = args') (hv : v = v') : Gives f args' w v' := by subst ha; subst hv; exact h
theorem Gives.then {f : Nat} {args : Array Value} {w : World} {v : Value} {Q : Ending → World → Prop} (h : Gives f args w v) (k : ∀ w1, Below w.heap.size w w1 → Q (.returned v) w1) : Calls Tryd.prog f args w Q := Calls.mono h (by rintro e w1 ⟨rfl, hb⟩; exact k w1 hb)
theorem cell_fresh {W0 w1 : World} {cs : Array Value} {t : Nat} (hc : ∀ b o, b < W0.heap.size + 1 → w1.cell? ⟨b, o, none⟩ = (W0.alloc (.cells cs t)).cell? ⟨b, o, none⟩) (hz : W0.heap.size + 1 ≤ w1.heap.size) : ∃ bx, W0.heap.size = bx ∧ bx < w1.heap.size ∧ ∀ o, w1.cell? ⟨bx, o, none⟩ = (W0.alloc (.cells cs t)).cell? ⟨W0.heap.size, o, none⟩ := ⟨_, rfl, by omega, fun o => hc _ o (by omega)⟩
theorem cell_past {w : World} {X : Obj} {b o : Nat} {v : Value} (hl : b < w.heap.size) (h : w.cell? ⟨b, o, none⟩ = some v) : (w.alloc X).cell? ⟨b, o, none⟩ = some v := (World.cell?_alloc_past X b o hl).trans h
/-- A sound by its two numbers. -/
abbrev sn (p m : Int) : Value := .agg #[.int .u32 p, .int .u32 m]
theorem sv_sn (p m : BitVec 32) : sv p m = sn p.toNat m.toNat := rfl

end Go.Proofs.YtmgikhldkebjbaaDoor

/-
  Maps with texts as keys: look-up and store.
-/
namespace Go.Proofs.YtmgikhldkebjbaaDoor
open Go.RowKit Go.Sort
theorem beq_bytes (a b : ByteArray) : (a == b) = decide (a = b) := by
  rw [Bool.eq_iff_iff, decide_eq_true_iff]
  exact MapKept.bytes_beq a b
/-- A map's block with texts as keys: its entries, in the order in which they came. -/
def SMap (w : World) (b : Nat) (l : List (ByteArray × Value)) : Prop := ∃ es n, w.heap[b]? = some (.map es n) ∧ es.toList.map (fun e => (e.key, e.val)) = l.map fun x => (Value.string x.1, x.2)
theorem SMap.new (w : World) : SMap (w.alloc (.map #[] 0)) w.heap.size [] := ⟨#[], 0, World.alloc_heap_new w _, rfl⟩
theorem SMap.lt {w : World} {b : Nat} {l : List (ByteArray × Value)} (h : SMap w b l) : b < w.heap.size := by
  obtain ⟨es, n, hh, _⟩ := h
  exact (Array.getElem?_eq_some_iff.1 hh).1
theorem SMap.keep {w w' : World} {b : Nat} {l : List (ByteArray × Value)} (h : SMap w b l) (e : w'.heap[b]? = w.heap[b]?) : SMap w' b l := by
  obtain ⟨es, n, hh, hl⟩ := h
  exact ⟨es, n, e.trans hh, hl⟩
theorem SMap.below {w w' : World} {b : Nat} {l : List (ByteArray × Value)} (h : SMap w b l) (hb : Below w.heap.size w w') : SMap w' b l := h.keep (hb.block b h.lt)
/-- The first entry with a key: its place and its value. -/
def fnd (k : ByteArray) : List (ByteArray × Value) → Nat → Option (Nat × Value)
  | [], _ => none
  | x :: l, i => if k = x.1 then some (i, x.2) else fnd k l (i + 1)
theorem findNow_s (k : ByteArray) : ∀ (es : List MapEntry) (l : List (ByteArray × Value)) (i : Nat), es.map (fun e => (e.key, e.val)) = l.map (fun x => (Value.string x.1, x.2)) → Instr.findNow .string (.string k) es i = some (fnd k l i)
  | [], [], _, _ => rfl
  | [], _ :: _, _, h => by simp at h
  | _ :: _, [], _, h => by simp at h
  | e :: es, x :: l, i, h => by
    simp only [List.map_cons, List.cons.injEq, Prod.mk.injEq] at h
    obtain ⟨⟨h1, h2⟩, h3⟩ := h
    have ih := findNow_s k es l (i + 1) h3
    unfold Instr.findNow fnd
    rw [h1, h2]
    simp only [Instr.sameNow, beq_bytes]
    by_cases hk : k = x.1
    · rw [if_pos hk, decide_eq_true hk]
    · rw [if_neg hk, decide_eq_false hk]
      exact ih
theorem run_find_s {P : Program} {K : TypeId} (hK : P.underlying K = some .string) (k : ByteArray) (es : List MapEntry) (l : List (ByteArray × Value)) (h : es.map (fun e => (e.key, e.val)) = l.map (fun x => (Value.string x.1, x.2))) (w : World) :
    (Instr.findKey K (.string k) es).run P w = .ok (fnd k l 0) w := by
  unfold Instr.findKey
  simp only [Sem.run_bind, run_underlying hK, Result.andThen_ok, findNow_s k es l 0 h, Sem.run_pure]
theorem run_check_s {P : Program} {K : TypeId} (hK : P.underlying K = some .string) (e : Bool) (k : ByteArray) (w : World) : (Instr.checkKey e 10000 K (.string k)).run P w = .ok () w := by
  unfold Instr.checkKey
  simp only [Sem.run_bind, run_underlying hK, Result.andThen_ok, Sem.run_pure]
theorem run_lookup_s {P : Program} {T K E : TypeId} (hT : P.underlying T = some (.map K E)) (hK : P.underlying K = some .string) {z : Value} (hz : ∀ w, (zeroValue E).run P w = .ok z w) {w : World} {b : Nat} {l : List (ByteArray × Value)} (h : SMap w b l) (k : ByteArray) :
    (Instr.lookup T (.map (some b)) (.string k) true).run P w = .ok (.tuple #[((fnd k l 0).map (·.2)).getD z, .bool (fnd k l 0).isSome]) w := by
  obtain ⟨es, n, hh, hl⟩ := h
  unfold Instr.lookup
  simp only [Sem.run_bind, run_underlying hT, Result.andThen_ok, Sem.run_pure, MapKept.run_getObj_map hh, run_check_s hK, run_find_s hK k es.toList l hl]
  cases hf : fnd k l 0 with
  | none => simp [Sem.run_bind, hz, Result.andThen_ok, Sem.run_pure]
  | some x => simp [Sem.run_pure]
/-- A store: a key that is there keeps its place. -/
def put (k : ByteArray) (v : Value) : List (ByteArray × Value) → List (ByteArray × Value)
  | [] => [(k, v)]
  | x :: l => if k = x.1 then (k, v) :: l else x :: put k v l
theorem fnd_none {k : ByteArray} {v : Value} : ∀ {l : List (ByteArray × Value)} {i : Nat}, fnd k l i = none → put k v l = l ++ [(k, v)]
  | [], _, _ => rfl
  | x :: l, i, h => by
    unfold fnd at h
    unfold put
    by_cases hk : k = x.1
    · rw [if_pos hk] at h; cases h
    · rw [if_neg hk] at h ⊢
      rw [fnd_none h]; rfl
theorem fnd_some {k : ByteArray} {v u : Value} {p : Nat} : ∀ {l : List (ByteArray × Value)} {i : Nat}, fnd k l i = some (p, u) → i ≤ p ∧ ∃ h : p - i < l.length, l[p - i].1 = k ∧ put k v l = l.set (p - i) (k, v)
  | [], _, h => by cases h
  | x :: l, i, h => by
    unfold fnd at h
    unfold put
    by_cases hk : k = x.1
    · rw [if_pos hk] at h ⊢
      simp only [Option.some.injEq, Prod.mk.injEq] at h
      obtain ⟨rfl, _⟩ := h
      exact ⟨Nat.le_refl _, by simp, by simp [hk], by simp⟩
    · rw [if_neg hk] at h ⊢
      obtain ⟨h1, h2, h3, h4⟩ := fnd_some (v := v) h
      have e : p - i = (p - (i + 1)) + 1 := by omega
      refine ⟨by omega, by rw [e]; simpa using h2, ?_, ?_⟩
      · simp only [e, List.getElem_cons_succ]; exact h3
      · rw [h4, e]; rfl
theorem same_bits (k : ByteArray) : Instr.sameBits 10000 (.string k) (.string k) = true := by
  unfold Instr.sameBits
  rw [beq_bytes, decide_eq_true rfl]
theorem run_update_s {P : Program} {T K E : TypeId} (hT : P.underlying T = some (.map K E)) (hK : P.underlying K = some .string) {w : World} {b : Nat} {l : List (ByteArray × Value)} (h : SMap w b l) (k : ByteArray) (v : Value) :
    ∃ w', (Instr.mapUpdate T (.map (some b)) (.string k) v).run P w = .ok () w' ∧ SMap w' b (put k v l) ∧ w.grownBy w' (some b) := by
  obtain ⟨es, n, hh, hl⟩ := h
  have hlen : es.size = l.length := by have := congrArg List.length hl; simpa using this
  have grow : ∀ o : Obj, w.grownBy { w with heap := w.heap.setIfInBounds b o } (some b) := fun o =>
    ⟨rfl, rfl, rfl, by simp, fun j hj hne => by
      show (w.heap.setIfInBounds b o)[j]? = w.heap[j]?
      rw [Array.getElem?_setIfInBounds_ne (by intro e; exact hne (by rw [e]))]⟩
  have hb := (Array.getElem?_eq_some_iff.1 hh).1
  unfold Instr.mapUpdate
  simp only [Sem.run_bind, run_underlying hT, Result.andThen_ok, MapKept.run_getObj_map hh, run_check_s hK, run_find_s hK k es.toList l hl]
  cases hf : fnd k l 0 with
  | none =>
    refine ⟨_, MapKept.run_setObj_map _ hh, ⟨es.push { key := .string k, val := v, born := n }, n + 1, ?_, ?_⟩, grow _⟩
    · show (w.heap.setIfInBounds b _)[b]? = _
      rw [Array.getElem?_setIfInBounds_self_of_lt hb]
    · rw [fnd_none hf, Array.toList_push, List.map_append, hl, List.map_append]
      rfl
  | some x =>
    obtain ⟨p, u⟩ := x
    obtain ⟨_, h2, h3, h4⟩ := fnd_some (v := v) hf
    simp only [Nat.sub_zero] at h2 h3 h4
    have hp : p < es.size := by omega
    have hkey : es[p].key = .string k := by
      have e := congrArg (fun z => z[p]?) hl
      simp only [List.getElem?_map, Array.getElem?_toList, Array.getElem?_eq_getElem hp, List.getElem?_eq_getElem h2, Option.map_some, Option.some.injEq, Prod.mk.injEq] at e
      rw [e.1, h3]
    have hk : (((es[p]?).map (·.key)).getD (.string k)) = .string k := by rw [Array.getElem?_eq_getElem hp]; exact hkey
    simp only [hk, Instr.keyThatStays, same_bits, if_true, Sem.run_bind, Sem.run_pure, Result.andThen_ok]
    refine ⟨_, MapKept.run_setObj_map _ hh, ⟨es.modify p fun e => { e with key := .string k, val := v }, n, ?_, ?_⟩, grow _⟩
    · show (w.heap.setIfInBounds b _)[b]? = _
      rw [Array.getElem?_setIfInBounds_self_of_lt hb]
    · rw [h4, Array.toList_modify, List.map_set]
      rw [← hl]
      apply List.ext_getElem?
      intro j
      rw [List.getElem?_map, List.getElem?_modify, List.getElem?_set, List.getElem?_map]
      by_cases e : p = j
      · subst e
        simp [hp]
      · simp [e]
end Go.Proofs.YtmgikhldkebjbaaDoor

/-
  Slices of texts; slices.Clone at them; the walk's laws on maps with texts as keys.
-/
namespace Go.Proofs.YtmgikhldkebjbaaDoor
open Go.RowKit Go.Sort
/-- A slice of texts that reads as a list. -/
def Ss (w : World) (v : Value) (l : List ByteArray) : Prop :=
  (v = .slice none 0 0 ∧ l = []) ∨ ∃ b off cap, v = .slice (some ⟨b, off, none⟩) l.length cap ∧ l.length ≤ cap ∧ cap ≤ maxLen ∧ b < w.heap.size ∧ ∀ i (h : i < l.length), w.cell? ⟨b, off + i, none⟩ = some (.string l[i])
theorem Ss.below {w w' : World} {v : Value} {l : List ByteArray} (h : Ss w v l) (hb : Below w.heap.size w w') : Ss w' v l := by
  rcases h with h | ⟨b, off, cap, h1, hc, hm, h2, h3⟩
  · exact .inl h
  · exact .inr ⟨b, off, cap, h1, hc, hm, by have := hb.size; omega, fun i hi => (hb.cell (p := ⟨b, off + i, none⟩) h2).trans (h3 i hi)⟩
theorem Ss.open {w : World} {v : Value} {l : List ByteArray} (h : Ss w v l) : ∃ ao cap, v = .slice ao l.length cap ∧ l.length ≤ cap ∧ cap ≤ maxLen ∧ ∀ i (h : i < l.length), ∃ b off, ao = some ⟨b, off, none⟩ ∧ b < w.heap.size ∧ w.cell? ⟨b, off + i, none⟩ = some (.string l[i]) := by
  rcases h with ⟨rfl, rfl⟩ | ⟨b, off, cap, rfl, hc, hm, h2, h3⟩
  · exact ⟨none, 0, rfl, by simp, by simp, fun i hi => by simp at hi⟩
  · exact ⟨_, cap, rfl, hc, hm, fun i hi => ⟨b, off, rfl, h2, h3 i hi⟩⟩
/-- A row of texts that the call has made. -/
def OwnS (w : World) (base : Nat) (v : Value) (l : List ByteArray) : Prop := w.ownsRow base 9 1 v l.length (l.map Value.string)
theorem OwnS.nil (w : World) (base : Nat) : OwnS w base (.slice none 0 0) [] := ⟨rfl, .inl ⟨rfl, rfl⟩⟩
theorem OwnS.empty (w : World) : OwnS (w.alloc (.cells #[] 9)) w.heap.size (.slice (some ⟨w.heap.size, 0, none⟩) 0 0) [] :=
  ⟨rfl, .inr ⟨w.heap.size, 0, #[], rfl, Nat.le_refl _, World.alloc_heap_new w _, by simp, by simp, by simp, by simp⟩⟩
theorem OwnS.ss {w : World} {base : Nat} {v : Value} {l : List ByteArray} (h : OwnS w base v l) : Ss w v l := by
  obtain ⟨hl, ⟨rfl, h0⟩ | ⟨g, cap, cur, rfl, hg, hh, hn, hm, hs, ht⟩⟩ := h
  · exact .inl ⟨rfl, List.eq_nil_of_length_eq_zero h0⟩
  · refine .inr ⟨g, 0, cap, rfl, hn, hm, (Array.getElem?_eq_some_iff.1 hh).1, fun i hi => ?_⟩
    rw [Nat.zero_add]
    refine cell_block hh ?_
    have key : (l.map Value.string)[i]? = some (.string l[i]) := by rw [List.getElem?_map, List.getElem?_eq_getElem hi]; rfl
    rw [← key, ← ht, List.getElem?_take_of_lt (by omega), Array.getElem?_toList]
theorem infoStr : (Tryd.prog.info? 9).map (fun i => (i.zero, i.size, i.bytes)) = some (some (.string ⟨#[]⟩), 1, 16) := by kernel_rfl
theorem info_parts {P : Program} {e : TypeId} {z : Option Value} {n m : Nat} (h : (P.info? e).map (fun i => (i.zero, i.size, i.bytes)) = some (z, n, m)) : ∃ i, P.info? e = some i ∧ i.zero = z ∧ i.size = n ∧ i.bytes = m := by
  cases hi : P.info? e with
  | none => rw [hi] at h; cases h
  | some i =>
    rw [hi] at h
    simp only [Option.map_some, Option.some.injEq, Prod.mk.injEq] at h
    exact ⟨i, rfl, h.1, h.2.1, h.2.2⟩
theorem addr_addS (b o j : Nat) : (⟨b, o, none⟩ : Addr).add j = ⟨b, o + j, none⟩ := by
  unfold Addr.add
  first | rfl | (split <;> simp_all) | (simp; omega)
theorem wpList_appS {ops : Array Oper} {rest : List Oper} {o : Oper} {a : Act} {w : World} {Q : Exit → Act → World → Prop} (hgd : o.guard = none) (s x : Operand)
    (ho : o.op = .call { callee := .builtin .append, args := #[s, x], argTypes := #[26, 26] })
    (base : Nat) (v u : Value) (xs ys : List ByteArray) (hs : a.eval s = v) (hx : a.eval x = u) (hown : OwnS w base v xs) (hw : Ss w u ys) (hlen : xs.length + ys.length ≤ 1000000000000) (hbase : base ≤ w.heap.size)
    (h : ∀ v' w', OwnS w' base v' (xs ++ ys) → (∀ B a, B ≤ base → Below B a w → Below B a w') → w.heap.size ≤ w'.heap.size → wpList Tryd.prog ops Q rest (a.put o.dst v') w') : wpList Tryd.prog ops Q (o :: rest) a w := by
  obtain ⟨i, hi, hz, hs1, hb1⟩ := info_parts infoStr
  rcases hw with ⟨rfl, rfl⟩ | ⟨b, off, cap, rfl, hc, hm, hb, h3⟩
  · refine wpList_append_own_none hgd s x 26 ho base _ i 1 Tryd.underlying26 hi v xs.length (xs.map Value.string) hs hown hx ?_
    exact h v w (by rw [List.append_nil]; exact hown) (fun _ _ _ hb => hb) (Nat.le_refl _)
  · refine wpList_append_own w hgd s x 26 ho base _ i _ 1 16 Tryd.underlying26 hi hz hs1 hb1 rfl (by decide) v xs.length (xs.map Value.string) hs hown ⟨b, off, none⟩ ys.length cap (ys.map Value.string) hx (by simp) ?_ ?_ (Nat.le_trans hlen (by decide)) (by omega) hbase ?_
    · intro j y hy
      rw [List.getElem?_map, Option.map_eq_some_iff] at hy
      obtain ⟨z, hz, rfl⟩ := hy
      obtain ⟨hj, rfl⟩ := List.getElem?_eq_some_iff.1 hz
      rw [addr_addS, h3 j hj]
    · intro y hy
      obtain ⟨z, _, rfl⟩ := List.mem_map.1 hy
      rfl
    · intro v' w' ho' hg _
      refine h v' w' ?_ (fun B a hB hb => hb.grown hg (by omega) (fun k e => ?_)) hg.size
      · unfold OwnS
        rw [List.map_append, List.length_append]
        exact ho'
      · obtain ⟨_, ⟨rfl, _⟩ | ⟨g, cap, cur, rfl, hgb, _⟩⟩ := hown
        · simp [Value.ownBlock] at e
        · simp only [Value.ownBlock, Option.some.injEq] at e
          omega
set_option maxHeartbeats 1000000 in
theorem cloneS_any (l : List ByteArray) (v : Value) (w : World) (hl : l.length ≤ 1000000) (h : Ss w v l) : Calls Tryd.prog 10 #[v] w fun e w' => ∃ v', e = .returned v' ∧ OwnS w' w.heap.size v' l ∧ Below w.heap.size w w' := by
  have hnil := fun (w : World) (ao : Option Addr) (n c : Nat) => Lib.run_eql_slice_nil (P := Tryd.prog) w 26 9 ao n c 0 0 Tryd.underlying26
  have h' := h
  rcases h with ⟨rfl, rfl⟩ | ⟨b, off, cap, rfl, hx⟩
  · go_enter Tryd.func10, Tryd.ntmps10
    go_wp2
    go_returns
    exact ⟨_, rfl, OwnS.nil _ _, by go_grown⟩
  · have HW := Lib.hid h'; clear h' hx
    have HL := Lib.hid hl; clear hl
    have ho1 := OwnS.empty w
    go_enter Tryd.func10, Tryd.ntmps10
    go_wp2_with (at_builtin; refine wpList_appS rfl (.tmp 5) (.tmp 6) rfl w.heap.size _ _ [] l rfl rfl ho1 (HW.out.below ((Below.refl _ w).alloc (Nat.le_refl _) _)) (by have := HL.out; simp; omega) (by go_size) ?_; intro v' w2 ho2 hk2 hz2)
    go_returns
    exact ⟨_, rfl, ho2, hk2 _ _ (Nat.le_refl _) (by go_grown)⟩
/-- A store in a map with texts as keys. -/
theorem wpList_update_s {P : Program} {ops : Array Oper} {rest : List Oper} {o : Oper} {a : Act} {w : World} {Q : Exit → Act → World → Prop} (hg : o.guard = none) (m x v : Operand) (t : TypeId) (hop : o.op = Op.mapUpdate t m x v) {K E : TypeId} (hT : P.underlying t = some (.map K E)) (hK : P.underlying K = some .string)
    (b : Nat) (l : List (ByteArray × Value)) (k : ByteArray) (val : Value) (hm : a.eval m = .map (some b)) (hx : a.eval x = .string k) (hv : a.eval v = val) (h : SMap w b l)
    (hk : ∀ w', SMap w' b (put k val l) → w.grownBy w' (some b) → wpList P ops Q rest (a.put o.dst undef) w') : wpList P ops Q (o :: rest) a w := by
  refine wpList_plain hg fun K' hK' => ?_
  obtain ⟨w', hrun, r1, r2⟩ := run_update_s hT hK h k val
  unfold Oper.wp
  simp [execOp, hop, hm, hx, hv, hrun, Result.andThen]
  exact hK' _ _ (hk w' r1 r2)
theorem wpList_len_s {P : Program} {ops : Array Oper} {rest : List Oper} {o : Oper} {a : Act} {w : World} {Q : Exit → Act → World → Prop} (hg : o.guard = none) (m : Operand) (t : TypeId) (hop : o.op = Op.call { callee := Callee.builtin Builtin.len, args := #[m], argTypes := #[t] }) {K E : TypeId} (hT : P.underlying t = some (.map K E))
    (b : Nat) (l : List (ByteArray × Value)) (hm : a.eval m = .map (some b)) (h : SMap w b l) (hk : wpList P ops Q rest (a.put o.dst (.int .i64 (l.length : Int))) w) : wpList P ops Q (o :: rest) a w := by
  refine wpList_plain hg fun K' hK' => ?_
  obtain ⟨es, n, hh, hl⟩ := h
  have hlen : es.size = l.length := by have := congrArg List.length hl; simpa using this
  have hrun : (Builtin.len_ #[t] o.type #[.map (some b)]).run P w = .ok (.int .i64 (l.length : Int)) w := by
    rw [← hlen]
    simp [Builtin.len_, run_underlying hT, MapKept.run_getObj_map hh, goInt, Result.andThen]
  unfold Oper.wp
  simp [execOp, hop, resolve, invoke, builtin, hm, hrun, Result.andThen]
  exact hK' _ _ hk
end Go.Proofs.YtmgikhldkebjbaaDoor

/-
  Names of features, and symbols: which texts they are.
-/
namespace Go.Proofs.YtmgikhldkebjbaaDoor
open Go.RowKit Go.Sort
/-- Whether a byte is one of a text. -/
def isIn (s : ByteArray) (c : UInt8) : Bool := decide (0 ≤ Lib.indexByte s.data.toList c)
set_option maxRecDepth 100000 in
set_option maxHeartbeats 1000000 in
theorem idx_any (s : ByteArray) (c : UInt8) (w : World) : Gives 45 #[.string s, .int .u8 c.toNat] w (.int .i64 (Lib.indexByte s.data.toList c)) := by
  unfold Gives
  have hc : ((c.toNat : Int).toNat.toUInt8) = c := by simp
  go_enter Tryd.func45, Tryd.ntmps45
  go_wp2_with go_in
  rw [run_callFunc_extern Tryd.func51 (by kernel_rfl) (by kernel_rfl) (by kernel_rfl) (e := Extern.BytealgIndexByte.indexByte) (by kernel_rfl), Lib.run_indexByteString, hc]
  simp only [Result.andThen]
  rw [Oper.upon_value]
  go_wp2
  go_returns
  exact ⟨rfl, Below.refl _ _⟩
theorem may_any (s : ByteArray) (c : UInt8) (B : Nat) (w : World) (hB : w.cell? ⟨B, 0, none⟩ = some (.string s)) : Gives 44 #[.int .u8 c.toNat, .pointer (some ⟨B, 0, none⟩)] w (.bool (isIn s c)) := by
  unfold Gives isIn
  generalize hx : Lib.indexByte s.data.toList c = x
  have hI := fun W => Gives.eq (idx_any s c W) rfl (by rw [hx])
  have HI := Lib.hid hI
  clear hI hx
  have hw := Below.refl w.heap.size w
  by_cases h : 0 ≤ x
  · have e : decide (0 ≤ x) = true := decide_eq_true h
    go_enter Tryd.func44, Tryd.ntmps44
    go_wp2_with (go_at_call 45; (with_reducible refine Gives.then (HI.out _) ?_); intro w1 hb; have hw := hw.trans (hb.mono hw.size); clear hb)
    go_returns
    exact ⟨by simp [h], hw⟩
  · have e : decide (0 ≤ x) = false := decide_eq_false h
    go_enter Tryd.func44, Tryd.ntmps44
    go_wp2_with (go_at_call 45; (with_reducible refine Gives.then (HI.out _) ?_); intro w1 hb; have hw := hw.trans (hb.mono hw.size); clear hb)
    go_returns
    exact ⟨by simp [h], hw⟩
theorem among_any (s : ByteArray) (w : World) : Calls Tryd.prog 36 #[.string s] w fun e w' => e = .returned (.func (.func 44) #[] #[.pointer (some ⟨w.heap.size, 0, none⟩)]) ∧ w.alloc (.cells #[.string s] 9) = w' := by
  go_enter Tryd.func36, Tryd.ntmps36
  go_wp2
  go_returns
  exact ⟨rfl, rfl⟩
/-- Whether a text has at least one byte, and at most so many, all of which are in another. -/
def cons (t : ByteArray) (most : Nat) (s : ByteArray) : Bool := decide (0 < t.size) && decide (t.size ≤ most) && t.data.toList.all (isIn s)
end Go.Proofs.YtmgikhldkebjbaaDoor

/-
  Names of features, and symbols: which texts they are (consists, isFeatName, isSymbol).
-/
namespace Go.Proofs.YtmgikhldkebjbaaDoor
open Go.RowKit Go.Sort
theorem bytes_empty {t : ByteArray} (h : t.size = 0) : t = ⟨#[]⟩ := by
  cases t with
  | mk d =>
    congr
    exact Array.eq_empty_of_size_eq_zero h
theorem cons_long {t s : ByteArray} {most : Nat} (h : ¬ t.size ≤ most) : cons t most s = false := by simp [cons, h]
theorem cons_none {t s : ByteArray} {most : Nat} (h : t.size = 0) : cons t most s = false := by simp [cons, h]
theorem all_take {p : UInt8 → Bool} {L : List UInt8} {k : Nat} (hk : k < L.length) (h : (L.take k).all p = true) (hc : p L[k] = true) : (L.take (k + 1)).all p = true := by
  rw [List.take_succ_eq_append_getElem hk, List.all_append, h]; simp [hc]
set_option maxRecDepth 100000 in
set_option maxHeartbeats 4000000 in
theorem consists_any (t s : ByteArray) (most B : Nat) (ht : t.size ≤ 9223372036854775807) (hmost : most ≤ 1000) (w : World) (hB : w.cell? ⟨B, 0, none⟩ = some (.string s)) (lb : B < w.heap.size) : Gives 35 #[.string t, .int .i64 (most : Int), .func (.func 44) #[] #[.pointer (some ⟨B, 0, none⟩)]] w (.bool (cons t most s)) := by
  unfold Gives
  by_cases h0 : t.size = 0
  · rw [cons_none h0]
    have e0 : t.toList.isEmpty = true := by rw [Lib.toList_data, bytes_empty h0]; rfl
    clear h0
    go_enter Tryd.func35, Tryd.ntmps35
    go_wp2_with fail
    go_returns
    exact ⟨rfl, Below.refl _ _⟩
  · have e0 : t.toList.isEmpty = false := by
      rw [Lib.toList_data, List.isEmpty_eq_false_iff]
      intro e
      refine h0 ?_
      have h2 : t.data.toList.length = 0 := by rw [e]; rfl
      rw [Array.length_toList] at h2
      exact h2
    by_cases h1 : t.size ≤ most
    · generalize hC : cons t most s = C
      have hno : ∀ k (hk : k < t.data.toList.length), (isIn s (t.data.toList[k])) = false → false = C := fun k hk h => by
        rw [← hC, cons]
        symm
        rw [Bool.and_eq_false_iff]
        refine .inr ?_
        rw [List.all_eq_false]
        exact ⟨_, List.getElem_mem hk, by rw [h]; decide⟩
      have hyes : (t.data.toList).all (isIn s) = true → true = C := fun h => by
        rw [← hC, cons, h, decide_eq_true (by omega : 0 < t.size), decide_eq_true h1]; rfl
      have HNO := Lib.hid hno; have HYES := Lib.hid hyes
      have hL : t.data.toList.length = t.size := by rw [Array.length_toList]; rfl
      have e1 : decide (most < t.size) = false := decide_eq_false (by omega)
      have HL := Lib.hid hL
      clear hC hno hyes hL
      go_enter Tryd.func35, Tryd.ntmps35
      go_wp2_with fail
      go_loopw [18] (fun i wr => ∃ k : Nat, k ≤ t.size ∧ i = .int .i64 (k : Int) ∧ ((t.data.toList).take k).all (isIn s) = true ∧ Below w.heap.size w wr) (fun i _ => t.size - (intOf i).toNat)
      case atStart => exact ⟨0, by omega, rfl, by simp, Below.refl _ _⟩
      case round =>
        obtain ⟨k, hk, rfl, hall, hw⟩ := hrel
        have HALL := Lib.hid hall
        clear hall
        by_cases hlt : k < t.size
        · have hkl : k < t.data.toList.length := by rw [HL.out]; exact hlt
          obtain ⟨c, hc⟩ : ∃ c, t.data.toList[k] = c := ⟨_, rfl⟩
          have hb : ∀ h, t[k]'h = c := by intro h; exact hc
          have hB1 := (hw.cell (p := ⟨B, 0, none⟩) lb).trans hB
          have hm := may_any s c B wr hB1
          have HC := Lib.hid hc
          clear hc
          rcases hx : isIn s c with _ | _
          · have HN := Lib.hid (HNO.out k hkl (by rw [HC.out]; exact hx))
            rw [hx] at hm
            have HM := Lib.hid hm
            clear hm hx HC hkl
            go_wp2_with (go_at_call 44; (with_reducible refine Gives.then HM.out ?_); intro w1 hb1; have hw := hw.trans (hb1.mono hw.size); clear hb1)
            go_returns
            exact ⟨by rw [← HN.out]; rfl, hw⟩
          · have HN := Lib.hid (all_take hkl HALL.out (by rw [HC.out]; exact hx))
            rw [hx] at hm
            have HM := Lib.hid hm
            clear hm hx HC hkl
            go_wp2_with (go_at_call 44; (with_reducible refine Gives.then HM.out ?_); intro w1 hb1; have hw := hw.trans (hb1.mono hw.size); clear hb1)
            go_roundw
            case rel => exact ⟨k + 1, by omega, by go_num, HN.out, hw⟩
            case measure => simp [intOf]; omega
        · obtain rfl : k = t.size := by omega
          have HN := Lib.hid (HYES.out (by have := HALL.out; rwa [List.take_of_length_le (by rw [HL.out]; exact Nat.le_refl _)] at this))
          go_wp2_with fail
          go_returns
          exact ⟨by rw [← HN.out]; rfl, hw⟩
    · rw [cons_long h1]
      have e1 : decide (most < t.size) = true := decide_eq_true (by omega)
      go_enter Tryd.func35, Tryd.ntmps35
      go_wp2_with fail
      go_returns
      exact ⟨rfl, Below.refl _ _⟩
def sSmall : ByteArray := ⟨#[97, 98, 99, 100, 101, 102, 103, 104, 105, 106, 107, 108, 109, 110, 111, 112, 113, 114, 115, 116, 117, 118, 119, 120, 121, 122]⟩
def sSmallDigits : ByteArray := ⟨#[97, 98, 99, 100, 101, 102, 103, 104, 105, 106, 107, 108, 109, 110, 111, 112, 113, 114, 115, 116, 117, 118, 119, 120, 121, 122, 48, 49, 50, 51, 52, 53, 54, 55, 56, 57]⟩
def sAll : ByteArray := ⟨#[97, 98, 99, 100, 101, 102, 103, 104, 105, 106, 107, 108, 109, 110, 111, 112, 113, 114, 115, 116, 117, 118, 119, 120, 121, 122, 65, 66, 67, 68, 69, 70, 71, 72, 73, 74, 75, 76, 77, 78, 79, 80, 81, 82, 83, 84, 85, 86, 87, 88, 89, 90, 48, 49, 50, 51, 52, 53, 54, 55, 56, 57, 64, 63, 33, 38, 42, 36, 37]⟩
/-- Which texts are symbols. -/
def isSym (t : ByteArray) : Bool := cons t 4 sAll
set_option maxRecDepth 100000 in
set_option maxHeartbeats 4000000 in
theorem isSymbol_any (t : ByteArray) (ht : t.size ≤ 9223372036854775807) (w : World) : Gives 29 #[.string t] w (.bool (isSym t)) := by
  unfold Gives
  have hA := among_any sAll w
  have hC := consists_any t sAll 4 w.heap.size ht (by decide) (w.alloc (.cells #[.string sAll] 9)) (cell_block (World.alloc_heap_new w _) rfl) (by rw [World.size_alloc]; omega)
  unfold isSym
  generalize cons t 4 sAll = C at *
  have HA := Lib.hid hA; have HC := Lib.hid hC
  clear hA hC
  have hw : Below w.heap.size w (w.alloc (.cells #[.string sAll] 9)) := (Below.refl _ w).alloc (Nat.le_refl _) _
  have HW := Lib.hid hw
  clear hw
  go_enter Tryd.func29, Tryd.ntmps29
  go_wp2_with fail
  go_at_call 36
  refine HA.out.mono ?_
  rintro e w1 ⟨rfl, rfl⟩
  go_wp2_with fail
  go_at_call 35
  refine Gives.then HC.out ?_
  intro w2 hb
  have hw := HW.out.trans (hb.mono HW.out.size)
  clear hb
  go_wp2_with fail
  go_returns
  exact ⟨rfl, hw⟩
end Go.Proofs.YtmgikhldkebjbaaDoor

/-
  Names of features.
-/
namespace Go.Proofs.YtmgikhldkebjbaaDoor
open Go.RowKit Go.Sort
/-- Which texts are names of features. -/
def isFeat (t : ByteArray) : Bool := cons t 16 sSmallDigits && isIn sSmall (t.data.toList.getD 0 0)
theorem cons_pos {t s : ByteArray} {m : Nat} (h : cons t m s = true) : 0 < t.size := by
  unfold cons at h
  simp only [Bool.and_eq_true, decide_eq_true_eq] at h
  exact h.1.1
theorem chB {w W w1 : World} (h : Below w.heap.size w W) (hb : Below W.heap.size W w1) : Below w.heap.size w w1 := h.trans (hb.mono h.size)
set_option maxRecDepth 100000 in
set_option maxHeartbeats 8000000 in
theorem isFeatName_any (t : ByteArray) (ht : t.size ≤ 9223372036854775807) (w : World) : Gives 25 #[.string t] w (.bool (isFeat t)) := by
  unfold Gives
  have HT := Lib.hid ht
  rcases hc : cons t 16 sSmallDigits with _ | _
  · have hR : isFeat t = false := by rw [isFeat, hc]; rfl
    rw [hR]
    have HC := Lib.hid hc
    clear hc hR ht
    go_enter Tryd.func25, Tryd.ntmps25
    go_wp2_with fail
    first
      | (go_region_law (first
          | (go_simp; go_at_call 36; refine (among_any sSmallDigits _).mono ?_; rintro e w1 ⟨rfl, rfl⟩)
          | (go_simp; go_at_call 36; refine (among_any sSmall _).mono ?_; rintro e w2 ⟨rfl, rfl⟩; have hB2 := hB1.alloc hB1.size (.cells #[.string sSmall] 9))
          | (go_simp; go_at_call 35; refine Gives.then (Gives.eq (consists_any t sSmallDigits 16 w.heap.size HT.out (by decide) _ (cell_block (World.alloc_heap_new w _) rfl) (by show w.heap.size < (w.alloc _).heap.size; rw [World.size_alloc]; exact Nat.lt_succ_self _)) rfl (by rw [HC.out])) ?_; intro w1 hb; have hB1 : Below w.heap.size w w1 := chB (by go_grown) hb)))
      | fail
    all_goals (
      try go_wp2
      go_returns
      exact ⟨rfl, hB1⟩)
  · have h0 := cons_pos hc
    have hl : 0 < t.data.toList.length := by rw [Array.length_toList]; exact h0
    obtain ⟨c, hcc⟩ : ∃ c, t.data.toList[0] = c := ⟨_, rfl⟩
    have hb : ∀ h, t[0]'h = c := by intro h; exact hcc
    have hh : t.data.toList.getD 0 0 = c := by
      rw [List.getD_eq_getElem?_getD, List.getElem?_eq_getElem hl, hcc]; rfl
    have hR : isFeat t = isIn sSmall c := by rw [isFeat, hc, hh]; rfl
    rw [hR]
    have HC := Lib.hid hc
    clear hc hR ht hcc hh hl
    rcases hx : isIn sSmall c with _ | _
    all_goals (
      have HX := Lib.hid hx
      clear hx
      go_enter Tryd.func25, Tryd.ntmps25
      go_wp2_with fail
      go_region_held3 (fun w' => Below w.heap.size w w' ∧ w.heap.size ≤ w'.heap.size)
        (((try go_split_ands); first | exact ⟨hB1, hB1.size⟩ | exact ⟨hB2, hB2.size⟩ | (refine ⟨?_, ?_⟩ <;> first | assumption | (go_grown; done) | go_size)))
        (first
          | (go_at_call 36; refine (among_any sSmallDigits _).mono ?_; rintro e w1 ⟨rfl, rfl⟩)
          | (go_at_call 36; refine (among_any sSmall _).mono ?_; rintro e w2 ⟨rfl, rfl⟩; have hB2 := hB1.alloc hB1.size (.cells #[.string sSmall] 9))
          | (go_at_call 35; refine Gives.then (Gives.eq (consists_any t sSmallDigits 16 w.heap.size HT.out (by decide) _ (cell_block (World.alloc_heap_new w _) rfl) (by show w.heap.size < (w.alloc _).heap.size; rw [World.size_alloc]; exact Nat.lt_succ_self _)) rfl (by rw [HC.out])) ?_; intro w1 hb; have hB1 : Below w.heap.size w w1 := chB (by first | assumption | (go_grown; done)) hb)
          | (go_at_call 44; refine Gives.then (Gives.eq (may_any sSmall c w1.heap.size _ (cell_block (World.alloc_heap_new w1 _) rfl)) rfl (by rw [HX.out])) ?_; intro w3 hb; have hB1 : Below w.heap.size w w3 := chB hB2 hb))
      all_goals (
        try go_wp2
        go_returns
        exact ⟨rfl, hB1⟩))
end Go.Proofs.YtmgikhldkebjbaaDoor

/-
  New: the inventory, or the error.
-/
namespace Go.Proofs.YtmgikhldkebjbaaDoor
open Go.RowKit Go.Sort
/-- The numbers of the first k names. -/
def numT (l : List ByteArray) : Nat → List (ByteArray × Value)
  | 0 => []
  | k + 1 => if h : k < l.length then put l[k] (.int .i64 (k : Int)) (numT l k) else numT l k
theorem numT_succ {l : List ByteArray} {k : Nat} (h : k < l.length) : numT l (k + 1) = put l[k] (.int .i64 (k : Int)) (numT l k) := by simp [numT, h]
/-- The error of New. -/
def newE (l : List ByteArray) : Int := if 24 < l.length then 12 else if l.all isFeat then (if (numT l l.length).length < l.length then 6 else 0) else 15
/-- An inventory to which nothing was added. -/
def InvNew (w : World) (base B : Nat) (l : List ByteArray) : Prop := ∃ nv bf bs by_, w.heap[B]? = some (.cells #[.pointer (some ⟨B, 0, none⟩), nv, .map (some bf), .slice none 0 0, .map (some bs), .map (some by_)] 50 (0, 0)) ∧
  OwnS w base nv l ∧ SMap w bf (numT l l.length) ∧ SMap w bs [] ∧ w.heap[by_]? = some (.map #[] 0) ∧ base ≤ bf ∧ base ≤ bs ∧ base ≤ by_ ∧ base ≤ B ∧ bf ≠ bs ∧ bs ≠ by_ ∧ bf ≠ by_
theorem OwnS.below {w w' : World} {base : Nat} {v : Value} {l : List ByteArray} (h : OwnS w base v l) (hb : Below w.heap.size w w') : OwnS w' base v l := by
  obtain ⟨hl, h0 | ⟨g, cap, cur, hv, hg, hh, hr⟩⟩ := h
  · exact ⟨hl, .inl h0⟩
  · exact ⟨hl, .inr ⟨g, cap, cur, hv, hg, (hb.block g (Array.getElem?_eq_some_iff.1 hh).1).trans hh, hr⟩⟩
theorem OwnS.mono {w : World} {base base' : Nat} {v : Value} {l : List ByteArray} (h : OwnS w base v l) (hb : base' ≤ base) : OwnS w base' v l := by
  obtain ⟨hl, h0 | ⟨g, cap, cur, hv, hg, hh, hr⟩⟩ := h
  · exact ⟨hl, .inl h0⟩
  · exact ⟨hl, .inr ⟨g, cap, cur, hv, by omega, hh, hr⟩⟩
theorem inv_made {w2 : World} {base bm : Nat} {v : Value} {l : List ByteArray} (ho : OwnS w2 base v l) (hs : SMap w2 bm (numT l l.length)) (h1 : base ≤ bm) (h2 : base ≤ w2.heap.size) :
    InvNew (((w2.alloc (.map #[] 0)).alloc (.map #[] 0)).alloc (.cells #[.pointer (some ⟨w2.heap.size + 1 + 1, 0, none⟩), v, .map (some bm), .slice none 0 0, .map (some w2.heap.size), .map (some (w2.heap.size + 1))] 50)) base (w2.heap.size + 1 + 1) l := by
  have hb : Below w2.heap.size w2 (((w2.alloc (.map #[] 0)).alloc (.map #[] 0)).alloc (.cells #[.pointer (some ⟨w2.heap.size + 1 + 1, 0, none⟩), v, .map (some bm), .slice none 0 0, .map (some w2.heap.size), .map (some (w2.heap.size + 1))] 50)) := by
    have h := Below.refl w2.heap.size w2
    have h := h.alloc h.size (.map #[] 0)
    have h := h.alloc h.size (.map #[] 0)
    exact h.alloc h.size _
  have hlt := hs.lt
  refine ⟨v, bm, w2.heap.size, w2.heap.size + 1, ?_, ho.below hb, hs.below hb, ?_, ?_, h1, h2, by omega, by omega, by omega, by omega, by omega⟩
  · have := World.alloc_heap_new ((w2.alloc (.map #[] 0)).alloc (.map #[] 0)) (.cells #[.pointer (some ⟨w2.heap.size + 1 + 1, 0, none⟩), v, .map (some bm), .slice none 0 0, .map (some w2.heap.size), .map (some (w2.heap.size + 1))] 50)
    simp only [World.size_alloc] at this
    exact this
  · exact ((SMap.new w2).below ((Below.refl _ _).alloc (Nat.le_refl _) _)).below ((Below.refl _ _).alloc (Nat.le_refl _) _)
  · have e := World.alloc_heap_new (w2.alloc (.map #[] 0)) (.map #[] 0)
    rw [World.size_alloc] at e
    exact (Below.heap_alloc _ _ _ (by simp only [World.size_alloc]; omega)).trans e
theorem made_any (n f a s y : Value) (w : World) : Calls Tryd.prog 26 #[.agg #[.pointer none, n, f, a, s, y]] w fun e w' => e = .returned (.pointer (some ⟨w.heap.size, 0, none⟩)) ∧ w.alloc (.cells #[.pointer (some ⟨w.heap.size, 0, none⟩), n, f, a, s, y] 50) = w' := by
  go_enter Tryd.func26, Tryd.ntmps26
  go_wp2
  go_returns
  exact ⟨rfl, rfl⟩
theorem all_upto {l : List ByteArray} {p : ByteArray → Bool} (h : ∀ j (hj : j < l.length), j < l.length → p l[j] = true) : l.all p = true := List.all_eq_true.2 fun x hx => by
  obtain ⟨i, hi, rfl⟩ := List.mem_iff_getElem.1 hx
  exact h i hi hi
theorem all_no {l : List ByteArray} {p : ByteArray → Bool} {k : Nat} (hk : k < l.length) (h : p l[k] = false) : l.all p = false := List.all_eq_false.2 ⟨_, List.getElem_mem hk, by simp [h]⟩
set_option maxRecDepth 100000 in
set_option maxHeartbeats 8000000 in
theorem new_any (l : List ByteArray) (v : Value) (w : World) (hx : ∀ x ∈ l, x.size ≤ 9223372036854775807) (h : Ss w v l) : Calls Tryd.prog 13 #[v] w fun e w' => Below w.heap.size w w' ∧ ((newE l ≠ 0 ∧ e = .returned (.tuple #[.pointer none, .int .i64 (newE l)])) ∨ (newE l = 0 ∧ ∃ B, e = .returned (.tuple #[.pointer (some ⟨B, 0, none⟩), .int .i64 0]) ∧ InvNew w' w.heap.size B l)) := by
  have hmm := @run_makeMap Tryd.prog
  have DL := Lib.hid h
  obtain ⟨ao, cap, rfl, c1, m1, H1⟩ := h.open
  have HX := Lib.hid hx
  clear h hx
  have H1 := Lib.hid H1
  have l1 : l.length ≤ 9223372036854775807 := Nat.le_trans c1 m1
  clear c1 m1
  obtain ⟨n, hn⟩ : ∃ n, l.length = n := ⟨_, rfl⟩
  have HN := Lib.hid hn
  have DL : Hid (Ss w (.slice ao n cap) l) := Lib.hid (by rw [← hn]; exact DL.out)
  have hE : newE l = if 24 < n then 12 else if l.all isFeat then (if (numT l n).length < n then 6 else 0) else 15 := by rw [newE, hn]
  rw [hn] at l1 ⊢
  generalize hEE : newE l = E at *
  have HE := Lib.hid hE
  clear hn hE hEE
  by_cases h24 : n ≤ 24
  · go_enter Tryd.func13, Tryd.ntmps13
    go_wp2_with fail
    go_loopw [13] (fun i wr => ∃ k : Nat, k ≤ n ∧ i = .int .i64 (k : Int) ∧ (∀ j (hj : j < l.length), j < k → isFeat l[j] = true) ∧ SMap wr w.heap.size (numT l k) ∧ Below w.heap.size w wr) (fun i _ => n - (intOf i).toNat)
    case atStart => exact ⟨0, by omega, rfl, fun j _ hj => by omega, SMap.new w, (Below.refl _ w).alloc (Nat.le_refl _) _⟩
    case round =>
      obtain ⟨k, hk, rfl, hall, hs, hw⟩ := hrel
      have HALL := Lib.hid hall; have HS := Lib.hid hs
      have hsz := hs.lt
      clear hall hs
      by_cases hlt : k < n
      · have hkl : k < l.length := by rw [HN.out]; exact hlt
        obtain ⟨b, off, rfl, lb, d0⟩ := H1.out k hkl
        have d0 := (hw.cell (p := ⟨b, off + k, none⟩) lb).trans d0
        have hF := isFeatName_any l[k] (HX.out _ (List.getElem_mem hkl)) wr
        have hT := numT_succ hkl
        have hmore : isFeat l[k] = true → ∀ j (hj : j < l.length), j < k + 1 → isFeat l[j] = true := fun h j hj hjk => by
          by_cases e : j = k
          · subst e; exact h
          · exact HALL.out j hj (by omega)
        have hno := fun h => all_no (p := isFeat) hkl h
        have HT := Lib.hid hT; have HM := Lib.hid hmore; have HNO := Lib.hid hno
        clear hT hmore hno H1
        generalize l[k] = x at *
        rcases hf : isFeat x with _ | _
        · rw [hf] at hF
          have HF := Lib.hid hF
          have he := HE.out
          rw [if_neg (by omega), HNO.out hf] at he
          have HE15 := Lib.hid (show E = 15 from he)
          clear hF hf he HM HNO
          go_wp2_with (go_at_call 25; (with_reducible refine Gives.then HF.out ?_); intro w1 hb; have hw := hw.trans (hb.mono hw.size); clear hb)
          go_ret2
          exact ⟨hw, .inl ⟨by rw [HE15.out]; decide, by rw [HE15.out]; rfl⟩⟩
        · rw [hf] at hF
          have HF := Lib.hid hF
          have HM := Lib.hid (HM.out hf)
          clear hF hf HNO
          go_wp2_with (first
            | (go_at_call 25; (with_reducible refine Gives.then HF.out ?_); intro w1 hb; have hw := hw.trans (hb.mono hw.size); have HS := Lib.hid (HS.out.below hb); clear hb)
            | (at_mapUpdate; refine wpList_update_s rfl (.tmp 21) (.tmp 22) (.tmp 23) 45 rfl Tryd.underlying45 Tryd.underlying9 w.heap.size (numT l k) x (.int .i64 (k : Int)) rfl rfl rfl HS.out ?_; intro w2 hs2 hg2; have HS2 := Lib.hid hs2; have HW2 := Lib.hid (hw.grown hg2 hw.size (fun j e => by cases e; exact Nat.le_refl _)); clear hs2 hg2))
          go_roundw
          case rel => exact ⟨k + 1, by omega, by go_num, HM.out, by rw [HT.out]; exact HS2.out, HW2.out⟩
          case measure => simp [intOf]; omega
      · obtain rfl : k = n := by omega
        have hA : l.all isFeat = true := all_upto fun j hj hj2 => HALL.out j hj (by rw [← HN.out]; exact hj)
        have he := HE.out
        rw [if_neg (by omega), if_pos hA] at he
        by_cases hd : (numT l k).length < k
        · rw [if_pos hd] at he
          have HE6 := Lib.hid he
          have e1 : decide (((numT l k).length : Int) < (k : Int)) = true := decide_eq_true (by omega)
          have e2 : decide ((numT l k).length < k) = true := decide_eq_true hd
          clear he H1 HALL hA
          go_wp2_with (at_len; refine wpList_len_s rfl (.tmp 25) 45 rfl Tryd.underlying45 w.heap.size (numT l k) rfl HS.out ?_)
          go_ret2
          exact ⟨hw, .inl ⟨by rw [HE6.out]; decide, by rw [HE6.out]; rfl⟩⟩
        · rw [if_neg hd] at he
          have HE0 := Lib.hid he
          have e1 : decide (((numT l k).length : Int) < (k : Int)) = false := decide_eq_false (by omega)
          have e2 : decide ((numT l k).length < k) = false := decide_eq_false hd
          have hcl := cloneS_any l _ wr (by rw [HN.out]; omega) (DL.out.below hw)
          have HCL := Lib.hid hcl
          have hw' := Lib.hid hw
          have hsz' := hw.size
          clear he H1 HALL hA hcl hw
          go_wp2_with (at_len; refine wpList_len_s rfl (.tmp 25) 45 rfl Tryd.underlying45 w.heap.size (numT l k) rfl HS.out ?_)
          go_at_call 10
          refine HCL.out.mono ?_
          rintro e w2 ⟨v2, rfl, ho2, hb2⟩
          have hw2 := hw'.out.trans (hb2.mono hsz')
          have HS2 := Lib.hid (HS.out.below hb2)
          have HO2 := Lib.hid (ho2.mono hsz')
          obtain ⟨a2, c2, rfl, -, -, -⟩ := ho2.ss.open
          have HW2 := Lib.hid hw2
          clear ho2 hb2 hw2
          go_wp2_with fail
          go_at_call 26
          refine (made_any _ _ _ _ _ _).mono ?_
          rintro e w3 ⟨rfl, rfl⟩
          go_wp2_with fail
          go_ret2
          have hB := (((HW2.out.alloc HW2.out.size (.map #[] 0)).alloc (HW2.out.alloc HW2.out.size (.map #[] 0)).size (.map #[] 0)))
          refine ⟨hB.alloc hB.size _, .inr ⟨HE0.out, w2.heap.size + 1 + 1, ?_, ?_⟩⟩
          · rfl
          · have hs3 := HS2.out
            rw [← HN.out] at hs3
            exact inv_made HO2.out hs3 (Nat.le_refl _) HW2.out.size
  · have he := HE.out
    rw [if_pos (by omega)] at he
    have HE12 := Lib.hid he
    clear he
    have hw := Below.refl w.heap.size w
    go_enter Tryd.func13, Tryd.ntmps13
    go_wp2_with fail
    go_ret2
    exact ⟨hw, .inl ⟨by rw [HE12.out]; decide, by rw [HE12.out]; rfl⟩⟩
end Go.Proofs.YtmgikhldkebjbaaDoor

/-
  Maps with sounds as keys: look-up and store.
-/
namespace Go.Proofs.YtmgikhldkebjbaaDoor
open Go.RowKit Go.Sort
abbrev Snd := BitVec 32 × BitVec 32
def snv (s : Snd) : Value := .agg #[.int .u32 s.1.toNat, .int .u32 s.2.toNat]
theorem snd_equal (a b c d : Int) (w : World) : (Op.equal 24 (.agg #[.int .u32 a, .int .u32 b]) (.agg #[.int .u32 c, .int .u32 d])).run Tryd.prog w = .ok (a == c && b == d) w := by
  show (Op.equalIn 10000 _ _ _).run _ _ = _
  by_cases h1 : a = c
  · by_cases h2 : b = d
    · simp [go_sem, h1, h2]
    · simp [go_sem, h1, h2]
  · simp [go_sem, h1]
theorem run_check_y (e : Bool) (s : Snd) (w : World) : (Instr.checkKey e 10000 24 (snv s)).run Tryd.prog w = .ok () w := by
  kernel_rfl
theorem snv_eq (s t : Snd) (w : World) : (Op.equal 24 (snv s) (snv t)).run Tryd.prog w = .ok (decide (s = t)) w := by
  unfold snv
  rw [snd_equal]
  congr 1
  rw [Bool.eq_iff_iff, decide_eq_true_iff, Bool.and_eq_true, beq_iff_eq, beq_iff_eq]
  constructor
  · rintro ⟨h1, h2⟩
    exact Prod.ext (BitVec.eq_of_toNat_eq (by omega)) (BitVec.eq_of_toNat_eq (by omega))
  · rintro rfl
    exact ⟨rfl, rfl⟩
/-- A map's block with sounds as keys: its entries, in the order in which they came. -/
def YMap (w : World) (b : Nat) (l : List (Snd × Value)) : Prop := ∃ es n, w.heap[b]? = some (.map es n) ∧ es.toList.map (fun e => (e.key, e.val)) = l.map fun x => (snv x.1, x.2)
theorem YMap.lt {w : World} {b : Nat} {l : List (Snd × Value)} (h : YMap w b l) : b < w.heap.size := by
  obtain ⟨es, n, hh, _⟩ := h
  exact (Array.getElem?_eq_some_iff.1 hh).1
theorem YMap.keep {w w' : World} {b : Nat} {l : List (Snd × Value)} (h : YMap w b l) (e : w'.heap[b]? = w.heap[b]?) : YMap w' b l := by
  obtain ⟨es, n, hh, hl⟩ := h
  exact ⟨es, n, e.trans hh, hl⟩
theorem YMap.below {w w' : World} {b : Nat} {l : List (Snd × Value)} (h : YMap w b l) (hb : Below w.heap.size w w') : YMap w' b l := h.keep (hb.block b h.lt)
/-- The first entry with a key: its place and its value. -/
def fndY (k : Snd) : List (Snd × Value) → Nat → Option (Nat × Value)
  | [], _ => none
  | x :: l, i => if k = x.1 then some (i, x.2) else fndY k l (i + 1)
theorem findAsking_y (k : Snd) (w : World) : ∀ (es : List MapEntry) (l : List (Snd × Value)) (i : Nat), es.map (fun e => (e.key, e.val)) = l.map (fun x => (snv x.1, x.2)) → (Instr.findAsking 24 (snv k) es i).run Tryd.prog w = .ok (fndY k l i) w
  | [], [], _, _ => rfl
  | [], _ :: _, _, h => by simp at h
  | _ :: _, [], _, h => by simp at h
  | e :: es, x :: l, i, h => by
    simp only [List.map_cons, List.cons.injEq, Prod.mk.injEq] at h
    obtain ⟨⟨h1, h2⟩, h3⟩ := h
    have ih := findAsking_y k w es l (i + 1) h3
    unfold Instr.findAsking fndY
    rw [h1, h2]
    simp only [Sem.run_bind, snv_eq, Result.andThen_ok]
    by_cases hk : k = x.1
    · rw [if_pos hk, decide_eq_true hk]; rfl
    · rw [if_neg hk, decide_eq_false hk]
      exact ih
theorem findNow_y (k : Snd) (fs : Array Field) : ∀ (es : List MapEntry) (l : List (Snd × Value)) (i : Nat), es.map (fun e => (e.key, e.val)) = l.map (fun x => (snv x.1, x.2)) → Instr.findNow (.struct fs) (snv k) es i = some (fndY k l i) ∨ Instr.findNow (.struct fs) (snv k) es i = none
  | [], [], _, _ => .inl rfl
  | [], _ :: _, _, h => by simp at h
  | _ :: _, [], _, h => by simp at h
  | e :: es, x :: l, i, h => by
    refine .inr ?_
    simp only [List.map_cons, List.cons.injEq, Prod.mk.injEq] at h
    unfold Instr.findNow
    rw [h.1.1]
    rfl
theorem run_find_y (k : Snd) (es : List MapEntry) (l : List (Snd × Value)) (h : es.map (fun e => (e.key, e.val)) = l.map (fun x => (snv x.1, x.2))) (w : World) :
    (Instr.findKey 24 (snv k) es).run Tryd.prog w = .ok (fndY k l 0) w := by
  unfold Instr.findKey
  simp only [Sem.run_bind, run_underlying Tryd.underlying24, Result.andThen_ok]
  rcases findNow_y k _ es l 0 h with e | e
  · rw [e]; rfl
  · rw [e]; exact findAsking_y k w es l 0 h
theorem run_lookup_y {T E : TypeId} (hT : Tryd.prog.underlying T = some (.map 24 E)) {z : Value} (hz : ∀ w, (zeroValue E).run Tryd.prog w = .ok z w) {w : World} {b : Nat} {l : List (Snd × Value)} (h : YMap w b l) (k : Snd) :
    (Instr.lookup T (.map (some b)) (snv k) true).run Tryd.prog w = .ok (.tuple #[((fndY k l 0).map (·.2)).getD z, .bool (fndY k l 0).isSome]) w := by
  obtain ⟨es, n, hh, hl⟩ := h
  unfold Instr.lookup
  simp only [Sem.run_bind, run_underlying hT, Result.andThen_ok, Sem.run_pure, MapKept.run_getObj_map hh, run_check_y, run_find_y k es.toList l hl]
  cases hf : fndY k l 0 with
  | none => simp [Sem.run_bind, hz, Result.andThen_ok, Sem.run_pure]
  | some x => simp [Sem.run_pure]
/-- A store of a key that is not there. -/
theorem run_update_y {T E : TypeId} (hT : Tryd.prog.underlying T = some (.map 24 E)) {w : World} {b : Nat} {l : List (Snd × Value)} (h : YMap w b l) (k : Snd) (v : Value) (hf : fndY k l 0 = none) :
    ∃ w', (Instr.mapUpdate T (.map (some b)) (snv k) v).run Tryd.prog w = .ok () w' ∧ YMap w' b (l ++ [(k, v)]) ∧ w.grownBy w' (some b) := by
  obtain ⟨es, n, hh, hl⟩ := h
  have grow : ∀ o : Obj, w.grownBy { w with heap := w.heap.setIfInBounds b o } (some b) := fun o =>
    ⟨rfl, rfl, rfl, by simp, fun j hj hne => by
      show (w.heap.setIfInBounds b o)[j]? = w.heap[j]?
      rw [Array.getElem?_setIfInBounds_ne (by intro e; exact hne (by rw [e]))]⟩
  have hb := (Array.getElem?_eq_some_iff.1 hh).1
  unfold Instr.mapUpdate
  simp only [Sem.run_bind, run_underlying hT, Result.andThen_ok, MapKept.run_getObj_map hh, run_check_y, run_find_y k es.toList l hl, hf]
  refine ⟨_, MapKept.run_setObj_map _ hh, ⟨es.push { key := snv k, val := v, born := n }, n + 1, ?_, ?_⟩, grow _⟩
  · show (w.heap.setIfInBounds b _)[b]? = _
    rw [Array.getElem?_setIfInBounds_self_of_lt hb]
  · rw [Array.toList_push, List.map_append, hl, List.map_append]
    rfl
end Go.Proofs.YtmgikhldkebjbaaDoor

/-
  The state of an inventory, and what its look-ups return.
-/
namespace Go.Proofs.YtmgikhldkebjbaaDoor
open Go.RowKit Go.Sort
def flatN : List (ByteArray × Snd) → List Value
  | [] => []
  | x :: l => .string x.1 :: .int .u32 x.2.1.toNat :: .int .u32 x.2.2.toNat :: flatN l
theorem flatN_length : ∀ l, (flatN l).length = l.length * 3
  | [] => rfl
  | x :: l => by simp only [flatN, List.length_cons, flatN_length l]; omega
/-- The sounds of a list with their symbols, in a row of the call's own. -/
def OwnN (w : World) (base : Nat) (v : Value) (a : List (ByteArray × Snd)) : Prop := w.ownsRow base 76 3 v a.length (flatN a)
theorem OwnN.below {w w' : World} {base : Nat} {v : Value} {l : List (ByteArray × Snd)} (h : OwnN w base v l) (hb : Below w.heap.size w w') : OwnN w' base v l := by
  obtain ⟨hl, h0 | ⟨g, cap, cur, hv, hg, hh, hr⟩⟩ := h
  · exact ⟨hl, .inl h0⟩
  · exact ⟨hl, .inr ⟨g, cap, cur, hv, hg, (hb.block g (Array.getElem?_eq_some_iff.1 hh).1).trans hh, hr⟩⟩
theorem OwnN.slice {w : World} {base : Nat} {v : Value} {l : List (ByteArray × Snd)} (h : OwnN w base v l) : ∃ ao cap, v = .slice ao l.length cap := by
  obtain ⟨hl, ⟨rfl, h0⟩ | ⟨g, cap, cur, rfl, _⟩⟩ := h
  · exact ⟨none, 0, by rw [h0]⟩
  · exact ⟨_, cap, rfl⟩
/-- An inventory with these features, and these sounds. -/
structure Inv (w : World) (base B : Nat) (l : List ByteArray) (a : List (ByteArray × Snd)) (nv av : Value) (bf bs by_ : Nat) : Prop where
  blk : w.heap[B]? = some (.cells #[.pointer (some ⟨B, 0, none⟩), nv, .map (some bf), av, .map (some bs), .map (some by_)] 50 (0, 0))
  names : OwnS w base nv l
  feats : SMap w bf (numT l l.length)
  added : OwnN w base av a
  sounds : SMap w bs (a.map fun x => (x.1, snv x.2))
  symbols : YMap w by_ (a.map fun x => (x.2, Value.string x.1))
  hB : base ≤ B
  hf : base ≤ bf
  hs : base ≤ bs
  hy : base ≤ by_
  n1 : bf ≠ bs
  n2 : bs ≠ by_
  n3 : bf ≠ by_
theorem InvNew.inv {w : World} {base B : Nat} {l : List ByteArray} (h : InvNew w base B l) : ∃ nv bf bs by_, Inv w base B l [] nv (.slice none 0 0) bf bs by_ := by
  obtain ⟨nv, bf, bs, by_, h1, h2, h3, h4, h5, h6, h7, h8, h9, h10, h11, h12⟩ := h
  exact ⟨nv, bf, bs, by_, ⟨h1, h2, h3, ⟨rfl, .inl ⟨rfl, rfl⟩⟩, h4, ⟨#[], 0, h5, rfl⟩, h9, h6, h7, h8, h10, h11, h12⟩⟩
theorem Inv.below {w w' : World} {base B : Nat} {l : List ByteArray} {a : List (ByteArray × Snd)} {nv av : Value} {bf bs by_ : Nat} (h : Inv w base B l a nv av bf bs by_) (hb : Below w.heap.size w w') : Inv w' base B l a nv av bf bs by_ :=
  ⟨(hb.block B (Array.getElem?_eq_some_iff.1 h.blk).1).trans h.blk, h.names.below hb, h.feats.below hb, h.added.below hb, h.sounds.below hb, h.symbols.below hb, h.hB, h.hf, h.hs, h.hy, h.n1, h.n2, h.n3⟩
theorem Inv.lt {w : World} {base B : Nat} {l : List ByteArray} {a : List (ByteArray × Snd)} {nv av : Value} {bf bs by_ : Nat} (h : Inv w base B l a nv av bf bs by_) : B < w.heap.size := (Array.getElem?_eq_some_iff.1 h.blk).1
theorem Inv.cells {w : World} {base B : Nat} {l : List ByteArray} {a : List (ByteArray × Snd)} {nv av : Value} {bf bs by_ : Nat} (h : Inv w base B l a nv av bf bs by_) :
    w.cell? ⟨B, 0, none⟩ = some (.pointer (some ⟨B, 0, none⟩)) ∧ w.cell? ⟨B, 1, none⟩ = some nv ∧ w.cell? ⟨B, 2, none⟩ = some (.map (some bf)) ∧ w.cell? ⟨B, 3, none⟩ = some av ∧ w.cell? ⟨B, 4, none⟩ = some (.map (some bs)) ∧ w.cell? ⟨B, 5, none⟩ = some (.map (some by_)) :=
  ⟨cell_block h.blk rfl, cell_block h.blk rfl, cell_block h.blk rfl, cell_block h.blk rfl, cell_block h.blk rfl, cell_block h.blk rfl⟩
theorem infoInv : (Tryd.prog.info? 50).isSome = true := by kernel_rfl
set_option maxRecDepth 100000 in
theorem valid_yes (B : Nat) (w : World) (h : w.cell? ⟨B, 0, none⟩ = some (.pointer (some ⟨B, 0, none⟩))) : Gives 14 #[.pointer (some ⟨B, 0, none⟩)] w (.bool true) := by
  unfold Gives
  obtain ⟨j, hj⟩ := Option.isSome_iff_exists.1 infoInv
  have heq := fun (a : Addr) (w : World) => run_eql_ptr_same (P := Tryd.prog) (w := w) (j := j) a Tryd.underlying25 hj
  go_enter Tryd.func14, Tryd.ntmps14
  go_wp2
  go_returns
  exact ⟨rfl, Below.refl _ _⟩
theorem valid_nil (w : World) : Gives 14 #[.pointer none] w (.bool false) := by
  unfold Gives
  go_enter Tryd.func14, Tryd.ntmps14
  go_wp2
  go_returns
  exact ⟨rfl, Below.refl _ _⟩
theorem eql_nil_left {P : Program} {tp te : TypeId} (a : Addr) (w : World) (hp : P.underlying tp = some (.pointer te)) : (binOp .eql tp (.pointer none) (.pointer (some a))).run P w = .ok (.bool false) w := by
  have h : ∀ d : Nat, (Op.equalIn (d + 1) tp (.pointer none) (.pointer (some a))).run P w = .ok false w := fun d => by
    simp [Op.equalIn, run_underlying hp]
  simp only [binOp]
  simp [Op.equal, Op.maxDepth, h 9999]
set_option maxRecDepth 100000 in
theorem valid_zero (B : Nat) (w : World) (h : w.cell? ⟨B, 0, none⟩ = some (.pointer none)) : Gives 14 #[.pointer (some ⟨B, 0, none⟩)] w (.bool false) := by
  unfold Gives
  have heq := fun (a : Addr) (w : World) => eql_nil_left (P := Tryd.prog) a w Tryd.underlying25
  go_enter Tryd.func14, Tryd.ntmps14
  go_wp2
  go_returns
  exact ⟨rfl, Below.refl _ _⟩
theorem wpList_lookup_s {P : Program} {ops : Array Oper} {rest : List Oper} {o : Oper} {a : Act} {w : World} {Q : Exit → Act → World → Prop} (hg : o.guard = none) (m x : Operand) (t : TypeId) (hop : o.op = Op.lookup t m x true) {K E : TypeId} (hT : P.underlying t = some (.map K E)) (hK : P.underlying K = some .string) {z : Value} (hz : ∀ w, (zeroValue E).run P w = .ok z w)
    (b : Nat) (l : List (ByteArray × Value)) (k : ByteArray) (u : Value) (q : Bool) (hm : a.eval m = .map (some b)) (hx : a.eval x = .string k) (h : SMap w b l) (hu : ((fnd k l 0).map (·.2)).getD z = u) (hq : (fnd k l 0).isSome = q)
    (hk : wpList P ops Q rest (a.put o.dst (.tuple #[u, .bool q])) w) : wpList P ops Q (o :: rest) a w := by
  refine wpList_plain hg fun K' hK' => ?_
  have hrun := run_lookup_s hT hK hz h k
  rw [hu, hq] at hrun
  unfold Oper.wp
  simp [execOp, hop, hm, hx, hrun, Result.andThen]
  exact hK' _ _ hk
/-- The number of a name. -/
def featN (l : List ByteArray) (k : ByteArray) : Value := ((fnd k (numT l l.length) 0).map (·.2)).getD (.int .i64 0)
def featB (l : List ByteArray) (k : ByteArray) : Bool := (fnd k (numT l l.length) 0).isSome
end Go.Proofs.YtmgikhldkebjbaaDoor

/-
  Sound, Symbol, has, Longest: what they return.
-/
namespace Go.Proofs.YtmgikhldkebjbaaDoor
open Go.RowKit Go.Sort
/-- The sound of a symbol, and the symbol of a sound. -/
def sndOf (a : List (ByteArray × Snd)) (k : ByteArray) : Option Snd := (a.find? fun x => decide (k = x.1)).map (·.2)
def symOf (a : List (ByteArray × Snd)) (s : Snd) : Option ByteArray := (a.find? fun x => decide (s = x.2)).map (·.1)
theorem fnd_snd (k : ByteArray) : ∀ (a : List (ByteArray × Snd)) (i : Nat), (fnd k (a.map fun x => (x.1, snv x.2)) i).map (·.2) = (sndOf a k).map snv ∧ (fnd k (a.map fun x => (x.1, snv x.2)) i).isSome = (sndOf a k).isSome
  | [], _ => ⟨rfl, rfl⟩
  | x :: a, i => by
    have ih := fnd_snd k a (i + 1)
    simp only [List.map_cons, fnd, sndOf, List.find?_cons]
    by_cases h : k = x.1
    · rw [if_pos h, decide_eq_true h]; exact ⟨rfl, rfl⟩
    · rw [if_neg h, decide_eq_false h]; exact ih
theorem fnd_sym (s : Snd) : ∀ (a : List (ByteArray × Snd)) (i : Nat), (fndY s (a.map fun x => (x.2, Value.string x.1)) i).map (·.2) = (symOf a s).map Value.string ∧ (fndY s (a.map fun x => (x.2, Value.string x.1)) i).isSome = (symOf a s).isSome
  | [], _ => ⟨rfl, rfl⟩
  | x :: a, i => by
    have ih := fnd_sym s a (i + 1)
    simp only [List.map_cons, fndY, symOf, List.find?_cons]
    by_cases h : s = x.2
    · rw [if_pos h, decide_eq_true h]; exact ⟨rfl, rfl⟩
    · rw [if_neg h, decide_eq_false h]; exact ih
theorem snd_get (a : List (ByteArray × Snd)) (k : ByteArray) (t : Snd) (ht : (sndOf a k).getD (0#32, 0#32) = t) : ((fnd k (a.map fun x => (x.1, snv x.2)) 0).map (·.2)).getD (.agg #[.int .u32 0, .int .u32 0]) = .agg #[.int .u32 t.1.toNat, .int .u32 t.2.toNat] := by
  rw [(fnd_snd k a 0).1, ← ht]
  cases sndOf a k <;> rfl
end Go.Proofs.YtmgikhldkebjbaaDoor

/-
  Symbol, has: what they return.
-/
namespace Go.Proofs.YtmgikhldkebjbaaDoor
open Go.RowKit Go.Sort
theorem sym_get (a : List (ByteArray × Snd)) (s : Snd) (t : ByteArray) (ht : (symOf a s).getD ⟨#[]⟩ = t) : ((fndY s (a.map fun x => (x.2, Value.string x.1)) 0).map (·.2)).getD (.string ⟨#[]⟩) = .string t := by
  rw [(fnd_sym s a 0).1, ← ht]
  cases symOf a s <;> rfl
end Go.Proofs.YtmgikhldkebjbaaDoor

/-
  has: whether a sound belongs to an inventory.
-/
namespace Go.Proofs.YtmgikhldkebjbaaDoor
open Go.RowKit Go.Sort
attribute [local go_sem] bv_and bv_or ofInt32_nat
theorem OwnS.form {w : World} {base : Nat} {v : Value} {l : List ByteArray} (h : OwnS w base v l) : ∃ ao cap, v = .slice ao l.length cap := by
  obtain ⟨hl, ⟨rfl, h0⟩ | ⟨g, cap, cur, rfl, _⟩⟩ := h
  · exact ⟨none, 0, by rw [h0]⟩
  · exact ⟨_, cap, rfl⟩
/-- The features with a value, and whether a sound belongs to an inventory with n features. -/
def valN (s : Snd) : Nat := s.1.toNat ||| s.2.toNat
def hasB (n : Nat) (s : Snd) : Bool := decide (s.1.toNat &&& s.2.toNat = 0) && decide (valN s / 2 ^ n = 0)
theorem valued_any (s : Snd) (w : World) : Gives 18 #[snv s] w (.int .u32 (valN s : Nat)) := by
  unfold Gives snv valN
  obtain ⟨p, m⟩ := s
  go_enter Tryd.func18, Tryd.ntmps18
  go_wp2
  go_returns
  exact ⟨by simp, by go_grown⟩
set_option maxHeartbeats 1000000 in
theorem has_any {w : World} {base B : Nat} {l : List ByteArray} {a : List (ByteArray × Snd)} {nv av : Value} {bf bs by_ : Nat} (h : Inv w base B l a nv av bf bs by_) (s : Snd) (hl : l.length ≤ 24) : Gives 15 #[.pointer (some ⟨B, 0, none⟩), snv s] w (.bool (hasB l.length s)) := by
  unfold Gives hasB
  have HI := Lib.hid h
  have hB := h.lt
  obtain ⟨ao, ac, rfl⟩ := h.names.form
  have q1 := h.cells.2.1
  clear h
  have hv := valued_any s
  have HV := Lib.hid hv
  clear hv
  generalize hN : valN s = N at *
  have HN := Lib.hid hN
  clear hN
  obtain ⟨p, m⟩ := s
  unfold snv at *
  simp only
  generalize l.length = n at *
  have q1' := fun X => cell_past (X := X) hB q1
  have hI : (N : Int) / 2 ^ n = ((N / 2 ^ n : Nat) : Int) := by simp
  have e3 : ((N : Int) / 2 ^ n = 0) ↔ (N / 2 ^ n = 0) := by rw [hI]; omega
  have E3 := Lib.hid e3
  clear hI e3
  by_cases h1 : p.toNat &&& m.toNat = 0
  · have g1 : decide (p.toNat &&& m.toNat = 0) = true := decide_eq_true h1
    by_cases h2 : N / 2 ^ n = 0
    all_goals (
      go_enter Tryd.func15, Tryd.ntmps15
      go_wp2_with fail
      refine wp_gen ?_
      intro W1 hW1
      have hw1 : Below w.heap.size w W1 := by rw [hW1]; go_grown
      have hz1 : w.heap.size + 1 ≤ W1.heap.size := by rw [hW1]; go_size
      have c0 : W1.cell? ⟨w.heap.size, 0, none⟩ = some (.int .u32 p.toNat) := by rw [hW1]; first | assumption | go_cell | (go_simp; done) | exact cell_past (by first | assumption | omega) (by assumption)
      have c1 : W1.cell? ⟨w.heap.size, 1, none⟩ = some (.int .u32 m.toNat) := by rw [hW1]; first | assumption | go_cell | (go_simp; done) | exact cell_past (by first | assumption | omega) (by assumption)
      have c2 : W1.cell? ⟨B, 1, none⟩ = some (.slice ao n ac) := by rw [hW1]; first | assumption | go_cell | (go_simp; done) | exact cell_past (by first | assumption | omega) (by assumption)
      clear hW1
      have k0 := cell_regrown c0
      have k1 := cell_regrown c1
      have k2 := cell_regrown c2
      refine wp_region_quiet_below (by kernel_rfl) (by kernel_rfl) ?_
      try simp only [List.append]
      repeat (go_big_quiet_step (first | (go_at_call 18; with_reducible exact Calls.regrown_of (HV.out _))))
      refine wpQuiet_nil ?_
      intro w2 hw2
      have hb : Below W1.heap.size W1 w2 := by obtain ⟨q, rfl⟩ := hw2; exact below_regrown _ _ _
      clear hw2
      clear k0 k1 k2
      have hw := chain hw1 (by omega) hb
      obtain ⟨hc, hf, hz⟩ := bcell hb
      clear hb
      try have r0 : w2.cell? ⟨w.heap.size, 0, none⟩ = some (.int .u32 p.toNat) := (hc _ _ (by omega)).trans c0
      try have r1 : w2.cell? ⟨w.heap.size, 1, none⟩ = some (.int .u32 m.toNat) := (hc _ _ (by omega)).trans c1
      try have r2 : w2.cell? ⟨B, 1, none⟩ = some (.slice ao n ac) := (hc _ _ (by omega)).trans c2
      go_wp2
      go_returns
      exact ⟨by simp [h1, h2, E3.out], hw⟩)
  · have g1 : decide (p.toNat &&& m.toNat = 0) = false := decide_eq_false h1
    have g2 : (((p.toNat &&& m.toNat : Nat) : Int) == 0) = false := by rw [Bool.eq_false_iff]; intro e; have := beq_iff_eq.1 e; omega
    go_enter Tryd.func15, Tryd.ntmps15
    go_wp2_with fail
    refine wp_gen ?_
    intro W1 hW1
    have hw1 : Below w.heap.size w W1 := by rw [hW1]; go_grown
    have hz1 : w.heap.size + 1 ≤ W1.heap.size := by rw [hW1]; go_size
    have c0 : W1.cell? ⟨w.heap.size, 0, none⟩ = some (.int .u32 p.toNat) := by rw [hW1]; first | assumption | go_cell | (go_simp; done) | exact cell_past (by first | assumption | omega) (by assumption)
    have c1 : W1.cell? ⟨w.heap.size, 1, none⟩ = some (.int .u32 m.toNat) := by rw [hW1]; first | assumption | go_cell | (go_simp; done) | exact cell_past (by first | assumption | omega) (by assumption)
    have c2 : W1.cell? ⟨B, 1, none⟩ = some (.slice ao n ac) := by rw [hW1]; first | assumption | go_cell | (go_simp; done) | exact cell_past (by first | assumption | omega) (by assumption)
    clear hW1
    have k0 := cell_regrown c0
    have k1 := cell_regrown c1
    have k2 := cell_regrown c2
    refine wp_region_quiet_below (by kernel_rfl) (by kernel_rfl) ?_
    try simp only [List.append]
    repeat (go_big_quiet_step (first | (go_at_call 18; with_reducible exact Calls.regrown_of (HV.out _))))
    refine wpQuiet_nil ?_
    intro w2 hw2
    have hb : Below W1.heap.size W1 w2 := by obtain ⟨q, rfl⟩ := hw2; exact below_regrown _ _ _
    clear hw2
    clear k0 k1 k2
    have hw := chain hw1 (by omega) hb
    obtain ⟨hc, hf, hz⟩ := bcell hb
    clear hb
    try have r0 : w2.cell? ⟨w.heap.size, 0, none⟩ = some (.int .u32 p.toNat) := (hc _ _ (by omega)).trans c0
    try have r1 : w2.cell? ⟨w.heap.size, 1, none⟩ = some (.int .u32 m.toNat) := (hc _ _ (by omega)).trans c1
    try have r2 : w2.cell? ⟨B, 1, none⟩ = some (.slice ao n ac) := (hc _ _ (by omega)).trans c2
    go_wp2
    go_returns
    exact ⟨by simp [h1], hw⟩
end Go.Proofs.YtmgikhldkebjbaaDoor

/-
  Add: the error, or the inventory with the sound.
-/
namespace Go.Proofs.YtmgikhldkebjbaaDoor
open Go.RowKit Go.Sort
/-- The error of Add. -/
def addE (l : List ByteArray) (a : List (ByteArray × Snd)) (k : ByteArray) (s : Snd) : Int :=
  if isSym k = false then 15 else if hasB l.length s = false then 14 else if ((sndOf a k).isSome || (symOf a s).isSome) = true then 6 else if 256 ≤ a.length then 4 else 0
/-- What Add may write over. -/
def Touch (w w' : World) (B bs by_ : Nat) (av : Value) : Prop := w'.os = w.os ∧ w'.tape = w.tape ∧ w'.output = w.output ∧ w.heap.size ≤ w'.heap.size ∧ ∀ k, k < w.heap.size → k ≠ B → k ≠ bs → k ≠ by_ → av.ownBlock ≠ some k → w'.heap[k]? = w.heap[k]?
theorem Touch.below {w w' : World} {B bs by_ : Nat} {av : Value} (hb : Below w.heap.size w w') : Touch w w' B bs by_ av := ⟨hb.os, hb.tape, hb.output, hb.size, fun k hk _ _ _ _ => hb.block k hk⟩
theorem infoNamed : (Tryd.prog.info? 76).map (fun i => (i.zero, i.size, i.bytes)) = some (some (.agg #[.string ⟨#[]⟩, .int .u32 0, .int .u32 0]), 3, 24) := by kernel_rfl
theorem flatN_append : ∀ (a b : List (ByteArray × Snd)), flatN (a ++ b) = flatN a ++ flatN b
  | [], _ => rfl
  | x :: a, b => by simp only [List.cons_append, flatN, flatN_append a b]
theorem put_new {k : ByteArray} {v : Value} {l : List (ByteArray × Value)} (h : (fnd k l 0).isSome = false) : put k v l = l ++ [(k, v)] := fnd_none (i := 0) (by cases hf : fnd k l 0 with | none => rfl | some x => rw [hf] at h; cases h)
theorem own_far {w : World} {base b n : Nat} {e : TypeId} {size : Nat} {v : Value} {xs : List Value} {o : Obj} (h : w.ownsRow base e size v n xs) (hb : w.heap[b]? = some o) (hne : ∀ cs fz, o ≠ .cells cs e fz) : v.ownBlock ≠ some b := by
  obtain ⟨_, ⟨rfl, _⟩ | ⟨g, cap, cur, rfl, _, hh, _⟩⟩ := h
  · simp [Value.ownBlock]
  · intro he
    simp only [Value.ownBlock, Option.some.injEq] at he
    subst he
    rw [hb] at hh
    exact hne _ _ (Option.some.inj hh)
theorem set_grown (w : World) (b o : Nat) (v : Value) : w.grownBy (w.setCell ⟨b, o, none⟩ v) (some b) := by
  refine ⟨rfl, rfl, rfl, by simp [World.setCell], fun k hk hne => ?_⟩
  simp only [World.setCell]
  rw [Array.getElem?_modify, if_neg (by intro e; exact hne (by rw [e]))]
theorem Touch.grown {w W W' : World} {B bs by_ : Nat} {av : Value} {row : Option Nat} (h : Touch w W B bs by_ av) (hg : W.grownBy W' row) (hr : ∀ k, row = some k → k = B ∨ k = bs ∨ k = by_ ∨ av.ownBlock = some k ∨ w.heap.size ≤ k) : Touch w W' B bs by_ av := by
  obtain ⟨h1, h2, h3, h4, h5⟩ := h
  refine ⟨hg.os.trans h1, hg.tape.trans h2, hg.output.trans h3, Nat.le_trans h4 hg.size, fun k hk n1 n2 n3 n4 => ?_⟩
  refine (hg.block k (by omega) (fun e => ?_)).trans (h5 k hk n1 n2 n3 n4)
  rcases hr k e.symm with e | e | e | e | e
  · exact n1 e
  · exact n2 e
  · exact n3 e
  · exact n4 e
  · omega
/-- An inventory whose three lists need not be the same. -/
structure Inv3 (w : World) (base B : Nat) (l : List ByteArray) (a : List (ByteArray × Snd)) (a2 : List (ByteArray × Value)) (a3 : List (Snd × Value)) (nv av : Value) (bf bs by_ : Nat) : Prop where
  blk : w.heap[B]? = some (.cells #[.pointer (some ⟨B, 0, none⟩), nv, .map (some bf), av, .map (some bs), .map (some by_)] 50 (0, 0))
  names : OwnS w base nv l
  feats : SMap w bf (numT l l.length)
  added : OwnN w base av a
  sounds : SMap w bs a2
  symbols : YMap w by_ a3
  hB : base ≤ B
  hf : base ≤ bf
  hs : base ≤ bs
  hy : base ≤ by_
  n1 : bf ≠ bs
  n2 : bs ≠ by_
  n3 : bf ≠ by_
theorem SMap.obj {w : World} {b : Nat} {l : List (ByteArray × Value)} (h : SMap w b l) : ∃ es n, w.heap[b]? = some (.map es n) := by obtain ⟨es, n, hh, _⟩ := h; exact ⟨es, n, hh⟩
theorem YMap.obj {w : World} {b : Nat} {l : List (Snd × Value)} (h : YMap w b l) : ∃ es n, w.heap[b]? = some (.map es n) := by obtain ⟨es, n, hh, _⟩ := h; exact ⟨es, n, hh⟩
theorem ne_of_obj {w : World} {b c : Nat} {o o' : Obj} (h : w.heap[b]? = some o) (h' : w.heap[c]? = some o') (hne : o ≠ o') : b ≠ c := by
  rintro rfl
  rw [h] at h'
  exact hne (Option.some.inj h')
section
variable {w w' : World} {base B : Nat} {l : List ByteArray} {a : List (ByteArray × Snd)} {a2 : List (ByteArray × Value)} {a3 : List (Snd × Value)} {nv av : Value} {bf bs by_ : Nat}
theorem Touch.then_below {W W' : World} {av : Value} (h : Touch w W B bs by_ av) (hb : Below W.heap.size W W') : Touch w W' B bs by_ av :=
  h.grown (row := none) ⟨hb.os, hb.tape, hb.output, hb.size, fun k hk _ => hb.block k hk⟩ (fun k e => by cases e)
theorem Inv3.below (h : Inv3 w base B l a a2 a3 nv av bf bs by_) (hb : Below w.heap.size w w') : Inv3 w' base B l a a2 a3 nv av bf bs by_ :=
  ⟨(hb.block B (Array.getElem?_eq_some_iff.1 h.blk).1).trans h.blk, h.names.below hb, h.feats.below hb, h.added.below hb, h.sounds.below hb, h.symbols.below hb, h.hB, h.hf, h.hs, h.hy, h.n1, h.n2, h.n3⟩
theorem own_lt {w : World} {base n : Nat} {e : TypeId} {size : Nat} {v : Value} {xs : List Value} {q : Nat} (h : w.ownsRow base e size v n xs) (hv : v.ownBlock = some q) : q < w.heap.size := by
  obtain ⟨_, ⟨rfl, _⟩ | ⟨g, cap, cur, rfl, _, hh, _⟩⟩ := h
  · simp [Value.ownBlock] at hv
  · simp only [Value.ownBlock, Option.some.injEq] at hv
    subst hv
    exact (Array.getElem?_eq_some_iff.1 hh).1
/-- What is kept where a row grows that is none of the inventory's own blocks but the list of what was added. -/
theorem Inv3.app {g m cap : Nat} {a' : List (ByteArray × Snd)} (h : Inv3 w base B l a a2 a3 nv av bf bs by_) (hg : w.grownBy w' av.ownBlock) (ho : OwnN w' base (.slice (some ⟨g, 0, none⟩) m cap) a') :
    w'.heap[B]? = w.heap[B]? ∧ Inv3 (w'.setCell ⟨B, 3, none⟩ (.slice (some ⟨g, 0, none⟩) m cap)) base B l a' a2 a3 nv (.slice (some ⟨g, 0, none⟩) m cap) bf bs by_ := by
  obtain ⟨e1, e2, e3⟩ := h.feats.obj
  obtain ⟨s1, s2, s3⟩ := h.sounds.obj
  obtain ⟨y1, y2, y3⟩ := h.symbols.obj
  have kB := hg.block B (Array.getElem?_eq_some_iff.1 h.blk).1 (fun e => own_far h.added h.blk (by intro cs fz e; simp at e) e.symm)
  have kf := hg.block bf h.feats.lt (fun e => own_far h.added e3 (by intro cs fz e; cases e) e.symm)
  have ks := hg.block bs h.sounds.lt (fun e => own_far h.added s3 (by intro cs fz e; cases e) e.symm)
  have ky := hg.block by_ h.symbols.lt (fun e => own_far h.added y3 (by intro cs fz e; cases e) e.symm)
  have hs := set_grown w' B 3 (.slice (some ⟨g, 0, none⟩) m cap)
  have blk' := kB.trans h.blk
  have nn : OwnS w' base nv l := World.ownsRow.kept h.names hg (by
    cases hv : nv.ownBlock with
    | none => exact .inl rfl
    | some q =>
      refine .inr fun e => ?_
      obtain ⟨_, ⟨rfl, _⟩ | ⟨g1, _, _, rfl, _, hh, _⟩⟩ := h.names
      · cases hv
      · exact own_far h.added hh (by intro cs fz e; simp at e) (by simp only [Value.ownBlock] at hv e ⊢; rw [← e, hv]))
  refine ⟨kB, ?_, World.ownsRow.kept nn hs (.inr (own_far nn blk' (by intro cs fz e; simp at e))), (h.feats.keep kf).keep (hs.block bf (by have := hg.size; have := h.feats.lt; omega) (by simpa using (ne_of_obj e3 h.blk (by intro e; cases e)))),
    World.ownsRow.kept ho hs (.inr (own_far ho blk' (by intro cs fz e; simp at e))), (h.sounds.keep ks).keep (hs.block bs (by have := hg.size; have := h.sounds.lt; omega) (by simpa using (ne_of_obj s3 h.blk (by intro e; cases e)))),
    (h.symbols.keep ky).keep (hs.block by_ (by have := hg.size; have := h.symbols.lt; omega) (by simpa using (ne_of_obj y3 h.blk (by intro e; cases e)))), h.hB, h.hf, h.hs, h.hy, h.n1, h.n2, h.n3⟩
  simp only [World.setCell]
  rw [Array.getElem?_modify, if_pos rfl, blk']
  simp
theorem Inv3.snd {a2' : List (ByteArray × Value)} (h : Inv3 w base B l a a2 a3 nv av bf bs by_) (hg : w.grownBy w' (some bs)) (ho : SMap w' bs a2') : Inv3 w' base B l a a2' a3 nv av bf bs by_ := by
  obtain ⟨s1, s2, s3⟩ := h.sounds.obj
  have ne1 := ne_of_obj h.blk s3 (by intro e; cases e)
  exact ⟨(hg.block B (Array.getElem?_eq_some_iff.1 h.blk).1 (by simpa using ne1)).trans h.blk, World.ownsRow.kept h.names hg (.inr (own_far h.names s3 (by intro cs fz e; cases e))), h.feats.keep (hg.block bf h.feats.lt (by simpa using h.n1)), World.ownsRow.kept h.added hg (.inr (own_far h.added s3 (by intro cs fz e; cases e))), ho, h.symbols.keep (hg.block by_ h.symbols.lt (by simpa using h.n2.symm)), h.hB, h.hf, h.hs, h.hy, h.n1, h.n2, h.n3⟩
theorem Inv3.sym {a3' : List (Snd × Value)} (h : Inv3 w base B l a a2 a3 nv av bf bs by_) (hg : w.grownBy w' (some by_)) (ho : YMap w' by_ a3') : Inv3 w' base B l a a2 a3' nv av bf bs by_ := by
  obtain ⟨y1, y2, y3⟩ := h.symbols.obj
  have ne1 := ne_of_obj h.blk y3 (by intro e; cases e)
  exact ⟨(hg.block B (Array.getElem?_eq_some_iff.1 h.blk).1 (by simpa using ne1)).trans h.blk, World.ownsRow.kept h.names hg (.inr (own_far h.names y3 (by intro cs fz e; cases e))), h.feats.keep (hg.block bf h.feats.lt (by simpa using h.n3)), World.ownsRow.kept h.added hg (.inr (own_far h.added y3 (by intro cs fz e; cases e))), h.sounds.keep (hg.block bs h.sounds.lt (by simpa using h.n2)), ho, h.hB, h.hf, h.hs, h.hy, h.n1, h.n2, h.n3⟩
end
theorem step_appN {ops : Array Oper} {o : Oper} {a : Act} {w : World} {K : Act → World → Prop} {Q : Exit → Act → World → Prop} {E : Prop} (hgd : o.guard = none) (s x : Operand)
    (ho : o.op = .call { callee := .builtin .append, args := #[s, x], argTypes := #[46, 46] })
    (base D : Nat) (v : Value) (xs : List (ByteArray × Snd)) (k : ByteArray) (p m : BitVec 32) (hs : a.eval s = v) (hx : a.eval x = .slice (some ⟨D, 0, none⟩) 1 1) (hB : w.heap[D]? = some (.cells #[.string k, .int .u32 p.toNat, .int .u32 m.toNat] 76 (0, 0))) (hown : OwnN w base v xs) (hlen : xs.length + 1 ≤ 1000000) (hbase : base ≤ w.heap.size)
    (h : ∀ g cap n w', OwnN w' base (.slice (some ⟨g, 0, none⟩) n cap) (xs ++ [(k, (p, m))]) → w.grownBy w' v.ownBlock → K (a.put o.dst (.slice (some ⟨g, 0, none⟩) n cap)) w') :
    if Region.wanted o (yielded ops a.tmps) = true then Oper.wp Tryd.prog o a w K Q else E := by
  obtain ⟨i, hi, hz, hs1, hb1⟩ := info_parts infoNamed
  refine step_append_lies w hgd s x 46 ho base 76 i _ 3 24 Tryd.underlying46 hi hz hs1 hb1 rfl (by decide) v xs.length (flatN xs) hs hown ⟨D, 0, none⟩ 1 1 [.string k, .int .u32 p.toNat, .int .u32 m.toNat] hx rfl (World.news_of_block (cs := #[.string k, .int .u32 p.toNat, .int .u32 m.toNat]) hB) (by simp [Value.oneCell']) (by decide) (Nat.le_trans hlen (by decide)) (by omega) hbase w.heap.size rfl ?_
  intro g cap w' h1 hg _ _
  refine h g cap (xs.length + 1) w' ?_ hg
  unfold OwnN
  rw [flatN_append, List.length_append]
  exact h1
set_option maxRecDepth 100000 in
set_option maxHeartbeats 8000000 in
theorem add_any {w : World} {base B : Nat} {l : List ByteArray} {a : List (ByteArray × Snd)} {nv av : Value} {bf bs by_ : Nat} (h : Inv w base B l a nv av bf bs by_) (k : ByteArray) (s : Snd) (hk : k.size ≤ 9223372036854775807) (hl : l.length ≤ 24) (ha : a.length ≤ 256) : Calls Tryd.prog 19 #[.pointer (some ⟨B, 0, none⟩), .string k, snv s] w fun e w' => e = .returned (.int .i64 (addE l a k s)) ∧ ((addE l a k s ≠ 0 ∧ Below w.heap.size w w') ∨ (addE l a k s = 0 ∧ ∃ av', Inv w' base B l (a ++ [(k, s)]) nv av' bf bs by_ ∧ Touch w w' B bs by_ av)) := by
  have HI := Lib.hid h
  have hB := h.lt
  obtain ⟨ao, ac, rfl⟩ := h.added.slice
  have hY := isSymbol_any k hk
  have hH := fun W (hW : Inv W base B l a nv (.slice ao a.length ac) bf bs by_) => has_any hW s hl
  generalize hEE : addE l a k s = E at *
  have hE1 := hEE
  unfold addE at hE1
  have HA := Lib.hid ha
  have HNB : Hid (B < w.heap.size ∧ bs < w.heap.size ∧ by_ < w.heap.size ∧ Value.ownBlock (.slice ao a.length ac) ≠ some w.heap.size) := Lib.hid ⟨hB, HI.out.sounds.lt, HI.out.symbols.lt, fun e => by have := own_lt HI.out.added e; omega⟩
  obtain ⟨t, ht⟩ : ∃ t, (sndOf a k).getD (0#32, 0#32) = t := ⟨_, rfl⟩
  have HG := Lib.hid (snd_get a k t ht)
  have HS := Lib.hid (fnd_snd k a 0).2
  obtain ⟨u, hu⟩ : ∃ u, (symOf a s).getD ⟨#[]⟩ = u := ⟨_, rfl⟩
  have HGY := Lib.hid (sym_get a s u hu)
  have HSY := Lib.hid (fnd_sym s a 0).2
  generalize (sndOf a k).isSome = q1 at *
  generalize (symOf a s).isSome = q2 at *
  generalize isSym k = y at *
  generalize hasB l.length s = hb at *
  obtain ⟨p, m⟩ := s
  have hlk : ∀ W, YMap W by_ (a.map fun x => (x.2, Value.string x.1)) → (Instr.lookup 48 (.map (some by_)) (.agg #[.int .u32 p.toNat, .int .u32 m.toNat]) true).run Tryd.prog W = .ok (.tuple #[.string u, .bool q2]) W := fun W hW => by
    have := run_lookup_y Tryd.underlying48 (z := .string ⟨#[]⟩) (fun _ => by kernel_rfl) hW (p, m)
    rw [HGY.out, HSY.out] at this
    exact this
  have HLK := Lib.hid hlk; have HY := Lib.hid hY; have HH := Lib.hid hH
  unfold snv at *
  clear hlk hY hH h hEE ht hu
  have hI0 := HI.out.below ((Below.refl _ w).alloc (Nat.le_refl _) (.cells #[.int .u32 p.toNat, .int .u32 m.toNat] 24))
  have HI0 := Lib.hid hI0
  have hw0 := (Below.refl w.heap.size w).alloc (Nat.le_refl _) (.cells #[.int .u32 p.toNat, .int .u32 m.toNat] 24)
  have HW0 := Lib.hid hw0
  clear hI0 hw0
  have k0 := cell_block (World.alloc_heap_new w (.cells #[.int .u32 p.toNat, .int .u32 m.toNat] 24)) (o := 0) rfl
  have k1 := cell_block (World.alloc_heap_new w (.cells #[.int .u32 p.toNat, .int .u32 m.toNat] 24)) (o := 1) rfl
  go_enter Tryd.func19, Tryd.ntmps19
  go_wp2_with fail
  go_at_call 14
  refine Gives.then (valid_yes B _ HI0.out.cells.1) ?_
  intro w1 hb1
  have HI1 := Lib.hid (HI0.out.below hb1)
  have hw1 := HW0.out.trans (hb1.mono HW0.out.size)
  have r0 := (hb1.cell (p := ⟨w.heap.size, 0, none⟩) (by simp)).trans k0
  have r1 := (hb1.cell (p := ⟨w.heap.size, 1, none⟩) (by simp)).trans k1
  have lw : w.heap.size < w1.heap.size := by have := hb1.size; rw [World.size_alloc] at this; omega
  clear hb1 k0 k1 HI0 HW0 HI
  go_wp2_with fail
  go_at_call 29
  refine Gives.then (HY.out _) ?_
  intro w2 hb2
  have HI2 := Lib.hid (HI1.out.below hb2)
  have hw2 := hw1.trans (hb2.mono hw1.size)
  have r0 := (hb2.cell (p := ⟨w.heap.size, 0, none⟩) lw).trans r0
  have r1 := (hb2.cell (p := ⟨w.heap.size, 1, none⟩) lw).trans r1
  have lw := Nat.lt_of_lt_of_le lw hb2.size
  clear hb2 HI1 hw1
  cases y
  · go_wp2_with fail
    go_returns
    have hE2 : E = 15 := hE1.symm
    exact ⟨by rw [hE2]; rfl, .inl ⟨by rw [hE2]; decide, hw2⟩⟩
  · go_wp2_with fail
    go_at_call 15
    refine Gives.then (HH.out _ HI2.out) ?_
    intro w3 hb3
    have HI3 := Lib.hid (HI2.out.below hb3)
    have hw3 := hw2.trans (hb3.mono hw2.size)
    have r0 := (hb3.cell (p := ⟨w.heap.size, 0, none⟩) lw).trans r0
    have r1 := (hb3.cell (p := ⟨w.heap.size, 1, none⟩) lw).trans r1
    have lw := Nat.lt_of_lt_of_le lw hb3.size
    clear hb3 HI2 hw2
    cases hb
    · go_wp2_with fail
      go_returns
      have hE2 : E = 14 := hE1.symm
      exact ⟨by rw [hE2]; rfl, .inl ⟨by rw [hE2]; decide, hw3⟩⟩
    · have c4 := HI3.out.cells.2.2.2.2.1
      go_wp2_with (at_lookup; refine wpList_lookup_s rfl (.tmp 25) (.tmp 26) 47 rfl Tryd.underlying47 Tryd.underlying9 (z := .agg #[.int .u32 0, .int .u32 0]) (fun _ => by kernel_rfl) bs (a.map fun x => (x.1, snv x.2)) k (.agg #[.int .u32 t.1.toNat, .int .u32 t.2.toNat]) q1 rfl rfl HI3.out.sounds HG.out HS.out ?_)
      have HI4 := Lib.hid (HI3.out.below ((Below.refl _ w3).alloc (Nat.le_refl _) (.cells #[.int .u32 t.1.toNat, .int .u32 t.2.toNat] 24)).drew)
      have c5 : (w3.alloc (.cells #[.int .u32 t.1.toNat, .int .u32 t.2.toNat] 24)).drew.cell? ⟨B, 5, none⟩ = some (.map (some by_)) := HI4.out.cells.2.2.2.2.2
      have e0 : (w3.alloc (.cells #[.int .u32 t.1.toNat, .int .u32 t.2.toNat] 24)).drew.cell? ⟨w.heap.size, 0, none⟩ = some (.int .u32 p.toNat) := cell_past lw r0
      have e1 : (w3.alloc (.cells #[.int .u32 t.1.toNat, .int .u32 t.2.toNat] 24)).drew.cell? ⟨w.heap.size, 1, none⟩ = some (.int .u32 m.toNat) := cell_past lw r1
      have hl1 := HLK.out (w3.alloc (.cells #[.int .u32 t.1.toNat, .int .u32 t.2.toNat] 24)).drew HI4.out.symbols
      have hw4 := (hw3.alloc hw3.size (.cells #[.int .u32 t.1.toNat, .int .u32 t.2.toNat] 24)).drew
      have HW4 := Lib.hid hw4
      have lw4 : w.heap.size < (w3.alloc (.cells #[.int .u32 t.1.toNat, .int .u32 t.2.toNat] 24)).drew.heap.size := by show _ < (w3.alloc _).heap.size; rw [World.size_alloc]; omega
      clear c4 hw3 hw4 HI3
      go_region
      clear hl1 r0 r1
      rcases hq : (q1 || q2) with _ | _
      · obtain ⟨rfl, rfl⟩ : q1 = false ∧ q2 = false := by cases q1 <;> cases q2 <;> simp_all
        have c3 : (w3.alloc (.cells #[.int .u32 t.1.toNat, .int .u32 t.2.toNat] 24)).drew.cell? ⟨B, 3, none⟩ = some (.slice ao a.length ac) := HI4.out.cells.2.2.2.1
        by_cases h256 : a.length = 256
        · have hE2 : E = 4 := by rw [← hE1]; simp [h256]
          have g1 : decide ((256 : Int) ≤ (a.length : Int)) = true := decide_eq_true (by omega)
          have g2 : decide (256 ≤ a.length) = true := decide_eq_true (by omega)
          go_wp2_with fail
          go_returns
          exact ⟨by rw [hE2]; rfl, .inl ⟨by rw [hE2]; decide, HW4.out⟩⟩
        · have hE2 : E = 0 := by rw [← hE1]; simp; omega
          have g1 : decide ((256 : Int) ≤ (a.length : Int)) = false := decide_eq_false (by omega)
          have g2 : decide (256 ≤ a.length) = false := decide_eq_false (by omega)
          go_wp2_with fail
          refine wp_gen ?_
          intro w4 hw4
          rw [← hw4] at HI4 HW4 c3 e0 e1 lw4 c5
          have h34 : Inv3 w4 base B l a (a.map fun x => (x.1, snv x.2)) (a.map fun x => (x.2, Value.string x.1)) nv (.slice ao a.length ac) bf bs by_ := ⟨HI4.out.blk, HI4.out.names, HI4.out.feats, HI4.out.added, HI4.out.sounds, HI4.out.symbols, HI4.out.hB, HI4.out.hf, HI4.out.hs, HI4.out.hy, HI4.out.n1, HI4.out.n2, HI4.out.n3⟩
          have H3 := Lib.hid h34
          have HT4 := Lib.hid (Touch.below (B := B) (bs := bs) (by_ := by_) (av := .slice ao a.length ac) HW4.out)
          have lB := HI4.out.lt
          have tc3 := fun X => cell_past (X := X) lB c3
          have te0 := fun X => cell_past (X := X) lw4 e0
          have te1 := fun X => cell_past (X := X) lw4 e1
          have HLA : Hid (a.length + 1 ≤ 1000000) := Lib.hid (by have := HA.out; omega)
          have HP := Lib.hid (put_new (v := snv (p, m)) HS.out)
          have HF := Lib.hid HSY.out
          clear h34 hw4 HI4 HW4 c5
          go_region_law (refine step_appN rfl (.tmp 53) (.tmp 57) rfl base w4.heap.size (.slice ao a.length ac) a k p m rfl rfl ?_ (World.ownsRow.drew (World.ownsRow.alloc H3.out.added _)) HLA.out ?_ ?_; (next => exact World.alloc_heap_new w4 _); (next => (have h1 := H3.out.hB; show base ≤ (w4.alloc _).heap.size; rw [World.size_alloc]; omega)); intro g6 c6 n6 w6 ho6 hg6; have hb5 := ((Below.refl _ w4).alloc (Nat.le_refl _) (.cells #[.string k, .int .u32 p.toNat, .int .u32 m.toNat] 76)).drew; have h5 := H3.out.below hb5; have hap := h5.app hg6 ho6; have c36 := cell_block (hap.1.trans h5.blk) (o := 3) rfl; have f36 := frozen_block (o := 3) (hap.1.trans h5.blk); have H6 := Lib.hid hap.2; have HG6 := Lib.hid hg6; have HB5 := Lib.hid hb5; clear hap h5 ho6 hg6 hb5)
          all_goals (
            have hg7 := set_grown w6 B 3 (.slice (some ⟨g6, 0, none⟩) n6 c6)
            have lw6 : w.heap.size < w6.heap.size := Nat.lt_of_lt_of_le (Nat.lt_of_lt_of_le lw4 HB5.out.size) HG6.out.size
            have e06 := (hg7.cell_far ⟨w.heap.size, 0, none⟩ lw6 (by have := HNB.out.1; simp only [ne_eq, Option.some.injEq]; omega)).trans ((HG6.out.cell_far ⟨w.heap.size, 0, none⟩ (Nat.lt_of_lt_of_le lw4 HB5.out.size) (Ne.symm HNB.out.2.2.2)).trans ((HB5.out.cell (p := ⟨w.heap.size, 0, none⟩) lw4).trans e0))
            have e16 := (hg7.cell_far ⟨w.heap.size, 1, none⟩ lw6 (by have := HNB.out.1; simp only [ne_eq, Option.some.injEq]; omega)).trans ((HG6.out.cell_far ⟨w.heap.size, 1, none⟩ (Nat.lt_of_lt_of_le lw4 HB5.out.size) (Ne.symm HNB.out.2.2.2)).trans ((HB5.out.cell (p := ⟨w.heap.size, 1, none⟩) lw4).trans e1))
            have HT7 := Lib.hid (((HT4.out.then_below HB5.out).grown HG6.out (fun q e => .inr (.inr (.inr (.inl e))))).grown hg7 (fun q e => by cases e; exact .inl rfl))
            have lw7 := Nat.lt_of_lt_of_le lw6 hg7.size
            clear hg7 lw6 HG6 HB5 HT4 H3 e0 e1 lw4 lB tc3 te0 te1 c3
            go_wp2_with fail
            refine wp_gen ?_
            intro w7 hw7
            rw [← hw7] at H6 HT7 e06 e16 lw7
            clear hw7 c36 f36
            have c4 : w7.drew.cell? ⟨B, 4, none⟩ = some (.map (some bs)) := cell_block H6.out.blk rfl
            have e0 : w7.drew.cell? ⟨w.heap.size, 0, none⟩ = _ := e06
            have e1 : w7.drew.cell? ⟨w.heap.size, 1, none⟩ = _ := e16
            obtain ⟨w8, hrun, hs8, hg8⟩ := run_update_s (P := Tryd.prog) (w := w7.drew) Tryd.underlying47 Tryd.underlying9 H6.out.sounds k (.agg #[.int .u32 p.toNat, .int .u32 m.toNat])
            have H8 := Lib.hid ((H6.out.below (Below.refl _ w7).drew).snd hg8 hs8)
            have HT8 := Lib.hid ((HT7.out.then_below (Below.refl _ w7).drew).grown hg8 (fun q e => by cases e; exact .inr (.inl rfl)))
            have e08 := (hg8.cell_far ⟨w.heap.size, 0, none⟩ lw7 (by have := HNB.out.2.1; simp only [ne_eq, Option.some.injEq]; omega)).trans e0
            have e18 := (hg8.cell_far ⟨w.heap.size, 1, none⟩ lw7 (by have := HNB.out.2.1; simp only [ne_eq, Option.some.injEq]; omega)).trans e1
            clear hs8 hg8 H6 HT7 e06 e16
            go_wp2_with fail
            go_region
            clear hrun c4 e0 e1
            have c5 : w8.drew.cell? ⟨B, 5, none⟩ = some (.map (some by_)) := cell_block H8.out.blk rfl
            have e0 : w8.drew.cell? ⟨w.heap.size, 0, none⟩ = _ := e08
            have e1 : w8.drew.cell? ⟨w.heap.size, 1, none⟩ = _ := e18
            obtain ⟨w9, hrun, hs9, hg9⟩ := run_update_y (w := w8.drew) Tryd.underlying48 H8.out.symbols (p, m) (.string k) (by
              have := HF.out
              cases hf : fndY (p, m) (a.map fun x => (x.2, Value.string x.1)) 0 with
              | none => rfl
              | some x => rw [hf] at this; cases this)
            have hrun : (Instr.mapUpdate 48 (.map (some by_)) (.agg #[.int .u32 p.toNat, .int .u32 m.toNat]) (.string k)).run Tryd.prog w8.drew = .ok () w9 := hrun
            have H9 := Lib.hid ((H8.out.below (Below.refl _ w8).drew).sym hg9 hs9)
            have HT9 := Lib.hid ((HT8.out.then_below (Below.refl _ w8).drew).grown hg9 (fun q e => by cases e; exact .inr (.inr (.inl rfl))))
            clear hs9 hg9 H8 HT8 e08 e18
            go_wp2_with fail
            go_region
            go_wp2_with fail
            go_returns
            refine ⟨by rw [hE2]; rfl, .inr ⟨hE2, .slice (some ⟨g6, 0, none⟩) n6 c6, ?_, HT9.out⟩⟩
            have z := H9.out
            have hp := HP.out
            refine ⟨z.blk, z.names, z.feats, z.added, ?_, ?_, z.hB, z.hf, z.hs, z.hy, z.n1, z.n2, z.n3⟩
            · have := z.sounds
              rw [List.map_append]
              rw [show put k (.agg #[.int .u32 p.toNat, .int .u32 m.toNat]) (a.map fun x => (x.1, snv x.2)) = _ from hp] at this
              exact this
            · have := z.symbols
              rw [List.map_append]
              exact this)
      · have hE2 : E = 6 := by rw [← hE1, hq]; rfl
        cases q1
        · obtain rfl : q2 = true := by simpa using hq
          go_wp2_with fail
          go_returns
          exact ⟨by rw [hE2]; rfl, .inl ⟨by rw [hE2]; decide, HW4.out⟩⟩
        · go_wp2_with fail
          go_returns
          exact ⟨by rw [hE2]; rfl, .inl ⟨by rw [hE2]; decide, HW4.out⟩⟩
end Go.Proofs.YtmgikhldkebjbaaDoor

/-
  Longest: the longest symbol with which a text begins.
-/
namespace Go.Proofs.YtmgikhldkebjbaaDoor
open Go.RowKit Go.Sort
/-- The longest of a text's beginnings of 1 to n bytes that is a symbol. -/
def lonS (a : List (ByteArray × Snd)) (t : ByteArray) : Nat → Option ByteArray
  | 0 => none
  | n + 1 => if (sndOf a (t.extract 0 (n + 1))).isSome then some (t.extract 0 (n + 1)) else lonS a t n
theorem lonS_yes {a : List (ByteArray × Snd)} {t : ByteArray} {n : Nat} (hn : 0 < n) (h : (sndOf a (t.extract 0 n)).isSome = true) : lonS a t n = some (t.extract 0 n) := by
  cases n with
  | zero => omega
  | succ n => simp only [lonS]; rw [if_pos h]
theorem lonS_no {a : List (ByteArray × Snd)} {t : ByteArray} {n : Nat} (hn : 0 < n) (h : (sndOf a (t.extract 0 n)).isSome = false) : lonS a t n = lonS a t (n - 1) := by
  cases n with
  | zero => omega
  | succ n => simp only [lonS]; rw [if_neg (by rw [h]; decide)]; rfl
set_option maxRecDepth 100000 in
set_option maxHeartbeats 8000000 in
theorem longest_any {w : World} {base B : Nat} {l : List ByteArray} {a : List (ByteArray × Snd)} {nv av : Value} {bf bs by_ : Nat} (h : Inv w base B l a nv av bf bs by_) (t : ByteArray) (ht : t.size ≤ 9223372036854775807) : Gives 20 #[.pointer (some ⟨B, 0, none⟩), .string t] w (.tuple #[.string ((lonS a t (min t.size 4)).getD ⟨#[]⟩), .bool (lonS a t (min t.size 4)).isSome]) := by
  unfold Gives
  have HI := Lib.hid h
  have hB := h.lt
  clear h
  obtain ⟨M, hM⟩ : ∃ M, min t.size 4 = M := ⟨_, rfl⟩
  have hM1 : M ≤ t.size := by omega
  have hM4 : M ≤ 4 := by omega
  have hmin : min (t.size : Int) 4 = (M : Int) := by omega
  rw [hM]
  obtain ⟨R, hR⟩ : ∃ R, lonS a t M = R := ⟨_, rfl⟩
  have HR := Lib.hid hR
  rw [hR]
  clear hR hM
  go_enter Tryd.func20, Tryd.ntmps20
  go_wp2_with fail
  go_at_call 14
  refine Gives.then (valid_yes B _ HI.out.cells.1) ?_
  intro w1 hb1
  have HI1 := Lib.hid (HI.out.below hb1)
  have HW1 := Lib.hid hb1
  clear hb1 HI
  go_wp2_with fail
  go_loopw [18] (fun i wr => ∃ k : Nat, k ≤ M ∧ i = .int .i64 (k : Int) ∧ lonS a t (M - k) = R ∧ Inv wr base B l a nv av bf bs by_ ∧ Below w.heap.size w wr) (fun i _ => M - (intOf i).toNat)
  case atStart => exact ⟨0, by omega, rfl, HR.out, HI1.out, HW1.out⟩
  case round =>
    obtain ⟨k, hk, rfl, hl, hI, hw⟩ := hrel
    have HL := Lib.hid hl; have HI2 := Lib.hid hI
    clear hl hI
    by_cases hlt : k < M
    · obtain ⟨n, hn⟩ : ∃ n, M - k = n := ⟨_, rfl⟩
      have hn0 : 0 < n := by omega
      have hi : (M : Int) - (k : Int) = (n : Int) := by omega
      have hn1 : n ≤ t.size := by omega
      have HLN : Hid (lonS a t n = R) := Lib.hid (by rw [← hn]; exact HL.out)
      have HN := Lib.hid hn
      clear hn HL
      obtain ⟨x, hx⟩ : ∃ x, t.extract 0 n = x := ⟨_, rfl⟩
      have c4 := HI2.out.cells.2.2.2.2.1
      obtain ⟨s, hs⟩ : ∃ s, (sndOf a x).getD (0#32, 0#32) = s := ⟨_, rfl⟩
      have HG := Lib.hid (snd_get a x s hs)
      have HS := Lib.hid (fnd_snd x a 0).2
      rcases hq : (sndOf a x).isSome with _ | _
      · have HNO := Lib.hid ((lonS_no hn0 (by rw [hx]; exact hq)).symm.trans HLN.out)
        rw [hq] at HS
        clear hs hq
        go_wp2_with (at_lookup; refine wpList_lookup_s rfl (.tmp 30) (.tmp 31) 47 rfl Tryd.underlying47 Tryd.underlying9 (z := .agg #[.int .u32 0, .int .u32 0]) (fun _ => by kernel_rfl) bs (a.map fun x => (x.1, snv x.2)) x (.agg #[.int .u32 s.1.toNat, .int .u32 s.2.toNat]) false rfl rfl HI2.out.sounds HG.out HS.out ?_)
        have hb3 := (Below.refl _ wr).alloc (Nat.le_refl _) (.cells #[.int .u32 s.1.toNat, .int .u32 s.2.toNat] 24)
        have HI3 := Lib.hid (HI2.out.below hb3)
        have hw3 := hw.trans (hb3.mono hw.size)
        go_roundw
        case rel => exact ⟨k + 1, by omega, by go_num, by have := HNO.out; rw [← HN.out] at this; rw [← this]; rfl, HI3.out, hw3⟩
        case measure => simp [intOf]; omega
      · have HYES := Lib.hid ((lonS_yes hn0 (by rw [hx]; exact hq)).symm.trans HLN.out)
        rw [hq] at HS
        clear hs hq
        go_wp2_with (at_lookup; refine wpList_lookup_s rfl (.tmp 30) (.tmp 31) 47 rfl Tryd.underlying47 Tryd.underlying9 (z := .agg #[.int .u32 0, .int .u32 0]) (fun _ => by kernel_rfl) bs (a.map fun x => (x.1, snv x.2)) x (.agg #[.int .u32 s.1.toNat, .int .u32 s.2.toNat]) true rfl rfl HI2.out.sounds HG.out HS.out ?_)
        have hb3 := (Below.refl _ wr).alloc (Nat.le_refl _) (.cells #[.int .u32 s.1.toNat, .int .u32 s.2.toNat] 24)
        have hw3 := hw.trans (hb3.mono hw.size)
        go_ret2
        exact ⟨by rw [← HYES.out, hx]; rfl, hw3⟩
    · obtain rfl : k = M := by omega
      have HNO : Hid (none = R) := Lib.hid (by have := HL.out; rwa [Nat.sub_self] at this)
      go_wp2_with fail
      go_ret2
      exact ⟨by rw [← HNO.out]; rfl, hw⟩
end Go.Proofs.YtmgikhldkebjbaaDoor
