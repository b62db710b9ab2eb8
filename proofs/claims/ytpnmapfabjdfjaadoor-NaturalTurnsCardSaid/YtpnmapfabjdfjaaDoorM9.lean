/-
  Lemmas that the theorem of this claim rests on: 4 texts, one behind the other.
-/
import Derived.Maps.RangeWalk
import Derived.Sort.MapsRangeIn
import Derived.Test.YtpnmapfabjdfjaaDoorM8
import Derived.RangeFuncNested
import Derived.RangeFuncBound
import Derived.RangeFuncCalls
import Derived.RangeFuncLeaves
import Derived.RangeFuncFrom
import Derived.Shelf.Abstract
import Derived.Shelf.RegionOpen
import Derived.OwnWalkIn
import Derived.TacticsInMore
import Derived.LoopNIn
import Derived.LoopIn
set_option linter.unusedSimpArgs false
set_option linter.unusedVariables false

/-
  Ranging over a set in a map, in whatever order.
-/
namespace Go.Proofs.YtpnmapfabjdfjaaDoor
open Go.RowKit Go.Sort
open Go.ChangeMaps (setBlock)
open Go.MapKept (heap_set)
theorem nodup_at {α : Type} {l : List α} (h : l.Nodup) {i j : Nat} (hi : i < l.length) (hj : j < l.length) (e : l[i] = l[j]) : i = j := by
  have hp := List.pairwise_iff_getElem.1 h
  rcases Nat.lt_trichotomy i j with hlt | rfl | hlt
  · exact absurd e (hp i j hi hj hlt)
  · rfl
  · exact absurd e.symm (hp j i hj hi hlt)
section
variable {K : Type} {enc : K → Value} [DecidableEq K]
/-- Block b is a set, block r an iterator over it that has handed out some keys. -/
def KRng (enc : K → Value) (w : World) (b r : Nat) (ks done : List K) : Prop := ∃ es n since seen c0, w.heap[b]? = some (.map es n) ∧ es.toList.map (fun e => (e.key, e.val)) = ks.map (fun k => (enc k, Value.bool true)) ∧ KSt es n ∧
  w.heap[r]? = some (.mapIter (some b) since seen c0) ∧ (∀ x ∈ es.toList, x.born < since) ∧ since ≤ c0 ∧ since ≤ n ∧
  (∀ i (h : i < es.size) (h' : i < ks.length), seen.contains es[i].born = decide (ks[i] ∈ done)) ∧ done.Nodup ∧ (∀ k ∈ done, k ∈ ks)
theorem KRng.map {w : World} {b r : Nat} {ks done : List K} (h : KRng enc w b r ks done) : KMap enc w b ks := by
  obtain ⟨es, n, since, seen, c0, h1, h2, h3, _⟩ := h
  exact ⟨es, n, h1, h2, h3⟩
theorem KRng.lt {w : World} {b r : Nat} {ks done : List K} (h : KRng enc w b r ks done) : b < w.heap.size ∧ r < w.heap.size := by
  obtain ⟨es, n, since, seen, c0, h1, h2, h3, h4, _⟩ := h
  exact ⟨(Array.getElem?_eq_some_iff.1 h1).1, (Array.getElem?_eq_some_iff.1 h4).1⟩
theorem KRng.kept {w w' : World} {b r : Nat} {ks done : List K} (h : KRng enc w b r ks done) (hb : w'.heap[b]? = w.heap[b]?) (hr : w'.heap[r]? = w.heap[r]?) : KRng enc w' b r ks done := by
  obtain ⟨es, n, since, seen, c0, h1, h2, h3, h4, h5⟩ := h
  exact ⟨es, n, since, seen, c0, hb.trans h1, h2, h3, hr.trans h4, h5⟩
theorem left_kept {w w' : World} {b r : Nat} (hb : w'.heap[b]? = w.heap[b]?) (hr : w'.heap[r]? = w.heap[r]?) : w'.rangeLeft b r = w.rangeLeft b r := by
  unfold World.rangeLeft
  rw [hb, hr]
theorem KMap.range {t T E : TypeId} (hT : Tryd.prog.underlying t = some (.map T E)) {w : World} {b : Nat} {ks : List K} (h : KMap enc w b ks) :
    ∃ w', (Instr.range t (.map (some b))).run Tryd.prog w = .ok (.pointer (some ⟨w.heap.size, 0, none⟩)) w' ∧ KRng enc w' b w.heap.size ks [] ∧ w.grownBy w' none ∧ w'.heap.size = w.heap.size + 1 := by
  have hlt := h.lt
  obtain ⟨es, n, hh, hl, hst⟩ := h
  refine ⟨_, run_range_map w t T E b es n hT hh, ⟨es, n, n, #[], n, ?_, hl, hst, World.alloc_heap_new w _, hst.1, Nat.le_refl _, Nat.le_refl _, fun i h h' => by simp, List.nodup_nil, fun k hk => by simp at hk⟩, World.grownBy_alloc w _ none, World.size_alloc _ _⟩
  exact (Below.heap_alloc w _ b hlt).trans hh
theorem KRng.next {w : World} {b r : Nat} {ks done : List K} (h : KRng enc w b r ks done) (hn : ks.Nodup) (ty : TypeId) :
    ((∀ k ∈ ks, k ∈ done) ∧ (Instr.next (.pointer (some ⟨r, 0, none⟩)) false ty).run Tryd.prog w = .ok (.tuple #[.bool false]) w) ∨
    ∃ k w', k ∈ ks ∧ k ∉ done ∧ (Instr.next (.pointer (some ⟨r, 0, none⟩)) false ty).run Tryd.prog w = .ok (.tuple #[.bool true, enc k, .bool true]) w' ∧ KRng enc w' b r ks (done ++ [k]) ∧ w'.rangeLeft b r < w.rangeLeft b r ∧ w.grownBy w' (some r) ∧ w'.heap.size = w.heap.size ∧
      (Instr.entry (.pointer (some ⟨r, 0, none⟩))).run Tryd.prog w' = .ok (.tuple #[enc k, .bool true]) w' := by
  obtain ⟨es, n, since, seen, c0, hb, hl, hst, hr, hold, hsc, hsn, hsd, hdn, hdk⟩ := h
  have hlen : es.size = ks.length := by have := congrArg List.length hl; simpa using this
  have hat : ∀ i (h : i < es.size) (h' : i < ks.length), es[i].key = enc ks[i] ∧ es[i].val = .bool true := fun i h h' => by
    have e := congrArg (fun z => z[i]?) hl
    simp only [List.getElem?_map, Array.getElem?_toList, Array.getElem?_eq_getElem h, List.getElem?_eq_getElem h', Option.map_some, Option.some.injEq] at e
    exact ⟨(Prod.mk.inj e).1, (Prod.mk.inj e).2⟩
  have hne : r ≠ b := by
    intro e
    rw [e, hb] at hr
    cases hr
  rcases run_next_at (P := Tryd.prog) w ty r b since c0 seen es n hr hb hold hsc with ⟨h0, hrun⟩ | ⟨e, he, w1, hal, hrun⟩
  · refine .inl ⟨fun k hk => ?_, hrun⟩
    obtain ⟨i, hi, rfl⟩ := List.getElem_of_mem hk
    have hi' : i < es.size := by omega
    have h1 := all_seen es seen h0 es[i] (by simp)
    rw [hsd i hi' hi] at h1
    exact of_decide_eq_true h1
  · obtain ⟨hem, hes⟩ := mem_left he
    obtain ⟨j, hj0, rfl⟩ := List.getElem_of_mem hem
    have hj : j < es.size := by simpa using hj0
    simp only [Array.getElem_toList] at hem hes hrun he ⊢
    have hj' : j < ks.length := by omega
    obtain ⟨hkey, hval⟩ := hat j hj hj'
    have hr1 : w1.heap[r]? = some (.mapIter (some b) since seen c0) := by rcases hal with rfl | rfl <;> exact hr
    have hb1 : w1.heap[b]? = some (.map es n) := by rcases hal with rfl | rfl <;> exact hb
    have hset := heap_set (o' := .mapIter (some b) since (seen.push es[j].born) n) hr1
    have hb' : (setBlock w1 r (.mapIter (some b) since (seen.push es[j].born) n)).heap[b]? = some (.map es n) := (hset.2 b (fun e1 => hne e1.symm)).trans hb1
    have hnd : ks[j] ∉ done := by
      have h1 := hsd j hj hj'
      rw [hes] at h1
      exact of_decide_eq_false h1.symm
    have hen := run_entry_at (P := Tryd.prog) _ r b since seen es n es[j] hset.1 hb' hem hst.2
    rw [hkey, hval] at hrun hen
    refine .inr ⟨ks[j], _, List.getElem_mem _, hnd, hrun, ⟨es, n, since, seen.push es[j].born, n, hb', hl, hst, hset.1, hold, hsn, hsn, fun i hi hi' => ?_, ?_, fun k hk => ?_⟩, ?_, ?_, ?_, hen⟩
    · rw [contains_push, hsd i hi hi']
      by_cases e : i = j
      · subst e
        simp
      · have e1 : (es[i].born == es[j].born) = false := by
          rw [beq_eq_false_iff_ne]
          intro hc
          exact e (nodup_at hst.2 (i := i) (j := j) (by simpa using hi) (by simpa using hj) (by simpa using hc))
        have e2 : ks[i] ≠ ks[j] := fun hc => e (nodup_at hn hi' hj' hc)
        rw [e1, Bool.or_false]
        simp [e2]
    · rw [List.nodup_append]
      exact ⟨hdn, by simp, fun x hx y hy => by rw [List.mem_singleton] at hy; subst hy; exact fun e => hnd (e ▸ hx)⟩
    · rcases List.mem_append.1 hk with hk | hk
      · exact hdk k hk
      · rw [List.mem_singleton] at hk
        subst hk
        exact List.getElem_mem _
    · have e1 : w.rangeLeft b r = (leftOf es seen).size := by simp only [World.rangeLeft, hb, hr]
      have hr' : (setBlock w1 r (.mapIter (some b) since (seen.push es[j].born) n)).heap[r]? = some (.mapIter (some b) since (seen.push es[j].born) n) := hset.1
      have e2 : (setBlock w1 r (.mapIter (some b) since (seen.push es[j].born) n)).rangeLeft b r = (leftOf es (seen.push es[j].born)).size := by simp only [World.rangeLeft, hb', hr']
      rw [e1, e2]
      exact left_shrinks es seen es[j] he
    · rcases hal with rfl | rfl <;> exact ⟨rfl, rfl, rfl, by simp [setBlock], fun i _ hi => hset.2 i (fun e1 => hi (by rw [e1]))⟩
    · rcases hal with rfl | rfl <;> simp [setBlock]
/-- All have come. -/
theorem KRng.all {w : World} {b r : Nat} {ks done : List K} (h : KRng enc w b r ks done) (hd : ∀ k ∈ ks, k ∈ done) : done.Nodup ∧ ∀ k, k ∈ done ↔ k ∈ ks := by
  obtain ⟨es, n, since, seen, c0, hb, hl, hst, hr, hold, hsc, hsn, hsd, hdn, hdk⟩ := h
  exact ⟨hdn, fun k => ⟨hdk k, hd k⟩⟩
theorem KRng.done {w : World} {b r : Nat} {ks done : List K} (h : KRng enc w b r ks done) : done.Nodup ∧ ∀ k ∈ done, k ∈ ks := by
  obtain ⟨es, n, since, seen, c0, hb, hl, hst, hr, hold, hsc, hsn, hsd, hdn, hdk⟩ := h
  exact ⟨hdn, hdk⟩
variable {ops : Array Oper} {rest : List Oper} {o : Oper} {a : Act} {w : World} {Q : Exit → Act → World → Prop}
theorem wpList_range_k (hg : o.guard = none) (m : Operand) (t : TypeId) (hop : o.op = Op.range t m) {T E : TypeId} (hT : Tryd.prog.underlying t = some (.map T E)) (b : Nat) (ks : List K) (hm : a.eval m = .map (some b)) (h : KMap enc w b ks)
    (hK : ∀ w', KRng enc w' b w.heap.size ks [] → w.grownBy w' none → w'.heap.size = w.heap.size + 1 → wpList Tryd.prog ops Q rest (a.put o.dst (.pointer (some ⟨w.heap.size, 0, none⟩))) w') :
    wpList Tryd.prog ops Q (o :: rest) a w := by
  refine wpList_plain hg fun K' hK' => ?_
  obtain ⟨w', hrun, r1, r2, r3⟩ := h.range hT
  unfold Oper.wp
  simp [execOp, hop, hm, hrun, Result.andThen]
  exact hK' _ _ (hK w' r1 r2 r3)
theorem wpList_next_k (hg : o.guard = none) (it : Operand) (hop : o.op = Op.next it false) (b r : Nat) (ks done : List K) (hit : a.eval it = .pointer (some ⟨r, 0, none⟩)) (h : KRng enc w b r ks done) (hn : ks.Nodup)
    (hDone : (∀ k ∈ ks, k ∈ done) → wpList Tryd.prog ops Q rest (a.put o.dst (.tuple #[.bool false])) w)
    (hMore : ∀ (k : K) (w' : World), k ∈ ks → k ∉ done → KRng enc w' b r ks (done ++ [k]) → w'.rangeLeft b r < w.rangeLeft b r → w.grownBy w' (some r) → w'.heap.size = w.heap.size → (Instr.entry (.pointer (some ⟨r, 0, none⟩))).run Tryd.prog w' = .ok (.tuple #[enc k, .bool true]) w' → wpList Tryd.prog ops Q rest (a.put o.dst (.tuple #[.bool true, enc k, .bool true])) w') :
    wpList Tryd.prog ops Q (o :: rest) a w := by
  refine wpList_plain hg fun K' hK' => ?_
  unfold Oper.wp
  rcases h.next hn o.type with ⟨h0, hrun⟩ | ⟨k, w', h1, h2, hrun, hrg, hlt, hgr, hsz, hen⟩
  · simp [execOp, hop, hit, hrun, Result.andThen]
    exact hK' _ _ (hDone h0)
  · simp [execOp, hop, hit, hrun, Result.andThen]
    exact hK' _ _ (hMore k w' h1 h2 hrg hlt hgr hsz hen)
variable {F : Fence} {n : Nat}
theorem wpListIn_range_k (hg : o.guard = none) (m : Operand) (t : TypeId) (hop : o.op = Op.range t m) {T E : TypeId} (hT : Tryd.prog.underlying t = some (.map T E)) (b : Nat) (ks : List K) (hm : a.eval m = .map (some b)) (h : KMap enc w b ks)
    (hK : ∀ w', KRng enc w' b w.heap.size ks [] → w.grownBy w' none → w'.heap.size = w.heap.size + 1 → wpListIn F n Tryd.prog ops Q rest (a.put o.dst (.pointer (some ⟨w.heap.size, 0, none⟩))) w') :
    wpListIn F n Tryd.prog ops Q (o :: rest) a w := by
  refine wpListIn_plain hg fun K' hK' => ?_
  obtain ⟨w', hrun, r1, r2, r3⟩ := h.range hT
  unfold Oper.wpIn
  refine ⟨?_, ?_⟩
  · simp [Oper.about, hop]
  · rw [Oper.semAt_plain F _ _ (by rw [hop]; intro c hc'; cases hc')]
    simp [execOp, hop, hm, hrun, Result.andThen]
    exact hK' _ _ (hK w' r1 r2 r3)
theorem wpListIn_next_k (hg : o.guard = none) (it : Operand) (hop : o.op = Op.next it false) (b r : Nat) (ks done : List K) (hit : a.eval it = .pointer (some ⟨r, 0, none⟩)) (h : KRng enc w b r ks done) (hn : ks.Nodup)
    (hDone : (∀ k ∈ ks, k ∈ done) → wpListIn F n Tryd.prog ops Q rest (a.put o.dst (.tuple #[.bool false])) w)
    (hMore : ∀ (k : K) (w' : World), k ∈ ks → k ∉ done → KRng enc w' b r ks (done ++ [k]) → w'.rangeLeft b r < w.rangeLeft b r → w.grownBy w' (some r) → w'.heap.size = w.heap.size → (Instr.entry (.pointer (some ⟨r, 0, none⟩))).run Tryd.prog w' = .ok (.tuple #[enc k, .bool true]) w' → wpListIn F n Tryd.prog ops Q rest (a.put o.dst (.tuple #[.bool true, enc k, .bool true])) w') :
    wpListIn F n Tryd.prog ops Q (o :: rest) a w := by
  refine wpListIn_plain hg fun K' hK' => ?_
  unfold Oper.wpIn
  refine ⟨by simp [Oper.about, hop], ?_⟩
  rw [Oper.semAt_plain F _ _ (by rw [hop]; intro c hc'; cases hc')]
  rcases h.next hn o.type with ⟨h0, hrun⟩ | ⟨k, w', h1, h2, hrun, hrg, hlt, hgr, hsz, hen⟩
  · simp [execOp, hop, hit, hrun, Result.andThen]
    exact hK' _ _ (hDone h0)
  · simp [execOp, hop, hit, hrun, Result.andThen]
    exact hK' _ _ (hMore k w' h1 h2 hrg hlt hgr hsz hen)
end
end Go.Proofs.YtpnmapfabjdfjaaDoor

/-
  The shortest condition, as the program looks for it (pure).
-/
namespace Go.Proofs.YtpnmapfabjdfjaaDoor
open Go.RowKit Go.Sort
/-- The sounds that do not satisfy a condition. -/
def othL (l : List Snd) (c : Snd) : List Snd := l.filter fun x => !sat x c
def zC : Cr := (0#64, 0#64, 0#64, 0#64)
/-- The others that satisfy a value. -/
def thr (o : List Snd) (v : Snd) : Cr := crT (msL v o 0)
/-- The others that satisfy all values of a list. -/
def bhd (o : List Snd) : List Snd → Cr
  | [] => crT (msL (0#32, 0#32) o 0)
  | v :: vs => meC (thr o v) (bhd o vs)
def uniS (a b : Snd) : Snd := (a.1 ||| b.1, a.2 ||| b.2)
/-- The search among the values from one on, one more at least. -/
def srL (o : List Snd) : List Snd → Nat → Cr → Option Snd
  | [], _, _ => none
  | v :: vs, m, left => if meC left (bhd o (v :: vs)) = zC then
      match (if meC left (thr o v) = zC then some (0#32, 0#32) else if m - 1 = 0 then none else srL o vs (m - 1) (meC left (thr o v))) with
      | some r => some (uniS v r)
      | none => srL o vs m left
    else none
/-- The search. -/
def srch (o : List Snd) (vs : List Snd) (m : Nat) (left : Cr) : Option Snd := if left = zC then some (0#32, 0#32) else if m = 0 then none else srL o vs m left
theorem srL_cons (o : List Snd) (v : Snd) (vs : List Snd) (m : Nat) (left : Cr) : srL o (v :: vs) m left = if meC left (bhd o (v :: vs)) = zC then
      match srch o vs (m - 1) (meC left (thr o v)) with
      | some r => some (uniS v r)
      | none => srL o vs m left
    else none := by
  conv => lhs; unfold srL
  rfl
/-- All values are values of a condition. -/
def sub (r c : Snd) : Prop := r.1 &&& c.1 = r.1 ∧ r.2 &&& c.2 = r.2
theorem or_sub {a b c : BitVec 32} (h1 : a &&& c = a) (h2 : b &&& c = b) : (a ||| b) &&& c = a ||| b := by
  rw [BitVec.and_comm, BitVec.and_or_distrib_left, BitVec.and_comm c a, BitVec.and_comm c b, h1, h2]
theorem uni_sub {a b c : Snd} (h1 : sub a c) (h2 : sub b c) : sub (uniS a b) c := ⟨or_sub h1.1 h2.1, or_sub h1.2 h2.2⟩
theorem zero_sub (c : Snd) : sub (0#32, 0#32) c := ⟨by simp, by simp⟩
theorem sub_vld {r c : Snd} (h : sub r c) (hc : vld c.1 c.2 = true) : vld r.1 r.2 = true := by
  have := vld_and (q := r.1) (n := r.2) hc
  rwa [BitVec.and_comm, h.1, BitVec.and_comm, h.2] at this
theorem srL_sub (o : List Snd) (c : Snd) : ∀ (vs : List Snd), (∀ v ∈ vs, sub v c) → ∀ m left r, srL o vs m left = some r → sub r c
  | [], _, _, _, _, h => by simp [srL] at h
  | v :: vs, hv, m, left, r, h => by
    have hv1 := hv v (List.mem_cons_self ..)
    have hv2 : ∀ u ∈ vs, sub u c := fun u hu => hv u (List.mem_cons_of_mem _ hu)
    rw [srL_cons] at h
    by_cases hz : meC left (bhd o (v :: vs)) = zC
    · rw [if_pos hz] at h
      cases hs : srch o vs (m - 1) (meC left (thr o v)) with
      | none =>
        rw [hs] at h
        exact srL_sub o c vs hv2 m left r h
      | some x =>
        rw [hs] at h
        obtain rfl := Option.some.inj h
        refine uni_sub hv1 ?_
        unfold srch at hs
        split at hs
        · obtain rfl := Option.some.inj hs
          exact zero_sub c
        · split at hs
          · cases hs
          · exact srL_sub o c vs hv2 _ _ _ hs
    · rw [if_neg hz] at h
      cases h
theorem srch_sub {o : List Snd} {c : Snd} {vs : List Snd} (hv : ∀ v ∈ vs, sub v c) {m : Nat} {left : Cr} {r : Snd} (hs : srch o vs m left = some r) : sub r c := by
  unfold srch at hs
  split at hs
  · obtain rfl := Option.some.inj hs
    exact zero_sub c
  · split at hs
    · cases hs
    · exact srL_sub o c vs hv _ _ _ hs
theorem one_sub (c : Snd) (k : Nat) : sub (oneV c k) c := by
  refine ⟨?_, ?_⟩
  · show (c.1 &&& _) &&& c.1 = _
    rw [BitVec.and_comm (c.1 &&& _) c.1, ← BitVec.and_assoc, BitVec.and_self]; rfl
  · show (c.2 &&& _) &&& c.2 = _
    rw [BitVec.and_comm (c.2 &&& _) c.2, ← BitVec.and_assoc, BitVec.and_self]; rfl
theorem sgL_sub (c : Snd) : ∀ k, ∀ v ∈ sgL c k, sub v c
  | 0, v, h => by simp [sgL] at h
  | k + 1, v, h => by
    unfold sgL at h
    rcases List.mem_append.1 h with h | h
    · exact sgL_sub c k v h
    · split at h
      · simp at h
      · rw [List.mem_singleton] at h
        subst h
        exact one_sub c k
/-- The shortest condition that the program finds. -/
def shS (l : List Snd) (c : Snd) : Snd := ((List.range (sgL c 24).length).findSome? fun n => srch (othL l c) (sgL c 24) n (bhd (othL l c) [])).getD c
end Go.Proofs.YtpnmapfabjdfjaaDoor

/-
  The keys of a set of sounds, collected: maps.Keys, slices.AppendSeq, slices.Collect.
-/
namespace Go.Proofs.YtpnmapfabjdfjaaDoor
open Go.RowKit Go.Shelf Go.Sort
attribute [local go_sem] Oper.semAt_some
theorem wpIn_gen {F : Fence} {k : Nat} {P : Program} {c : Code} {Q : Exit → Act → World → Prop} {a : Act} {W : World} (h : ∀ W1, W1 = W → c.wpIn F k P Q a W1) : c.wpIn F k P Q a W := h W rfl
theorem sndY_key : ∃ u, KeyOk (K := Snd) 27 u snv := by
  refine ⟨_, ⟨Tryd.underlying27, fun e k w => by kernel_rfl, fun a b w => ?_, fun k => same_snv k, fun k es => ?_⟩⟩
  · exact snv_eq a b w
  · cases es with
    | nil => exact .inl ⟨rfl, rfl⟩
    | cons e es => exact .inr rfl
theorem len_lt_of_new {K : Type} {ks done : List K} {k : K} (hn : done.Nodup) (hs : ∀ x ∈ done, x ∈ ks) (hk : k ∈ ks) (hd : k ∉ done) : done.length < ks.length := by
  have h : (done ++ [k]).length ≤ ks.length := List.Nodup.length_le_of_subset (by
    rw [List.nodup_append]
    exact ⟨hn, by simp, fun x hx y hy => by rw [List.mem_singleton] at hy; subst hy; exact fun e => hd (e ▸ hx)⟩) (by
    intro x hx
    rcases List.mem_append.1 hx with hx | hx
    · exact hs x hx
    · rw [List.mem_singleton] at hx; subst hx; exact hk)
  simp at h
  omega
theorem KRng.walks {K : Type} {enc : K → Value} [DecidableEq K] {w w' : World} {b r : Nat} {ks done : List K} (h : KRng enc w b r ks done) (k : KeepsWalks w w') : KRng enc w' b r ks done ∧ w'.rangeLeft b r = w.rangeLeft b r := by
  obtain ⟨es, n, since, seen, c0, h1, h2, h3, h4, h5⟩ := h
  have e1 := k.same b _ h1 rfl
  have e2 := k.same r _ h4 rfl
  exact ⟨⟨es, n, since, seen, c0, e1, h2, h3, e2, h5⟩, left_kept (e1.trans h1.symm) (e2.trans h4.symm)⟩
set_option maxRecDepth 100000 in
set_option maxHeartbeats 1000000 in
/-- The iterator: each key, in some order. -/
theorem keys_in (n : Nat) (hn : 1 ≤ n) (lid Bm b : Nat) (ks : List Snd) (hks : ks.Nodup) (J Jx : List Snd → World → Prop) (W : World) (hJ : AbidesFrom W.heap.size J)
    (hY : ∀ pre x W1, J pre W1 → pre.length < ks.length → YieldAt Fence.wide (n - 1) Tryd.prog lid #[snv x] W1 fun e W' =>
      (e = .returned (.bool true) ∧ J (pre ++ [x]) W' ∧ KeepsWalks W1 W') ∨ (e = .returned (.bool false) ∧ Jx (pre ++ [x]) W'))
    (hBm : W.cell? ⟨Bm, 0, none⟩ = some (.map (some b))) (hm : KMap snv W b ks) (h0 : J [] W) :
    CallsIn Fence.wide n Tryd.prog 96 #[.func (.yield lid) #[] #[], .pointer (some ⟨Bm, 0, none⟩)] W fun e W' => (∃ v, e = .returned v) ∧
      ((∃ ys, (ys.Nodup ∧ ∀ k, k ∈ ys ↔ k ∈ ks) ∧ J ys W') ∨ (∃ pre, True ∧ Jx pre W')) := by
  refine callsIn_of_wp Tryd.func96 rfl trivial ?_ rfl
  simp only [Tryd.ntmps96, List.size_toArray, List.length_cons, List.length_nil, Nat.reduceAdd, Nat.reduceSub, Array.replicate_succ, Array.replicate_zero, List.push_toArray, List.append_toArray, List.nil_append, List.cons_append]
  have hrow : ∀ (w0 : World), W.grownBy w0 none → J [] w0 := fun w0 hg => hJ [] W w0 none h0 hg (fun r e => by cases e)
  gi_wp2_with (first
    | (gi_at_range; refine wpListIn_range_k (enc := snv) rfl (.tmp 4) 71 rfl Tryd.underlying71 b ks rfl hm ?_; intro w0 hrg0 hg0 hs0)
    | gi_in)
  go_frame
  gi_loopw [6] (fun _ wr => ∃ done : List Snd, KRng snv wr b W.heap.size ks done ∧ J done wr ∧ W.heap.size < wr.heap.size) (fun _ wr => wr.rangeLeft b W.heap.size)
  case atStart => exact ⟨[], hrg0, hrow w0 hg0, by omega⟩
  case round =>
    obtain ⟨done, hrg, hJd, hzz⟩ := hrel
    gi_wp2_with (first
      | (gi_at_next; refine wpListIn_next_k (enc := snv) rfl (.tmp 5) rfl b W.heap.size ks done rfl hrg hks ?_ ?_)
      | gi_in)
    · intro hall
      gi_wp2
      go_end0
      exact ⟨⟨_, rfl⟩, .inl ⟨done, hrg.all (fun k hk => hall k.1 k.2 hk), hJd⟩⟩
    · intro x1 x2 w2 hx hxd hrg2 hlt hg2 hs2 hen
      have hJ2 : J done w2 := hJ done wr w2 (some W.heap.size) hJd hg2 (fun r e => by
        cases e
        obtain ⟨es, nn, since, seen, c0, h1, h2, h3, h4, h5⟩ := hrg
        exact ⟨Nat.le_refl _, _, h4, rfl⟩)
      have hdl := len_lt_of_new hrg.done.1 hrg.done.2 hx hxd
      have hJ3 : J done (w2.alloc (.cells #[.int .u32 (x1.toNat : Int), .int .u32 (x2.toNat : Int)] 27)) := hJ done w2 _ none hJ2 (World.grownBy_alloc w2 _ none) (fun r e => by cases e)
      have hrg3 := (hrg2.walks (KeepsWalks.alloc w2 (.cells #[.int .u32 (x1.toNat : Int), .int .u32 (x2.toNat : Int)] 27)))
      obtain ⟨fn, tmps, assign, body, hy, hR⟩ := hY done (x1, x2) _ hJ3 hdl
      unfold snv at hy hen
      simp only at hy hen
      have HR := Lib.hid hR; have HRG := Lib.hid hrg3; have HLT := Lib.hid hlt; have HZ := Lib.hid (show W.heap.size < (w2.alloc (.cells #[.int .u32 (x1.toNat : Int), .int .u32 (x2.toNat : Int)] 27)).heap.size by rw [World.size_alloc, hs2]; omega)
      unfold snv
      simp only
      clear hR hrg3 hrg2 hJ3 hJ2 hJd hrg hx hxd hdl hlt hg2 hs2 hrow hzz hg0 hrg0 hm h0 hY hJ
      gi_wp2
      refine HR.out.mono ?_
      rintro e W3 (⟨rfl, hJ4, hk4⟩ | ⟨rfl, hJx4⟩)
      · have h5 := HRG.out.1.walks hk4
        have h6 := HRG.out.2
        have h7 := HZ.out
        have h8 := HLT.out
        gi_wp2
        go_roundw
        case rel => exact ⟨done ++ [(x1, x2)], h5.1, hJ4, Nat.lt_of_lt_of_le h7 hk4.size⟩
        case measure => rw [h5.2, h6]; exact h8
      · gi_wp2
        refine bodyPost_ret (results_none rfl _ _ _) rfl ?_
        exact ⟨⟨_, rfl⟩, .inr ⟨_, trivial, hJx4⟩⟩
set_option maxHeartbeats 400000 in
theorem keys_any (b : Nat) (w : World) :
    Calls Tryd.prog 64 #[.map (some b)] w fun e w' => e = .returned (.func (.func 96) #[] #[.pointer (some ⟨w.heap.size, 0, none⟩)]) ∧ w' = w.alloc (.cells #[.map (some b)] 71) := by
  go_enter Tryd.func64, Tryd.ntmps64
  go_wp2
  go_returns
  exact ⟨rfl, rfl⟩
end Go.Proofs.YtpnmapfabjdfjaaDoor

/-
  The keys of a set of sounds in a slice: slices.AppendSeq, slices.Collect.
-/
namespace Go.Proofs.YtpnmapfabjdfjaaDoor
open Go.RowKit Go.Shelf Go.Sort
attribute [local go_sem] Oper.semAt_some
theorem ownsRow_slice {w : World} {base e size n : Nat} {v : Value} {xs : List Value} (h : w.ownsRow base e size v n xs) : ∃ ao cap, v = .slice ao n cap := by
  obtain ⟨_, ⟨rfl, h0⟩ | ⟨g, cap, cur, rfl, _⟩⟩ := h
  · exact ⟨none, 0, by rw [h0]⟩
  · exact ⟨_, cap, rfl⟩
/-- A cell, and its mark, behind an append to another row. -/
theorem grown_cell {W W3 : World} {O : Obj} {row : Option Nat} {b : Nat} {v : Value} (hg : (W.alloc O).grownBy W3 row) (hb : b < W.heap.size) (hr : ∀ k, row = some k → b + 1 ≤ k) (ec : W.cell? ⟨b, 0, none⟩ = some v) (ef : W.frozen? ⟨b, 0, none⟩ = false) : W3.cell? ⟨b, 0, none⟩ = some v ∧ W3.frozen? ⟨b, 0, none⟩ = false := by
  have hblk : W3.heap[b]? = W.heap[b]? := (hg.block b (by rw [World.size_alloc]; omega) (fun e => by have := hr b e.symm; omega)).trans (Below.heap_alloc W O b hb)
  exact ⟨(World.cell?_of_block hblk).trans ec, (World.frozen?_of_block hblk).trans ef⟩
theorem ownsRow_block {w : World} {base e size n : Nat} {v : Value} {xs : List Value} (h : w.ownsRow base e size v n xs) (k : Nat) (hk : v.ownBlock = some k) : base ≤ k ∧ ∃ o : Obj, w.heap[k]? = some o ∧ o.isCells = true := by
  obtain ⟨hl, ⟨rfl, h0⟩ | ⟨g, cap, cur, rfl, hg, hh, hr⟩⟩ := h
  · cases hk
  · cases hk; exact ⟨hg, _, hh, rfl⟩
/-- What has been collected. -/
def Got (Bs base : Nat) (pre : List Snd) (W : World) : Prop := ∃ v, W.cell? ⟨Bs, 0, none⟩ = some v ∧ W.frozen? ⟨Bs, 0, none⟩ = false ∧ Own W base v pre
theorem Got.from (Bs base B : Nat) : OwnFrom B (Got Bs base) := by
  rintro pre W W' row ⟨v, h1, h2, h3⟩ hg hr
  refine ⟨v, cell_kept h1 hg (fun r e => (hr r e).2), (frozen_kept h1 hg (fun r e => (hr r e).2)).trans h2, World.ownsRow.kept h3 hg ?_⟩
  rcases hb : v.ownBlock with _ | k
  · exact .inl rfl
  · refine .inr fun e => ?_
    obtain ⟨_, o, ho, hc⟩ := ownsRow_block h3 k hb
    obtain ⟨_, o', ho', hc'⟩ := hr k e.symm
    rw [ho] at ho'; cases ho'
    rw [hc] at hc'; cases hc'
theorem walks_of_others {A B : World} (h : KeepsOthers A B) : KeepsWalks A B := ⟨h.size, fun k o hk ho => h.same k o hk (by cases o <;> first | rfl | (simp [Obj.isWalk] at ho))⟩
set_option maxHeartbeats 4000000 in
set_option maxRecDepth 100000 in
theorem appendSeq_any (ks : List Snd) (hks : ks.Nodup) (b Bm : Nat) (hl : ks.length ≤ 1000000000) (w : World) (hBm : w.cell? ⟨Bm, 0, none⟩ = some (.map (some b))) (hm : KMap snv w b ks) :
    Calls Tryd.prog 105 #[.slice none 0 0, .func (.func 96) #[] #[.pointer (some ⟨Bm, 0, none⟩)]] w fun e w' => ∃ v ys, e = .returned v ∧ ys.Nodup ∧ (∀ k, k ∈ ys ↔ k ∈ ks) ∧ Own w' w.heap.size v ys ∧ Below w.heap.size w w' := by
  have HBM := Lib.hid hBm; have HM := Lib.hid hm
  have hlt : Bm < w.heap.size := World.block_lt_of_cell? _ _ hBm
  clear hBm hm
  refine (callsIn_wide (n := 5)).1 ?_
  refine callsIn_of_wp_marks Tryd.func105 rfl trivial ?_ rfl
  simp only [Tryd.ntmps105, List.size_toArray, List.length_cons, List.length_nil, Nat.reduceAdd, Nat.reduceSub, Array.replicate_succ, Array.replicate_zero, List.push_toArray, List.append_toArray, List.nil_append, List.cons_append]
  gi_wp2_with fail
  refine wpIn_gen ?_
  intro W1 hW1
  have hB1 : Below w.heap.size w W1 := by rw [hW1]; go_grown
  have hz1 : W1.heap.size = w.heap.size + 1 := by rw [hW1, World.size_alloc]
  have hG0 : Got w.heap.size (w.heap.size + 1) [] W1 := by
    rw [hW1]
    exact ⟨.slice none 0 0, cell_block (World.alloc_heap_new w _) rfl, frozen_block (World.alloc_heap_new w _), rfl, .inl ⟨rfl, rfl⟩⟩
  clear hW1
  refine wpIn_rangeFunc_ownH (α := Snd) rfl (by decide) (gf := 96) (lb := #[.pointer (some ⟨Bm, 0, none⟩)]) rfl trivial (enters_of Tryd.func96 (by kernel_rfl) rfl)
    (encs := fun x => #[snv x]) (S := fun ys => ys.Nodup ∧ ∀ k, k ∈ ys ↔ k ∈ ks) (Sp := fun _ => True) (N := ks.length) (w0 := W1) (Kp := KeepsWalks)
    (fun lid J Jx W hW hA _ hY h0 => keys_in _ (by decide) lid Bm b ks hks J Jx W hA hY ((hW.cell (p := ⟨Bm, 0, none⟩) (by simp only []; omega)).trans ((hB1.cell (p := ⟨Bm, 0, none⟩) hlt).trans HBM.out)) ((HM.out.below hB1).below hW) h0)
    walksK_t walksK_b (Below.refl _ _) (fun _ => rfl)
    (fun pre W => Got w.heap.size (w.heap.size + 1) pre W ∧ Below w.heap.size w W)
    (fun _ _ _ => False)
    (OwnFrom.and (Got.from _ _ _) (ownFrom_below (Nat.le_refl _) (by have := hB1.size; omega)))
    (fun _ _ _ _ _ hs _ _ => hs)
    ⟨hG0, hB1⟩
    (fun x a' W => ∃ q, w.heap.size < q ∧ a' = { tmps := #[.slice none 0 0, .func (.func 96) #[] #[.pointer (some ⟨Bm, 0, none⟩)], .pointer (some ⟨w.heap.size, 0, none⟩), undef, .slice none 0 0, .pointer (some ⟨q, 0, none⟩), .func (.func 96) #[] #[.pointer (some ⟨Bm, 0, none⟩)], snv x, undef, undef, undef, undef, undef], defers := [] } ∧ W.cell? ⟨q, 0, none⟩ = some (.int .u32 (x.1.toNat : Int)) ∧ W.cell? ⟨q, 1, none⟩ = some (.int .u32 (x.2.toNat : Int)))
    (fun x a' _ X Y row ⟨q, h1, h2, h3, h4⟩ hg hr => ⟨q, h1, h2, cell_kept h3 hg (fun r e => (hr r e).2), cell_kept h4 hg (fun r e => (hr r e).2)⟩)
    ?assign ?body ?done ?stop
  case assign =>
    rintro lid pre ⟨x1, x2⟩ W K ⟨hG, hB⟩ hK
    have hsz : w.heap.size < W.heap.size := by obtain ⟨v, ec, _⟩ := hG; exact World.block_lt_of_cell? _ _ ec
    have hkk := World.alloc_heap_new W (.cells #[.int .u32 (x1.toNat : Int), .int .u32 (x2.toNat : Int)] 27)
    have hK2 := hK { tmps := #[.slice none 0 0, .func (.func 96) #[] #[.pointer (some ⟨Bm, 0, none⟩)], .pointer (some ⟨w.heap.size, 0, none⟩), undef, .slice none 0 0, .pointer (some ⟨W.heap.size, 0, none⟩), .func (.func 96) #[] #[.pointer (some ⟨Bm, 0, none⟩)], snv (x1, x2), undef, undef, undef, undef, undef], defers := [] } (W.alloc (.cells #[.int .u32 (x1.toNat : Int), .int .u32 (x2.toNat : Int)] 27))
      ⟨by rw [World.size_alloc]; omega, fun k o _ hk _ => (Below.heap_alloc W _ k (Array.getElem?_eq_some_iff.1 hk).1).trans hk⟩ (KeepsWalks.alloc W _)
      ⟨(Got.from w.heap.size (w.heap.size + 1) W1.heap.size).alloc _ hG, hB.alloc hB.size _⟩ ⟨W.heap.size, hsz, rfl, cell_block hkk rfl, cell_block hkk rfl⟩
    have HK := Lib.hid hK2
    clear hK hK2 hG hB hkk
    dsimp only [snv]
    gi_wp2
    exact HK.out
  case body =>
    rintro lid pre ⟨x1, x2⟩ a' W _ _ ⟨hG, hB⟩ ⟨q, hq, rfl, hx0, hx1⟩ hlen
    obtain ⟨v, ec, ef, hown⟩ := hG
    have hsz : w.heap.size < W.heap.size := World.block_lt_of_cell? _ _ ec
    obtain ⟨i, hi, hz, hs1, hb1⟩ := info_parts infoSound
    have hown1 : (W.alloc (.cells #[.int .u32 (x1.toNat : Int), .int .u32 (x2.toNat : Int)] 27)).ownsRow (w.heap.size + 1) 27 2 v pre.length (flat pre) := World.ownsRow.kept hown (World.grownBy_alloc W _ none) (by cases v.ownBlock <;> simp)
    have hlen2 : pre.length + 1 ≤ 1000000001 := by omega
    have hrow := fun k hk => (ownsRow_block hown1 k hk).1
    have HO := Lib.hid hown1; have HL := Lib.hid hlen2; have HR := Lib.hid hrow
    have hB2 := hB
    simp only at hx0 hx1
    have h3 : ∀ i (h : i < [((x1, x2) : Snd)].length), (W.alloc (.cells #[.int .u32 (x1.toNat : Int), .int .u32 (x2.toNat : Int)] 27)).cell? ⟨W.heap.size, 0 + i * 2, none⟩ = some (.int .u32 (([((x1, x2) : Snd)][i]).1.toNat : Int)) ∧ (W.alloc (.cells #[.int .u32 (x1.toNat : Int), .int .u32 (x2.toNat : Int)] 27)).cell? ⟨W.heap.size, 0 + i * 2 + 1, none⟩ = some (.int .u32 (([((x1, x2) : Snd)][i]).2.toNat : Int)) := fun i h => by
      obtain rfl : i = 0 := by simp at h; exact h
      exact ⟨cell_block (World.alloc_heap_new W _) rfl, cell_block (World.alloc_heap_new W _) rfl⟩
    have H3 := Lib.hid h3
    clear h3
    clear hown hown1 hlen hlen2 hB hrow
    gi_wp2_with (gi_at_builtin; refine wpListIn_append_own _ rfl (.tmp 8) (.tmp 10) 22 rfl (w.heap.size + 1) 27 i _ 2 8 Tryd.underlying22 hi hz hs1 hb1 rfl (by decide) v _ _ rfl HO.out ⟨W.heap.size, 0, none⟩ 1 1 (flat [(x1, x2)]) rfl (flat_length [(x1, x2)]) (Wd.news H3.out) (flat_one [(x1, x2)]) (Nat.le_trans HL.out (by decide)) (by have := HL.out; omega) (by rw [World.size_alloc]; omega) ?_; intro v' W3 ho3 hg3 hn3; obtain ⟨vo, vc, hv'⟩ := ownsRow_slice ho3; subst hv'; obtain ⟨ec3, ef3⟩ := grown_cell hg3 hsz HR.out ec ef)
    have hsz3 : W.heap.size + 1 ≤ W3.heap.size := by have := hg3.size; rwa [World.size_alloc] at this
    have hb3 : Below w.heap.size W W3 := (((Below.refl w.heap.size W).alloc (by omega) (.cells #[.int .u32 (x1.toNat : Int), .int .u32 (x2.toNat : Int)] 27)).grown hg3 (by rw [World.size_alloc]; omega) (fun k e => by have := HR.out k e; omega))
    have hkeep : KeepsOthers W W3 := ⟨by omega, fun k o hk ho => by
      have hkl := (Array.getElem?_eq_some_iff.1 hk).1
      have hk1 : (W.alloc (.cells #[.int .u32 (x1.toNat : Int), .int .u32 (x2.toNat : Int)] 27)).heap[k]? = some o := (Below.heap_alloc W _ k hkl).trans hk
      rw [hg3.block k (by rw [World.size_alloc]; omega) (fun e => by
        obtain ⟨_, o', ho', hc'⟩ := ownsRow_block HO.out k e.symm
        rw [hk1] at ho'; cases ho'; rw [ho] at hc'; cases hc')]
      exact hk1⟩
    have hk4 := hkeep.trans (KeepsOthers.setCell W3 ⟨w.heap.size, 0, none⟩ (.slice vo (pre.length + 1) vc))
    have hfin := ownsRow_setCell_below ho3 (a := ⟨w.heap.size, 0, none⟩) (by simp only []; omega) (.slice vo (pre.length + 1) vc)
    refine ⟨hk4.from _, walks_of_others hk4, ⟨_, World.cell?_setCell_same' _ _ _ (by rw [ec3]; rfl), by rw [World.frozen?_setCell]; exact ef3, ?_⟩, (hB2.trans hb3).setCell (p := ⟨w.heap.size, 0, none⟩) (by simp only []; omega) _⟩
    unfold Own
    rw [flat_append, List.length_append]
    exact hfin
  case done =>
    rintro D ys W hD hys ⟨hG, hB⟩ hK
    have HYS := Lib.hid hys
    have hG2 := fun o' => (Got.from w.heap.size (w.heap.size + 1) W1.heap.size).putObj (o' := o') hG hD hK rfl
    have HG2 := Lib.hid hG2
    obtain ⟨v, ec, ef, ho⟩ := hG
    obtain ⟨vo, vc, rfl⟩ := ownsRow_slice ho
    clear ho hG2 hys
    gi_wp2
    refine ⟨by simp, .inl ⟨_, _, rfl, run_takeDeferred hK, ?_⟩⟩
    obtain ⟨v2, e2, f2, o2⟩ := HG2.out (.deferred none)
    have ec' := cell_kept ec (grownBy_putObj' W D (.deferred none)) (fun r e => by cases e; exact ⟨_, hK, rfl⟩)
    obtain rfl := Option.some.inj (e2.symm.trans ec')
    refine ⟨_, results_tmp rfl _ _ _, _, ys, rfl, HYS.out.1, HYS.out.2, ?_, hB.trans (belowK_b (w := w) (Nat.le_refl _) W D _ _ (by omega) hK rfl rfl)⟩
    exact o2.mono (Nat.le_succ _)
  case stop =>
    rintro D c pre W _ _ h _
    exact h.elim
end Go.Proofs.YtpnmapfabjdfjaaDoor
