/-
  Maps with texts as keys: look-up and store.
-/
import Derived.Test.YtmgikhldkebjbaaHa
import Derived.Maps.OwnOps
import Derived.Carry
import Derived.MapKept
import Derived.RangeFuncRecord
namespace Go.Proofs.Ytmgikhldkebjbaa
open Go.RowKit Go.Sort
theorem beq_bytes (a b : ByteArray) : (a == b) = decide (a = b) := by
  rw [Bool.eq_iff_iff, decide_eq_true_iff]
  exact MapKept.bytes_beq a b
/-- A map's block with texts as keys: its entries, in the order in which they came. -/
def SMap (w : World) (b : Nat) (l : List (ByteArray × Value)) : Prop := ∃ es n, w.heap[b]? = some (.map es n) ∧ es.toList.map (fun e => (e.key, e.val)) = l.map fun x => (Value.string x.1, x.2)
theorem SMap.new (w : World) : SMap (w.alloc (.map #[] 0)) w.heap.size [] := ⟨#[], 0, World.alloc_heap_new w _, rfl⟩
theorem SMap.lt {w : World} {b : Nat} {l : List (ByteArray × Value)} (h : SMap w b l) : b < w.heap.size := by
  obtain ⟨es, n, hh, _⟩ := h
  exact (Array.getElem?_eq_some_iff.1 hh).1
theorem SMap.keep {w w' : World} {b : Nat} {l : List (ByteArray × Value)} (h : SMap w b l) (e : w'.heap[b]? = w.heap[b]?) : SMap w' b l := by
  obtain ⟨es, n, hh, hl⟩ := h
  exact ⟨es, n, e.trans hh, hl⟩
theorem SMap.below {w w' : World} {b : Nat} {l : List (ByteArray × Value)} (h : SMap w b l) (hb : Below w.heap.size w w') : SMap w' b l := h.keep (hb.block b h.lt)
/-- The first entry with a key: its place and its value. -/
def fnd (k : ByteArray) : List (ByteArray × Value) → Nat → Option (Nat × Value)
  | [], _ => none
  | x :: l, i => if k = x.1 then some (i, x.2) else fnd k l (i + 1)
theorem findNow_s (k : ByteArray) : ∀ (es : List MapEntry) (l : List (ByteArray × Value)) (i : Nat), es.map (fun e => (e.key, e.val)) = l.map (fun x => (Value.string x.1, x.2)) → Instr.findNow .string (.string k) es i = some (fnd k l i)
  | [], [], _, _ => rfl
  | [], _ :: _, _, h => by simp at h
  | _ :: _, [], _, h => by simp at h
  | e :: es, x :: l, i, h => by
    simp only [List.map_cons, List.cons.injEq, Prod.mk.injEq] at h
    obtain ⟨⟨h1, h2⟩, h3⟩ := h
    have ih := findNow_s k es l (i + 1) h3
    unfold Instr.findNow fnd
    rw [h1, h2]
    simp only [Instr.sameNow, beq_bytes]
    by_cases hk : k = x.1
    · rw [if_pos hk, decide_eq_true hk]
    · rw [if_neg hk, decide_eq_false hk]
      exact ih
theorem run_find_s {P : Program} {K : TypeId} (hK : P.underlying K = some .string) (k : ByteArray) (es : List MapEntry) (l : List (ByteArray × Value)) (h : es.map (fun e => (e.key, e.val)) = l.map (fun x => (Value.string x.1, x.2))) (w : World) :
    (Instr.findKey K (.string k) es).run P w = .ok (fnd k l 0) w := by
  unfold Instr.findKey
  simp only [Sem.run_bind, run_underlying hK, Result.andThen_ok, findNow_s k es l 0 h, Sem.run_pure]
theorem run_check_s {P : Program} {K : TypeId} (hK : P.underlying K = some .string) (e : Bool) (k : ByteArray) (w : World) : (Instr.checkKey e 10000 K (.string k)).run P w = .ok () w := by
  unfold Instr.checkKey
  simp only [Sem.run_bind, run_underlying hK, Result.andThen_ok, Sem.run_pure]
theorem run_lookup_s {P : Program} {T K E : TypeId} (hT : P.underlying T = some (.map K E)) (hK : P.underlying K = some .string) {z : Value} (hz : ∀ w, (zeroValue E).run P w = .ok z w) {w : World} {b : Nat} {l : List (ByteArray × Value)} (h : SMap w b l) (k : ByteArray) :
    (Instr.lookup T (.map (some b)) (.string k) true).run P w = .ok (.tuple #[((fnd k l 0).map (·.2)).getD z, .bool (fnd k l 0).isSome]) w := by
  obtain ⟨es, n, hh, hl⟩ := h
  unfold Instr.lookup
  simp only [Sem.run_bind, run_underlying hT, Result.andThen_ok, Sem.run_pure, MapKept.run_getObj_map hh, run_check_s hK, run_find_s hK k es.toList l hl]
  cases hf : fnd k l 0 with
  | none => simp [Sem.run_bind, hz, Result.andThen_ok, Sem.run_pure]
  | some x => simp [Sem.run_pure]
/-- A store: a key that is there keeps its place. -/
def put (k : ByteArray) (v : Value) : List (ByteArray × Value) → List (ByteArray × Value)
  | [] => [(k, v)]
  | x :: l => if k = x.1 then (k, v) :: l else x :: put k v l
theorem fnd_none {k : ByteArray} {v : Value} : ∀ {l : List (ByteArray × Value)} {i : Nat}, fnd k l i = none → put k v l = l ++ [(k, v)]
  | [], _, _ => rfl
  | x :: l, i, h => by
    unfold fnd at h
    unfold put
    by_cases hk : k = x.1
    · rw [if_pos hk] at h; cases h
    · rw [if_neg hk] at h ⊢
      rw [fnd_none h]; rfl
theorem fnd_some {k : ByteArray} {v u : Value} {p : Nat} : ∀ {l : List (ByteArray × Value)} {i : Nat}, fnd k l i = some (p, u) → i ≤ p ∧ ∃ h : p - i < l.length, l[p - i].1 = k ∧ put k v l = l.set (p - i) (k, v)
  | [], _, h => by cases h
  | x :: l, i, h => by
    unfold fnd at h
    unfold put
    by_cases hk : k = x.1
    · rw [if_pos hk] at h ⊢
      simp only [Option.some.injEq, Prod.mk.injEq] at h
      obtain ⟨rfl, _⟩ := h
      exact ⟨Nat.le_refl _, by simp, by simp [hk], by simp⟩
    · rw [if_neg hk] at h ⊢
      obtain ⟨h1, h2, h3, h4⟩ := fnd_some (v := v) h
      have e : p - i = (p - (i + 1)) + 1 := by omega
      refine ⟨by omega, by rw [e]; simpa using h2, ?_, ?_⟩
      · simp only [e, List.getElem_cons_succ]; exact h3
      · rw [h4, e]; rfl
theorem same_bits (k : ByteArray) : Instr.sameBits 10000 (.string k) (.string k) = true := by
  unfold Instr.sameBits
  rw [beq_bytes, decide_eq_true rfl]
theorem run_update_s {P : Program} {T K E : TypeId} (hT : P.underlying T = some (.map K E)) (hK : P.underlying K = some .string) {w : World} {b : Nat} {l : List (ByteArray × Value)} (h : SMap w b l) (k : ByteArray) (v : Value) :
    ∃ w', (Instr.mapUpdate T (.map (some b)) (.string k) v).run P w = .ok () w' ∧ SMap w' b (put k v l) ∧ w.grownBy w' (some b) := by
  obtain ⟨es, n, hh, hl⟩ := h
  have hlen : es.size = l.length := by have := congrArg List.length hl; simpa using this
  have grow : ∀ o : Obj, w.grownBy { w with heap := w.heap.setIfInBounds b o } (some b) := fun o =>
    ⟨rfl, rfl, rfl, by simp, fun j hj hne => by
      show (w.heap.setIfInBounds b o)[j]? = w.heap[j]?
      rw [Array.getElem?_setIfInBounds_ne (by intro e; exact hne (by rw [e]))]⟩
  have hb := (Array.getElem?_eq_some_iff.1 hh).1
  unfold Instr.mapUpdate
  simp only [Sem.run_bind, run_underlying hT, Result.andThen_ok, MapKept.run_getObj_map hh, run_check_s hK, run_find_s hK k es.toList l hl]
  cases hf : fnd k l 0 with
  | none =>
    refine ⟨_, MapKept.run_setObj_map _ hh, ⟨es.push { key := .string k, val := v, born := n }, n + 1, ?_, ?_⟩, grow _⟩
    · show (w.heap.setIfInBounds b _)[b]? = _
      rw [Array.getElem?_setIfInBounds_self_of_lt hb]
    · rw [fnd_none hf, Array.toList_push, List.map_append, hl, List.map_append]
      rfl
  | some x =>
    obtain ⟨p, u⟩ := x
    obtain ⟨_, h2, h3, h4⟩ := fnd_some (v := v) hf
    simp only [Nat.sub_zero] at h2 h3 h4
    have hp : p < es.size := by omega
    have hkey : es[p].key = .string k := by
      have e := congrArg (fun z => z[p]?) hl
      simp only [List.getElem?_map, Array.getElem?_toList, Array.getElem?_eq_getElem hp, List.getElem?_eq_getElem h2, Option.map_some, Option.some.injEq, Prod.mk.injEq] at e
      rw [e.1, h3]
    have hk : (((es[p]?).map (·.key)).getD (.string k)) = .string k := by rw [Array.getElem?_eq_getElem hp]; exact hkey
    simp only [hk, Instr.keyThatStays, same_bits, if_true, Sem.run_bind, Sem.run_pure, Result.andThen_ok]
    refine ⟨_, MapKept.run_setObj_map _ hh, ⟨es.modify p fun e => { e with key := .string k, val := v }, n, ?_, ?_⟩, grow _⟩
    · show (w.heap.setIfInBounds b _)[b]? = _
      rw [Array.getElem?_setIfInBounds_self_of_lt hb]
    · rw [h4, Array.toList_modify, List.map_set]
      rw [← hl]
      apply List.ext_getElem?
      intro j
      rw [List.getElem?_map, List.getElem?_modify, List.getElem?_set, List.getElem?_map]
      by_cases e : p = j
      · subst e
        simp [hp]
      · simp [e]
end Go.Proofs.Ytmgikhldkebjbaa
