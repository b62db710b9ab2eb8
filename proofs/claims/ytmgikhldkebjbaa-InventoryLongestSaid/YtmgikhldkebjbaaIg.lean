/-
  Maps with sounds as keys: look-up and store.
-/
import Derived.Test.YtmgikhldkebjbaaIe
import Derived.Laws.StructEq
namespace Go.Proofs.Ytmgikhldkebjbaa
open Go.RowKit Go.Sort
abbrev Snd := BitVec 32 × BitVec 32
def snv (s : Snd) : Value := .agg #[.int .u32 s.1.toNat, .int .u32 s.2.toNat]
theorem snd_equal (a b c d : Int) (w : World) : (Op.equal 39 (.agg #[.int .u32 a, .int .u32 b]) (.agg #[.int .u32 c, .int .u32 d])).run Try.prog w = .ok (a == c && b == d) w := by
  show (Op.equalIn 10000 _ _ _).run _ _ = _
  by_cases h1 : a = c
  · by_cases h2 : b = d
    · simp [go_sem, h1, h2]
    · simp [go_sem, h1, h2]
  · simp [go_sem, h1]
theorem run_check_y (e : Bool) (s : Snd) (w : World) : (Instr.checkKey e 10000 39 (snv s)).run Try.prog w = .ok () w := by
  kernel_rfl
theorem snv_eq (s t : Snd) (w : World) : (Op.equal 39 (snv s) (snv t)).run Try.prog w = .ok (decide (s = t)) w := by
  unfold snv
  rw [snd_equal]
  congr 1
  rw [Bool.eq_iff_iff, decide_eq_true_iff, Bool.and_eq_true, beq_iff_eq, beq_iff_eq]
  constructor
  · rintro ⟨h1, h2⟩
    exact Prod.ext (BitVec.eq_of_toNat_eq (by omega)) (BitVec.eq_of_toNat_eq (by omega))
  · rintro rfl
    exact ⟨rfl, rfl⟩
/-- A map's block with sounds as keys: its entries, in the order in which they came. -/
def YMap (w : World) (b : Nat) (l : List (Snd × Value)) : Prop := ∃ es n, w.heap[b]? = some (.map es n) ∧ es.toList.map (fun e => (e.key, e.val)) = l.map fun x => (snv x.1, x.2)
theorem YMap.lt {w : World} {b : Nat} {l : List (Snd × Value)} (h : YMap w b l) : b < w.heap.size := by
  obtain ⟨es, n, hh, _⟩ := h
  exact (Array.getElem?_eq_some_iff.1 hh).1
theorem YMap.keep {w w' : World} {b : Nat} {l : List (Snd × Value)} (h : YMap w b l) (e : w'.heap[b]? = w.heap[b]?) : YMap w' b l := by
  obtain ⟨es, n, hh, hl⟩ := h
  exact ⟨es, n, e.trans hh, hl⟩
theorem YMap.below {w w' : World} {b : Nat} {l : List (Snd × Value)} (h : YMap w b l) (hb : Below w.heap.size w w') : YMap w' b l := h.keep (hb.block b h.lt)
/-- The first entry with a key: its place and its value. -/
def fndY (k : Snd) : List (Snd × Value) → Nat → Option (Nat × Value)
  | [], _ => none
  | x :: l, i => if k = x.1 then some (i, x.2) else fndY k l (i + 1)
theorem findAsking_y (k : Snd) (w : World) : ∀ (es : List MapEntry) (l : List (Snd × Value)) (i : Nat), es.map (fun e => (e.key, e.val)) = l.map (fun x => (snv x.1, x.2)) → (Instr.findAsking 39 (snv k) es i).run Try.prog w = .ok (fndY k l i) w
  | [], [], _, _ => rfl
  | [], _ :: _, _, h => by simp at h
  | _ :: _, [], _, h => by simp at h
  | e :: es, x :: l, i, h => by
    simp only [List.map_cons, List.cons.injEq, Prod.mk.injEq] at h
    obtain ⟨⟨h1, h2⟩, h3⟩ := h
    have ih := findAsking_y k w es l (i + 1) h3
    unfold Instr.findAsking fndY
    rw [h1, h2]
    simp only [Sem.run_bind, snv_eq, Result.andThen_ok]
    by_cases hk : k = x.1
    · rw [if_pos hk, decide_eq_true hk]; rfl
    · rw [if_neg hk, decide_eq_false hk]
      exact ih
theorem findNow_y (k : Snd) (fs : Array Field) : ∀ (es : List MapEntry) (l : List (Snd × Value)) (i : Nat), es.map (fun e => (e.key, e.val)) = l.map (fun x => (snv x.1, x.2)) → Instr.findNow (.struct fs) (snv k) es i = some (fndY k l i) ∨ Instr.findNow (.struct fs) (snv k) es i = none
  | [], [], _, _ => .inl rfl
  | [], _ :: _, _, h => by simp at h
  | _ :: _, [], _, h => by simp at h
  | e :: es, x :: l, i, h => by
    refine .inr ?_
    simp only [List.map_cons, List.cons.injEq, Prod.mk.injEq] at h
    unfold Instr.findNow
    rw [h.1.1]
    rfl
theorem run_find_y (k : Snd) (es : List MapEntry) (l : List (Snd × Value)) (h : es.map (fun e => (e.key, e.val)) = l.map (fun x => (snv x.1, x.2))) (w : World) :
    (Instr.findKey 39 (snv k) es).run Try.prog w = .ok (fndY k l 0) w := by
  unfold Instr.findKey
  simp only [Sem.run_bind, run_underlying Try.underlying39, Result.andThen_ok]
  rcases findNow_y k _ es l 0 h with e | e
  · rw [e]; rfl
  · rw [e]; exact findAsking_y k w es l 0 h
theorem run_lookup_y {T E : TypeId} (hT : Try.prog.underlying T = some (.map 39 E)) {z : Value} (hz : ∀ w, (zeroValue E).run Try.prog w = .ok z w) {w : World} {b : Nat} {l : List (Snd × Value)} (h : YMap w b l) (k : Snd) :
    (Instr.lookup T (.map (some b)) (snv k) true).run Try.prog w = .ok (.tuple #[((fndY k l 0).map (·.2)).getD z, .bool (fndY k l 0).isSome]) w := by
  obtain ⟨es, n, hh, hl⟩ := h
  unfold Instr.lookup
  simp only [Sem.run_bind, run_underlying hT, Result.andThen_ok, Sem.run_pure, MapKept.run_getObj_map hh, run_check_y, run_find_y k es.toList l hl]
  cases hf : fndY k l 0 with
  | none => simp [Sem.run_bind, hz, Result.andThen_ok, Sem.run_pure]
  | some x => simp [Sem.run_pure]
/-- A store of a key that is not there. -/
theorem run_update_y {T E : TypeId} (hT : Try.prog.underlying T = some (.map 39 E)) {w : World} {b : Nat} {l : List (Snd × Value)} (h : YMap w b l) (k : Snd) (v : Value) (hf : fndY k l 0 = none) :
    ∃ w', (Instr.mapUpdate T (.map (some b)) (snv k) v).run Try.prog w = .ok () w' ∧ YMap w' b (l ++ [(k, v)]) ∧ w.grownBy w' (some b) := by
  obtain ⟨es, n, hh, hl⟩ := h
  have grow : ∀ o : Obj, w.grownBy { w with heap := w.heap.setIfInBounds b o } (some b) := fun o =>
    ⟨rfl, rfl, rfl, by simp, fun j hj hne => by
      show (w.heap.setIfInBounds b o)[j]? = w.heap[j]?
      rw [Array.getElem?_setIfInBounds_ne (by intro e; exact hne (by rw [e]))]⟩
  have hb := (Array.getElem?_eq_some_iff.1 hh).1
  unfold Instr.mapUpdate
  simp only [Sem.run_bind, run_underlying hT, Result.andThen_ok, MapKept.run_getObj_map hh, run_check_y, run_find_y k es.toList l hl, hf]
  refine ⟨_, MapKept.run_setObj_map _ hh, ⟨es.push { key := snv k, val := v, born := n }, n + 1, ?_, ?_⟩, grow _⟩
  · show (w.heap.setIfInBounds b _)[b]? = _
    rw [Array.getElem?_setIfInBounds_self_of_lt hb]
  · rw [Array.toList_push, List.map_append, hl, List.map_append]
    rfl
end Go.Proofs.Ytmgikhldkebjbaa
