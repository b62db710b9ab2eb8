/-
  Lemmas that the theorem of this claim rests on: 13 texts, one behind the other.
-/
import Derived.Test.YtpnmapfabjdfjaaDoorM2
import Derived.Maps.OwnOps
import Derived.Carry
import Derived.MapKept
import Derived.RangeFuncRecord
import Derived.Maps.OwnSet
import Derived.Deep.AppendLies
import Derived.WalkSpells
import Derived.Laws.StructEq
import Derived.LoopTactic
import Derived.Deep.RegionHeld3
set_option linter.unusedSimpArgs false
set_option linter.unusedVariables false

/-
  Maps with texts as keys: look-up and store.
-/
namespace Go.Proofs.YtpnmapfabjdfjaaDoor
open Go.RowKit Go.Sort
theorem beq_bytes (a b : ByteArray) : (a == b) = decide (a = b) := by
  rw [Bool.eq_iff_iff, decide_eq_true_iff]
  exact MapKept.bytes_beq a b
/-- A map's block with texts as keys: its entries, in the order in which they came. -/
def SMap (w : World) (b : Nat) (l : List (ByteArray × Value)) : Prop := ∃ es n, w.heap[b]? = some (.map es n) ∧ es.toList.map (fun e => (e.key, e.val)) = l.map fun x => (Value.string x.1, x.2)
theorem SMap.new (w : World) : SMap (w.alloc (.map #[] 0)) w.heap.size [] := ⟨#[], 0, World.alloc_heap_new w _, rfl⟩
theorem SMap.lt {w : World} {b : Nat} {l : List (ByteArray × Value)} (h : SMap w b l) : b < w.heap.size := by
  obtain ⟨es, n, hh, _⟩ := h
  exact (Array.getElem?_eq_some_iff.1 hh).1
theorem SMap.keep {w w' : World} {b : Nat} {l : List (ByteArray × Value)} (h : SMap w b l) (e : w'.heap[b]? = w.heap[b]?) : SMap w' b l := by
  obtain ⟨es, n, hh, hl⟩ := h
  exact ⟨es, n, e.trans hh, hl⟩
theorem SMap.below {w w' : World} {b : Nat} {l : List (ByteArray × Value)} (h : SMap w b l) (hb : Below w.heap.size w w') : SMap w' b l := h.keep (hb.block b h.lt)
/-- The first entry with a key: its place and its value. -/
def fnd (k : ByteArray) : List (ByteArray × Value) → Nat → Option (Nat × Value)
  | [], _ => none
  | x :: l, i => if k = x.1 then some (i, x.2) else fnd k l (i + 1)
theorem findNow_s (k : ByteArray) : ∀ (es : List MapEntry) (l : List (ByteArray × Value)) (i : Nat), es.map (fun e => (e.key, e.val)) = l.map (fun x => (Value.string x.1, x.2)) → Instr.findNow .string (.string k) es i = some (fnd k l i)
  | [], [], _, _ => rfl
  | [], _ :: _, _, h => by simp at h
  | _ :: _, [], _, h => by simp at h
  | e :: es, x :: l, i, h => by
    simp only [List.map_cons, List.cons.injEq, Prod.mk.injEq] at h
    obtain ⟨⟨h1, h2⟩, h3⟩ := h
    have ih := findNow_s k es l (i + 1) h3
    unfold Instr.findNow fnd
    rw [h1, h2]
    simp only [Instr.sameNow, beq_bytes]
    by_cases hk : k = x.1
    · rw [if_pos hk, decide_eq_true hk]
    · rw [if_neg hk, decide_eq_false hk]
      exact ih
theorem run_find_s {P : Program} {K : TypeId} (hK : P.underlying K = some .string) (k : ByteArray) (es : List MapEntry) (l : List (ByteArray × Value)) (h : es.map (fun e => (e.key, e.val)) = l.map (fun x => (Value.string x.1, x.2))) (w : World) :
    (Instr.findKey K (.string k) es).run P w = .ok (fnd k l 0) w := by
  unfold Instr.findKey
  simp only [Sem.run_bind, run_underlying hK, Result.andThen_ok, findNow_s k es l 0 h, Sem.run_pure]
theorem run_check_s {P : Program} {K : TypeId} (hK : P.underlying K = some .string) (e : Bool) (k : ByteArray) (w : World) : (Instr.checkKey e 10000 K (.string k)).run P w = .ok () w := by
  unfold Instr.checkKey
  simp only [Sem.run_bind, run_underlying hK, Result.andThen_ok, Sem.run_pure]
theorem run_lookup_s {P : Program} {T K E : TypeId} (hT : P.underlying T = some (.map K E)) (hK : P.underlying K = some .string) {z : Value} (hz : ∀ w, (zeroValue E).run P w = .ok z w) {w : World} {b : Nat} {l : List (ByteArray × Value)} (h : SMap w b l) (k : ByteArray) :
    (Instr.lookup T (.map (some b)) (.string k) true).run P w = .ok (.tuple #[((fnd k l 0).map (·.2)).getD z, .bool (fnd k l 0).isSome]) w := by
  obtain ⟨es, n, hh, hl⟩ := h
  unfold Instr.lookup
  simp only [Sem.run_bind, run_underlying hT, Result.andThen_ok, Sem.run_pure, MapKept.run_getObj_map hh, run_check_s hK, run_find_s hK k es.toList l hl]
  cases hf : fnd k l 0 with
  | none => simp [Sem.run_bind, hz, Result.andThen_ok, Sem.run_pure]
  | some x => simp [Sem.run_pure]
/-- A store: a key that is there keeps its place. -/
def put (k : ByteArray) (v : Value) : List (ByteArray × Value) → List (ByteArray × Value)
  | [] => [(k, v)]
  | x :: l => if k = x.1 then (k, v) :: l else x :: put k v l
theorem fnd_none {k : ByteArray} {v : Value} : ∀ {l : List (ByteArray × Value)} {i : Nat}, fnd k l i = none → put k v l = l ++ [(k, v)]
  | [], _, _ => rfl
  | x :: l, i, h => by
    unfold fnd at h
    unfold put
    by_cases hk : k = x.1
    · rw [if_pos hk] at h; cases h
    · rw [if_neg hk] at h ⊢
      rw [fnd_none h]; rfl
theorem fnd_some {k : ByteArray} {v u : Value} {p : Nat} : ∀ {l : List (ByteArray × Value)} {i : Nat}, fnd k l i = some (p, u) → i ≤ p ∧ ∃ h : p - i < l.length, l[p - i].1 = k ∧ put k v l = l.set (p - i) (k, v)
  | [], _, h => by cases h
  | x :: l, i, h => by
    unfold fnd at h
    unfold put
    by_cases hk : k = x.1
    · rw [if_pos hk] at h ⊢
      simp only [Option.some.injEq, Prod.mk.injEq] at h
      obtain ⟨rfl, _⟩ := h
      exact ⟨Nat.le_refl _, by simp, by simp [hk], by simp⟩
    · rw [if_neg hk] at h ⊢
      obtain ⟨h1, h2, h3, h4⟩ := fnd_some (v := v) h
      have e : p - i = (p - (i + 1)) + 1 := by omega
      refine ⟨by omega, by rw [e]; simpa using h2, ?_, ?_⟩
      · simp only [e, List.getElem_cons_succ]; exact h3
      · rw [h4, e]; rfl
theorem same_bits (k : ByteArray) : Instr.sameBits 10000 (.string k) (.string k) = true := by
  unfold Instr.sameBits
  rw [beq_bytes, decide_eq_true rfl]
theorem run_update_s {P : Program} {T K E : TypeId} (hT : P.underlying T = some (.map K E)) (hK : P.underlying K = some .string) {w : World} {b : Nat} {l : List (ByteArray × Value)} (h : SMap w b l) (k : ByteArray) (v : Value) :
    ∃ w', (Instr.mapUpdate T (.map (some b)) (.string k) v).run P w = .ok () w' ∧ SMap w' b (put k v l) ∧ w.grownBy w' (some b) := by
  obtain ⟨es, n, hh, hl⟩ := h
  have hlen : es.size = l.length := by have := congrArg List.length hl; simpa using this
  have grow : ∀ o : Obj, w.grownBy { w with heap := w.heap.setIfInBounds b o } (some b) := fun o =>
    ⟨rfl, rfl, rfl, by simp, fun j hj hne => by
      show (w.heap.setIfInBounds b o)[j]? = w.heap[j]?
      rw [Array.getElem?_setIfInBounds_ne (by intro e; exact hne (by rw [e]))]⟩
  have hb := (Array.getElem?_eq_some_iff.1 hh).1
  unfold Instr.mapUpdate
  simp only [Sem.run_bind, run_underlying hT, Result.andThen_ok, MapKept.run_getObj_map hh, run_check_s hK, run_find_s hK k es.toList l hl]
  cases hf : fnd k l 0 with
  | none =>
    refine ⟨_, MapKept.run_setObj_map _ hh, ⟨es.push { key := .string k, val := v, born := n }, n + 1, ?_, ?_⟩, grow _⟩
    · show (w.heap.setIfInBounds b _)[b]? = _
      rw [Array.getElem?_setIfInBounds_self_of_lt hb]
    · rw [fnd_none hf, Array.toList_push, List.map_append, hl, List.map_append]
      rfl
  | some x =>
    obtain ⟨p, u⟩ := x
    obtain ⟨_, h2, h3, h4⟩ := fnd_some (v := v) hf
    simp only [Nat.sub_zero] at h2 h3 h4
    have hp : p < es.size := by omega
    have hkey : es[p].key = .string k := by
      have e := congrArg (fun z => z[p]?) hl
      simp only [List.getElem?_map, Array.getElem?_toList, Array.getElem?_eq_getElem hp, List.getElem?_eq_getElem h2, Option.map_some, Option.some.injEq, Prod.mk.injEq] at e
      rw [e.1, h3]
    have hk : (((es[p]?).map (·.key)).getD (.string k)) = .string k := by rw [Array.getElem?_eq_getElem hp]; exact hkey
    simp only [hk, Instr.keyThatStays, same_bits, if_true, Sem.run_bind, Sem.run_pure, Result.andThen_ok]
    refine ⟨_, MapKept.run_setObj_map _ hh, ⟨es.modify p fun e => { e with key := .string k, val := v }, n, ?_, ?_⟩, grow _⟩
    · show (w.heap.setIfInBounds b _)[b]? = _
      rw [Array.getElem?_setIfInBounds_self_of_lt hb]
    · rw [h4, Array.toList_modify, List.map_set]
      rw [← hl]
      apply List.ext_getElem?
      intro j
      rw [List.getElem?_map, List.getElem?_modify, List.getElem?_set, List.getElem?_map]
      by_cases e : p = j
      · subst e
        simp [hp]
      · simp [e]
end Go.Proofs.YtpnmapfabjdfjaaDoor

/-
  Slices of texts; slices.Clone at them; the walk's laws on maps with texts as keys.
-/
namespace Go.Proofs.YtpnmapfabjdfjaaDoor
open Go.RowKit Go.Sort
/-- A slice of texts that reads as a list. -/
def Ss (w : World) (v : Value) (l : List ByteArray) : Prop :=
  (v = .slice none 0 0 ∧ l = []) ∨ ∃ b off cap, v = .slice (some ⟨b, off, none⟩) l.length cap ∧ l.length ≤ cap ∧ cap ≤ maxLen ∧ b < w.heap.size ∧ ∀ i (h : i < l.length), w.cell? ⟨b, off + i, none⟩ = some (.string l[i])
theorem Ss.below {w w' : World} {v : Value} {l : List ByteArray} (h : Ss w v l) (hb : Below w.heap.size w w') : Ss w' v l := by
  rcases h with h | ⟨b, off, cap, h1, hc, hm, h2, h3⟩
  · exact .inl h
  · exact .inr ⟨b, off, cap, h1, hc, hm, by have := hb.size; omega, fun i hi => (hb.cell (p := ⟨b, off + i, none⟩) h2).trans (h3 i hi)⟩
theorem Ss.open {w : World} {v : Value} {l : List ByteArray} (h : Ss w v l) : ∃ ao cap, v = .slice ao l.length cap ∧ l.length ≤ cap ∧ cap ≤ maxLen ∧ ∀ i (h : i < l.length), ∃ b off, ao = some ⟨b, off, none⟩ ∧ b < w.heap.size ∧ w.cell? ⟨b, off + i, none⟩ = some (.string l[i]) := by
  rcases h with ⟨rfl, rfl⟩ | ⟨b, off, cap, rfl, hc, hm, h2, h3⟩
  · exact ⟨none, 0, rfl, by simp, by simp, fun i hi => by simp at hi⟩
  · exact ⟨_, cap, rfl, hc, hm, fun i hi => ⟨b, off, rfl, h2, h3 i hi⟩⟩
/-- A row of texts that the call has made. -/
def OwnS (w : World) (base : Nat) (v : Value) (l : List ByteArray) : Prop := w.ownsRow base 9 1 v l.length (l.map Value.string)
theorem OwnS.nil (w : World) (base : Nat) : OwnS w base (.slice none 0 0) [] := ⟨rfl, .inl ⟨rfl, rfl⟩⟩
theorem OwnS.empty (w : World) : OwnS (w.alloc (.cells #[] 9)) w.heap.size (.slice (some ⟨w.heap.size, 0, none⟩) 0 0) [] :=
  ⟨rfl, .inr ⟨w.heap.size, 0, #[], rfl, Nat.le_refl _, World.alloc_heap_new w _, by simp, by simp, by simp, by simp⟩⟩
theorem OwnS.ss {w : World} {base : Nat} {v : Value} {l : List ByteArray} (h : OwnS w base v l) : Ss w v l := by
  obtain ⟨hl, ⟨rfl, h0⟩ | ⟨g, cap, cur, rfl, hg, hh, hn, hm, hs, ht⟩⟩ := h
  · exact .inl ⟨rfl, List.eq_nil_of_length_eq_zero h0⟩
  · refine .inr ⟨g, 0, cap, rfl, hn, hm, (Array.getElem?_eq_some_iff.1 hh).1, fun i hi => ?_⟩
    rw [Nat.zero_add]
    refine cell_block hh ?_
    have key : (l.map Value.string)[i]? = some (.string l[i]) := by rw [List.getElem?_map, List.getElem?_eq_getElem hi]; rfl
    rw [← key, ← ht, List.getElem?_take_of_lt (by omega), Array.getElem?_toList]
theorem infoStr : (Tryd.prog.info? 9).map (fun i => (i.zero, i.size, i.bytes)) = some (some (.string ⟨#[]⟩), 1, 16) := by kernel_rfl
theorem info_parts {P : Program} {e : TypeId} {z : Option Value} {n m : Nat} (h : (P.info? e).map (fun i => (i.zero, i.size, i.bytes)) = some (z, n, m)) : ∃ i, P.info? e = some i ∧ i.zero = z ∧ i.size = n ∧ i.bytes = m := by
  cases hi : P.info? e with
  | none => rw [hi] at h; cases h
  | some i =>
    rw [hi] at h
    simp only [Option.map_some, Option.some.injEq, Prod.mk.injEq] at h
    exact ⟨i, rfl, h.1, h.2.1, h.2.2⟩
theorem addr_addS (b o j : Nat) : (⟨b, o, none⟩ : Addr).add j = ⟨b, o + j, none⟩ := by
  unfold Addr.add
  first | rfl | (split <;> simp_all) | (simp; omega)
/-- A store in a map with texts as keys. -/
theorem wpList_update_s {P : Program} {ops : Array Oper} {rest : List Oper} {o : Oper} {a : Act} {w : World} {Q : Exit → Act → World → Prop} (hg : o.guard = none) (m x v : Operand) (t : TypeId) (hop : o.op = Op.mapUpdate t m x v) {K E : TypeId} (hT : P.underlying t = some (.map K E)) (hK : P.underlying K = some .string)
    (b : Nat) (l : List (ByteArray × Value)) (k : ByteArray) (val : Value) (hm : a.eval m = .map (some b)) (hx : a.eval x = .string k) (hv : a.eval v = val) (h : SMap w b l)
    (hk : ∀ w', SMap w' b (put k val l) → w.grownBy w' (some b) → wpList P ops Q rest (a.put o.dst undef) w') : wpList P ops Q (o :: rest) a w := by
  refine wpList_plain hg fun K' hK' => ?_
  obtain ⟨w', hrun, r1, r2⟩ := run_update_s hT hK h k val
  unfold Oper.wp
  simp [execOp, hop, hm, hx, hv, hrun, Result.andThen]
  exact hK' _ _ (hk w' r1 r2)
theorem wpList_len_s {P : Program} {ops : Array Oper} {rest : List Oper} {o : Oper} {a : Act} {w : World} {Q : Exit → Act → World → Prop} (hg : o.guard = none) (m : Operand) (t : TypeId) (hop : o.op = Op.call { callee := Callee.builtin Builtin.len, args := #[m], argTypes := #[t] }) {K E : TypeId} (hT : P.underlying t = some (.map K E))
    (b : Nat) (l : List (ByteArray × Value)) (hm : a.eval m = .map (some b)) (h : SMap w b l) (hk : wpList P ops Q rest (a.put o.dst (.int .i64 (l.length : Int))) w) : wpList P ops Q (o :: rest) a w := by
  refine wpList_plain hg fun K' hK' => ?_
  obtain ⟨es, n, hh, hl⟩ := h
  have hlen : es.size = l.length := by have := congrArg List.length hl; simpa using this
  have hrun : (Builtin.len_ #[t] o.type #[.map (some b)]).run P w = .ok (.int .i64 (l.length : Int)) w := by
    rw [← hlen]
    simp [Builtin.len_, run_underlying hT, MapKept.run_getObj_map hh, goInt, Result.andThen]
  unfold Oper.wp
  simp [execOp, hop, resolve, invoke, builtin, hm, hrun, Result.andThen]
  exact hK' _ _ hk
end Go.Proofs.YtpnmapfabjdfjaaDoor

/-
  Maps with sounds as keys: look-up and store.
-/
namespace Go.Proofs.YtpnmapfabjdfjaaDoor
open Go.RowKit Go.Sort
def snv (s : Snd) : Value := .agg #[.int .u32 s.1.toNat, .int .u32 s.2.toNat]
theorem snd_equal (a b c d : Int) (w : World) : (Op.equal 27 (.agg #[.int .u32 a, .int .u32 b]) (.agg #[.int .u32 c, .int .u32 d])).run Tryd.prog w = .ok (a == c && b == d) w := by
  show (Op.equalIn 10000 _ _ _).run _ _ = _
  by_cases h1 : a = c
  · by_cases h2 : b = d
    · simp [go_sem, h1, h2]
    · simp [go_sem, h1, h2]
  · simp [go_sem, h1]
theorem run_check_y (e : Bool) (s : Snd) (w : World) : (Instr.checkKey e 10000 27 (snv s)).run Tryd.prog w = .ok () w := by
  kernel_rfl
theorem snv_eq (s t : Snd) (w : World) : (Op.equal 27 (snv s) (snv t)).run Tryd.prog w = .ok (decide (s = t)) w := by
  unfold snv
  rw [snd_equal]
  congr 1
  rw [Bool.eq_iff_iff, decide_eq_true_iff, Bool.and_eq_true, beq_iff_eq, beq_iff_eq]
  constructor
  · rintro ⟨h1, h2⟩
    exact Prod.ext (BitVec.eq_of_toNat_eq (by omega)) (BitVec.eq_of_toNat_eq (by omega))
  · rintro rfl
    exact ⟨rfl, rfl⟩
/-- A map's block with sounds as keys: its entries, in the order in which they came. -/
def YMap (w : World) (b : Nat) (l : List (Snd × Value)) : Prop := ∃ es n, w.heap[b]? = some (.map es n) ∧ es.toList.map (fun e => (e.key, e.val)) = l.map fun x => (snv x.1, x.2)
theorem YMap.lt {w : World} {b : Nat} {l : List (Snd × Value)} (h : YMap w b l) : b < w.heap.size := by
  obtain ⟨es, n, hh, _⟩ := h
  exact (Array.getElem?_eq_some_iff.1 hh).1
theorem YMap.keep {w w' : World} {b : Nat} {l : List (Snd × Value)} (h : YMap w b l) (e : w'.heap[b]? = w.heap[b]?) : YMap w' b l := by
  obtain ⟨es, n, hh, hl⟩ := h
  exact ⟨es, n, e.trans hh, hl⟩
theorem YMap.below {w w' : World} {b : Nat} {l : List (Snd × Value)} (h : YMap w b l) (hb : Below w.heap.size w w') : YMap w' b l := h.keep (hb.block b h.lt)
/-- The first entry with a key: its place and its value. -/
def fndY (k : Snd) : List (Snd × Value) → Nat → Option (Nat × Value)
  | [], _ => none
  | x :: l, i => if k = x.1 then some (i, x.2) else fndY k l (i + 1)
theorem findAsking_y (k : Snd) (w : World) : ∀ (es : List MapEntry) (l : List (Snd × Value)) (i : Nat), es.map (fun e => (e.key, e.val)) = l.map (fun x => (snv x.1, x.2)) → (Instr.findAsking 27 (snv k) es i).run Tryd.prog w = .ok (fndY k l i) w
  | [], [], _, _ => rfl
  | [], _ :: _, _, h => by simp at h
  | _ :: _, [], _, h => by simp at h
  | e :: es, x :: l, i, h => by
    simp only [List.map_cons, List.cons.injEq, Prod.mk.injEq] at h
    obtain ⟨⟨h1, h2⟩, h3⟩ := h
    have ih := findAsking_y k w es l (i + 1) h3
    unfold Instr.findAsking fndY
    rw [h1, h2]
    simp only [Sem.run_bind, snv_eq, Result.andThen_ok]
    by_cases hk : k = x.1
    · rw [if_pos hk, decide_eq_true hk]; rfl
    · rw [if_neg hk, decide_eq_false hk]
      exact ih
theorem findNow_y (k : Snd) (fs : Array Field) : ∀ (es : List MapEntry) (l : List (Snd × Value)) (i : Nat), es.map (fun e => (e.key, e.val)) = l.map (fun x => (snv x.1, x.2)) → Instr.findNow (.struct fs) (snv k) es i = some (fndY k l i) ∨ Instr.findNow (.struct fs) (snv k) es i = none
  | [], [], _, _ => .inl rfl
  | [], _ :: _, _, h => by simp at h
  | _ :: _, [], _, h => by simp at h
  | e :: es, x :: l, i, h => by
    refine .inr ?_
    simp only [List.map_cons, List.cons.injEq, Prod.mk.injEq] at h
    unfold Instr.findNow
    rw [h.1.1]
    rfl
theorem run_find_y (k : Snd) (es : List MapEntry) (l : List (Snd × Value)) (h : es.map (fun e => (e.key, e.val)) = l.map (fun x => (snv x.1, x.2))) (w : World) :
    (Instr.findKey 27 (snv k) es).run Tryd.prog w = .ok (fndY k l 0) w := by
  unfold Instr.findKey
  simp only [Sem.run_bind, run_underlying Tryd.underlying27, Result.andThen_ok]
  rcases findNow_y k _ es l 0 h with e | e
  · rw [e]; rfl
  · rw [e]; exact findAsking_y k w es l 0 h
theorem run_lookup_y {T E : TypeId} (hT : Tryd.prog.underlying T = some (.map 27 E)) {z : Value} (hz : ∀ w, (zeroValue E).run Tryd.prog w = .ok z w) {w : World} {b : Nat} {l : List (Snd × Value)} (h : YMap w b l) (k : Snd) :
    (Instr.lookup T (.map (some b)) (snv k) true).run Tryd.prog w = .ok (.tuple #[((fndY k l 0).map (·.2)).getD z, .bool (fndY k l 0).isSome]) w := by
  obtain ⟨es, n, hh, hl⟩ := h
  unfold Instr.lookup
  simp only [Sem.run_bind, run_underlying hT, Result.andThen_ok, Sem.run_pure, MapKept.run_getObj_map hh, run_check_y, run_find_y k es.toList l hl]
  cases hf : fndY k l 0 with
  | none => simp [Sem.run_bind, hz, Result.andThen_ok, Sem.run_pure]
  | some x => simp [Sem.run_pure]
/-- A store of a key that is not there. -/
theorem run_update_y {T E : TypeId} (hT : Tryd.prog.underlying T = some (.map 27 E)) {w : World} {b : Nat} {l : List (Snd × Value)} (h : YMap w b l) (k : Snd) (v : Value) (hf : fndY k l 0 = none) :
    ∃ w', (Instr.mapUpdate T (.map (some b)) (snv k) v).run Tryd.prog w = .ok () w' ∧ YMap w' b (l ++ [(k, v)]) ∧ w.grownBy w' (some b) := by
  obtain ⟨es, n, hh, hl⟩ := h
  have grow : ∀ o : Obj, w.grownBy { w with heap := w.heap.setIfInBounds b o } (some b) := fun o =>
    ⟨rfl, rfl, rfl, by simp, fun j hj hne => by
      show (w.heap.setIfInBounds b o)[j]? = w.heap[j]?
      rw [Array.getElem?_setIfInBounds_ne (by intro e; exact hne (by rw [e]))]⟩
  have hb := (Array.getElem?_eq_some_iff.1 hh).1
  unfold Instr.mapUpdate
  simp only [Sem.run_bind, run_underlying hT, Result.andThen_ok, MapKept.run_getObj_map hh, run_check_y, run_find_y k es.toList l hl, hf]
  refine ⟨_, MapKept.run_setObj_map _ hh, ⟨es.push { key := snv k, val := v, born := n }, n + 1, ?_, ?_⟩, grow _⟩
  · show (w.heap.setIfInBounds b _)[b]? = _
    rw [Array.getElem?_setIfInBounds_self_of_lt hb]
  · rw [Array.toList_push, List.map_append, hl, List.map_append]
    rfl
end Go.Proofs.YtpnmapfabjdfjaaDoor

/-
  Sets of sounds, kept in a map whose values are true.
-/
namespace Go.Proofs.YtpnmapfabjdfjaaDoor
open Go.RowKit Go.Sort
theorem same_snv (k : Snd) : Instr.sameBits 10000 (snv k) (snv k) = true := by
  unfold snv
  simp [Instr.sameBits]
/-- The sounds of a set, as a map holds them. -/
def tru (ks : List Snd) : List (Snd × Value) := ks.map fun s => (s, .bool true)
def addS (ks : List Snd) (k : Snd) : List Snd := if k ∈ ks then ks else ks ++ [k]
/-- The different sounds of a list, in the order in which they come. -/
def setS (l : List Snd) : List Snd := l.foldl addS []
theorem setS_snoc (l : List Snd) (x : Snd) : setS (l ++ [x]) = addS (setS l) x := by unfold setS; rw [List.foldl_append]; rfl
theorem fnd_tru (k : Snd) : ∀ (ks : List Snd) (i : Nat), (k ∉ ks ∧ fndY k (tru ks) i = none) ∨ (k ∈ ks ∧ ∃ p, ∃ h : p < ks.length, ks[p] = k ∧ fndY k (tru ks) i = some (i + p, .bool true))
  | [], i => .inl ⟨by simp, rfl⟩
  | x :: ks, i => by
    by_cases e : k = x
    · refine .inr ⟨by simp [e], 0, by simp, by simp [e], ?_⟩
      show (if k = x then some (i, Value.bool true) else _) = _
      rw [if_pos e]
      rfl
    · have hs : fndY k (tru (x :: ks)) i = fndY k (tru ks) (i + 1) := by
        show (if k = x then _ else _) = _
        rw [if_neg e]
        rfl
      rcases fnd_tru k ks (i + 1) with ⟨h1, h2⟩ | ⟨h1, p, hp, h2, h3⟩
      · exact .inl ⟨by simp [e, h1], by rw [hs, h2]⟩
      · exact .inr ⟨by simp [h1], p + 1, by simp; omega, by simpa using h2, by rw [hs, h3]; congr 2; omega⟩
theorem run_update_t {T E : TypeId} (hT : Tryd.prog.underlying T = some (.map 27 E)) {w : World} {b : Nat} {ks : List Snd} (h : YMap w b (tru ks)) (k : Snd) :
    ∃ w', (Instr.mapUpdate T (.map (some b)) (snv k) (.bool true)).run Tryd.prog w = .ok () w' ∧ YMap w' b (tru (addS ks k)) ∧ w.grownBy w' (some b) := by
  rcases fnd_tru k ks 0 with ⟨h1, h2⟩ | ⟨h1, p, hp, h2, h3⟩
  · have := run_update_y hT h k (.bool true) h2
    unfold addS
    rw [if_neg h1]
    unfold tru
    rw [List.map_append]
    exact this
  · obtain ⟨es, n, hh, hl⟩ := h
    rw [Nat.zero_add] at h3
    have hlen : es.size = ks.length := by have := congrArg List.length hl; simpa [tru] using this
    have grow : ∀ o : Obj, w.grownBy { w with heap := w.heap.setIfInBounds b o } (some b) := fun o =>
      ⟨rfl, rfl, rfl, by simp, fun j hj hne => by
        show (w.heap.setIfInBounds b o)[j]? = w.heap[j]?
        rw [Array.getElem?_setIfInBounds_ne (by intro e; exact hne (by rw [e]))]⟩
    have hb := (Array.getElem?_eq_some_iff.1 hh).1
    have hpe : p < es.size := by omega
    have hent : (es[p].key, es[p].val) = (snv k, Value.bool true) := by
      have e := congrArg (fun z => z[p]?) hl
      simp only [List.getElem?_map, Array.getElem?_toList, Array.getElem?_eq_getElem hpe, tru, List.getElem?_eq_getElem hp, Option.map_some, Option.some.injEq, h2] at e
      exact e
    have hkey : es[p].key = snv k := (Prod.mk.inj hent).1
    have hval : es[p].val = .bool true := (Prod.mk.inj hent).2
    unfold Instr.mapUpdate
    simp only [Sem.run_bind, run_underlying hT, Result.andThen_ok, MapKept.run_getObj_map hh, run_check_y, run_find_y k es.toList (tru ks) hl, h3]
    have hk : (((es[p]?).map (·.key)).getD (snv k)) = snv k := by rw [Array.getElem?_eq_getElem hpe]; exact hkey
    simp only [hk, Instr.keyThatStays, same_snv, if_true, Sem.run_bind, Sem.run_pure, Result.andThen_ok]
    refine ⟨_, MapKept.run_setObj_map _ hh, ⟨es.modify p fun e => { e with key := snv k, val := .bool true }, n, ?_, ?_⟩, grow _⟩
    · show (w.heap.setIfInBounds b _)[b]? = _
      rw [Array.getElem?_setIfInBounds_self_of_lt hb]
    · unfold addS
      rw [if_pos h1, Array.toList_modify, ← hl]
      apply List.ext_getElem?
      intro j
      rw [List.getElem?_map, List.getElem?_modify, List.getElem?_map]
      by_cases e : p = j
      · subst e
        simp [hpe, hkey, hval]
      · simp [e]
theorem wpList_update_t {ops : Array Oper} {rest : List Oper} {o : Oper} {a : Act} {w : World} {Q : Exit → Act → World → Prop} (hg : o.guard = none) (m x v : Operand) (t : TypeId) (hop : o.op = Op.mapUpdate t m x v) {E : TypeId} (hT : Tryd.prog.underlying t = some (.map 27 E))
    (b : Nat) (ks : List Snd) (k : Snd) (hm : a.eval m = .map (some b)) (hx : a.eval x = snv k) (hv : a.eval v = .bool true) (h : YMap w b (tru ks))
    (hk : ∀ w', YMap w' b (tru (addS ks k)) → w.grownBy w' (some b) → wpList Tryd.prog ops Q rest (a.put o.dst undef) w') : wpList Tryd.prog ops Q (o :: rest) a w := by
  refine wpList_plain hg fun K' hK' => ?_
  obtain ⟨w', hrun, r1, r2⟩ := run_update_t hT h k
  unfold Oper.wp
  simp [execOp, hop, hm, hx, hv, hrun, Result.andThen]
  exact hK' _ _ (hk w' r1 r2)
theorem wpList_len_y {ops : Array Oper} {rest : List Oper} {o : Oper} {a : Act} {w : World} {Q : Exit → Act → World → Prop} (hg : o.guard = none) (m : Operand) (t : TypeId) (hop : o.op = Op.call { callee := Callee.builtin Builtin.len, args := #[m], argTypes := #[t] }) {K E : TypeId} (hT : Tryd.prog.underlying t = some (.map K E))
    (b : Nat) (l : List (Snd × Value)) (hm : a.eval m = .map (some b)) (h : YMap w b l) (hk : wpList Tryd.prog ops Q rest (a.put o.dst (.int .i64 (l.length : Int))) w) : wpList Tryd.prog ops Q (o :: rest) a w := by
  refine wpList_plain hg fun K' hK' => ?_
  obtain ⟨es, n, hh, hl⟩ := h
  have hlen : es.size = l.length := by have := congrArg List.length hl; simpa using this
  have hrun : (Builtin.len_ #[t] o.type #[.map (some b)]).run Tryd.prog w = .ok (.int .i64 (l.length : Int)) w := by
    rw [← hlen]
    simp [Builtin.len_, run_underlying hT, MapKept.run_getObj_map hh, goInt, Result.andThen]
  unfold Oper.wp
  simp [execOp, hop, resolve, invoke, builtin, hm, hrun, Result.andThen]
  exact hK' _ _ hk
theorem run_len_y {t T K E : TypeId} (hT : Tryd.prog.underlying t = some (.map K E)) {w : World} {b : Nat} {l : List (Snd × Value)} (h : YMap w b l) : (Builtin.len_ #[t] T #[.map (some b)]).run Tryd.prog w = .ok (.int .i64 (l.length : Int)) w := by
  obtain ⟨es, n, hh, hl⟩ := h
  have hlen : es.size = l.length := by have := congrArg List.length hl; simpa using this
  rw [← hlen]
  simp [Builtin.len_, run_underlying hT, MapKept.run_getObj_map hh, goInt, Result.andThen]
/-- A look-up in a set. -/
theorem run_has_y {T E : TypeId} (hT : Tryd.prog.underlying T = some (.map 27 E)) (hz : ∀ w, (zeroValue E).run Tryd.prog w = .ok (.bool false) w) {w : World} {b : Nat} {ks : List Snd} (h : YMap w b (tru ks)) (k : Snd) :
    (Instr.lookup T (.map (some b)) (snv k) false).run Tryd.prog w = .ok (.bool (decide (k ∈ ks))) w := by
  obtain ⟨es, n, hh, hl⟩ := h
  unfold Instr.lookup
  simp only [Sem.run_bind, run_underlying hT, Result.andThen_ok, Sem.run_pure, MapKept.run_getObj_map hh, run_check_y, run_find_y k es.toList (tru ks) hl]
  rcases fnd_tru k ks 0 with ⟨h1, h2⟩ | ⟨h1, p, hp, _, h3⟩
  · rw [h2, decide_eq_false h1]
    simp [Sem.run_bind, hz, Result.andThen_ok, Sem.run_pure]
  · rw [h3, decide_eq_true h1]
    simp [Sem.run_pure]
theorem addS_len (ks : List Snd) (k : Snd) : (addS ks k).length ≤ ks.length + 1 := by
  unfold addS
  split
  · omega
  · simp
theorem setS_len : ∀ l : List Snd, (setS l).length ≤ l.length := fun l => by
  have key : ∀ (l ks : List Snd), (l.foldl addS ks).length ≤ ks.length + l.length := fun l => by
    induction l with
    | nil => intro ks; simp
    | cons x l ih =>
      intro ks
      have h1 := ih (addS ks x)
      have h2 := addS_len ks x
      simp only [List.foldl_cons, List.length_cons]
      omega
  have := key l []
  simpa [setS] using this
theorem mem_setS (l : List Snd) (x : Snd) : x ∈ setS l ↔ x ∈ l := by
  have key : ∀ (l ks : List Snd), x ∈ l.foldl addS ks ↔ x ∈ ks ∨ x ∈ l := fun l => by
    induction l with
    | nil => intro ks; simp
    | cons y l ih =>
      intro ks
      simp only [List.foldl_cons, ih, List.mem_cons]
      have : x ∈ addS ks y ↔ x ∈ ks ∨ x = y := by
        unfold addS
        split
        · rename_i h
          constructor
          · exact fun h1 => .inl h1
          · rintro (h1 | rfl)
            · exact h1
            · exact h
        · simp
      rw [this, or_assoc]
  have := key l []
  simpa [setS] using this
end Go.Proofs.YtpnmapfabjdfjaaDoor

/-
  set and check of package natural.
-/
namespace Go.Proofs.YtpnmapfabjdfjaaDoor
open Go.RowKit Go.Sort
theorem take_all {α : Type} {p : α → Bool} {l : List α} (h : ∀ j (hj : j < l.length), p l[j] = true) : l.all p = true := by
  rw [List.all_eq_true]
  intro x hx
  obtain ⟨j, hj, rfl⟩ := List.getElem_of_mem hx
  exact h j hj
theorem take_no {α : Type} {p : α → Bool} {l : List α} {k : Nat} (hk : k < l.length) (h : p l[k] = false) : l.all p = false := by
  rw [List.all_eq_false]
  exact ⟨l[k], List.getElem_mem hk, by simp [h]⟩
set_option maxRecDepth 100000 in
set_option maxHeartbeats 4000000 in
theorem set_any (l : List Snd) (v : Value) (w : World) (h : Wd w v l) : Calls Tryd.prog 48 #[v] w fun e w' => ∃ b, e = .returned (.map (some b)) ∧ YMap w' b (tru (setS l)) ∧ Below w.heap.size w w' := by
  have hmm := @run_makeMap Tryd.prog
  obtain ⟨ao, cap, rfl, c1, m1, hc⟩ := h.open
  obtain ⟨N, hN⟩ : ∃ N, l.length = N := ⟨_, rfl⟩
  have HC := Lib.hid hc; have HN := Lib.hid hN
  have l1 : N ≤ 9223372036854775807 := by unfold maxLen at m1; omega
  rw [hN] at c1 ⊢
  clear hc h hN m1
  go_enter Tryd.func48, Tryd.ntmps48
  go_wp2_with fail
  go_loopw [9] (fun i wr => ∃ k : Nat, k ≤ N ∧ i = .int .i64 (k : Int) ∧ YMap wr w.heap.size (tru (setS (l.take k))) ∧ Below w.heap.size w wr) (fun i _ => N - (intOf i).toNat)
  case atStart => exact ⟨0, by omega, rfl, ⟨#[], 0, World.alloc_heap_new w _, rfl⟩, (Below.refl _ w).alloc (Nat.le_refl _) _⟩
  case round =>
    obtain ⟨k, hk, rfl, hs, hw⟩ := hrel
    by_cases hlt : k < N
    · have hkl : k < l.length := by rw [HN.out]; exact hlt
      obtain ⟨b, off, hao, lb, d0, d1⟩ := HC.out k hkl
      subst hao
      have d0 := (hw.cell (p := ⟨b, _, none⟩) lb).trans d0
      have d1 := (hw.cell (p := ⟨b, _, none⟩) lb).trans d1
      have hsn := setS_snoc (l.take k) l[k]
      rw [← List.take_succ_eq_append_getElem hkl] at hsn
      have hb8 := (Below.refl wr.heap.size wr).alloc (Nat.le_refl _) (.cells #[.int .u32 (l[k].1.toNat : Int), .int .u32 (l[k].2.toNat : Int)] 27)
      have hs8 := hs.below hb8
      have hw8 := hw.trans (hb8.mono hw.size)
      have HS8 := Lib.hid hs8; have HW8 := Lib.hid hw8; have HSN := Lib.hid hsn
      clear hs hw hb8 hs8 hw8 hsn HC
      generalize l[k] = x at *
      obtain ⟨p, m⟩ := x
      simp only at d0 d1 HS8 HW8
      generalize setS (l.take k) = ks at *
      go_wp2_with (at_mapUpdate; refine wpList_update_t rfl (.tmp 13) (.tmp 14) (.const (.bool true)) 71 rfl Tryd.underlying71 w.heap.size ks (p, m) rfl rfl rfl HS8.out ?_; intro w2 hs2 hg2; have HS2 := Lib.hid hs2; have HW2 := Lib.hid (HW8.out.grown hg2 HW8.out.size (fun j e => by cases e; exact Nat.le_refl _)); clear hs2 hg2)
      go_roundw
      case rel => exact ⟨k + 1, by omega, by go_num, by rw [HSN.out]; exact HS2.out, HW2.out⟩
      case measure => simp [intOf]; omega
    · obtain rfl : k = N := by omega
      have hs : YMap wr w.heap.size (tru (setS l)) := by
        rw [← HN.out, List.take_length] at hs
        exact hs
      have HS := Lib.hid hs; have HW := Lib.hid hw
      clear hs hw hlt
      go_wp2_with fail
      go_returns
      exact ⟨_, rfl, HS.out, HW.out⟩
/-- The error of an inventory. -/
def ckE (l : List Snd) (most : Nat) : Int := if most < l.length then 12 else if l.all fun s => vld s.1 s.2 then (if (setS l).length < l.length then 6 else 0) else 14
end Go.Proofs.YtpnmapfabjdfjaaDoor

/-
  check of package natural.
-/
namespace Go.Proofs.YtpnmapfabjdfjaaDoor
open Go.RowKit Go.Sort
theorem gv_vld (s : Snd) (w : World) : Gives 40 #[.agg #[.int .u32 (s.1.toNat : Int), .int .u32 (s.2.toNat : Int)]] w (.bool (vld s.1 s.2)) := valid_any s.1 s.2 _ rfl w
set_option maxRecDepth 100000 in
set_option maxHeartbeats 4000000 in
theorem check_any (l : List Snd) (v : Value) (most : Nat) (w : World) (hm : most ≤ 1000000) (h : Wd w v l) : Gives 46 #[v, .int .i64 (most : Int)] w (.int .i64 (ckE l most)) := by
  unfold Gives
  have hset := fun (W : World) (hb : Below w.heap.size w W) => set_any l v W (h.below hb)
  obtain ⟨ao, cap, rfl, c1, m1, hc⟩ := h.open
  obtain ⟨N, hN⟩ : ∃ N, l.length = N := ⟨_, rfl⟩
  obtain ⟨E, hE⟩ : ∃ E, ckE l most = E := ⟨_, rfl⟩
  have hE1 := hE
  unfold ckE at hE1
  rw [hN] at c1 hset hE1 ⊢
  rw [hE]
  have HE := Lib.hid hE1; have HC := Lib.hid hc; have HN := Lib.hid hN; have HSET := Lib.hid hset
  have l1 : N ≤ 9223372036854775807 := by unfold maxLen at m1; omega
  have l2 : most ≤ 9223372036854775807 := by omega
  clear hc h hN m1 hset hE hE1
  by_cases hbig : most < N
  · have he := HE.out
    rw [if_pos hbig] at he
    subst he
    have e1 : decide (most < N) = true := decide_eq_true hbig
    have e2 : decide ((most : Int) < (N : Int)) = true := decide_eq_true (by omega)
    clear hbig
    go_enter Tryd.func46, Tryd.ntmps46
    go_wp2_with fail
    go_returns
    exact ⟨rfl, Below.refl _ _⟩
  · have he := HE.out
    rw [if_neg hbig] at he
    have HE := Lib.hid he
    have e1 : decide (most < N) = false := decide_eq_false hbig
    have e2 : decide ((most : Int) < (N : Int)) = false := decide_eq_false (by omega)
    clear hbig he
    go_enter Tryd.func46, Tryd.ntmps46
    go_wp2_with fail
    go_loopw [13] (fun i wr => ∃ k : Nat, k ≤ N ∧ i = .int .i64 (k : Int) ∧ (∀ j (hj : j < l.length), j < k → vld l[j].1 l[j].2 = true) ∧ Below w.heap.size w wr) (fun i _ => N - (intOf i).toNat)
    case atStart => exact ⟨0, by omega, rfl, fun j _ hj => by omega, Below.refl _ _⟩
    case round =>
      obtain ⟨k, hk, rfl, hall, hw⟩ := hrel
      have HALL := Lib.hid hall
      clear hall
      by_cases hlt : k < N
      · have hkl : k < l.length := by rw [HN.out]; exact hlt
        obtain ⟨b, off, hao, lb, d0, d1⟩ := HC.out k hkl
        subst hao
        have d0 := (hw.cell (p := ⟨b, _, none⟩) lb).trans d0
        have d1 := (hw.cell (p := ⟨b, _, none⟩) lb).trans d1
        have hsz := hw.size
        have HW8 := Lib.hid (hw.alloc hsz (.cells #[.int .u32 (l[k].1.toNat : Int), .int .u32 (l[k].2.toNat : Int)] 27))
        have hv := gv_vld l[k]
        have hmore : vld l[k].1 l[k].2 = true → ∀ j (hj : j < l.length), j < k + 1 → vld l[j].1 l[j].2 = true := fun h j hj hjk => by
          by_cases e : j = k
          · subst e; exact h
          · exact HALL.out j hj (by omega)
        have hno := fun h => take_no (p := fun s : Snd => vld s.1 s.2) hkl h
        have HM := Lib.hid hmore; have HNO := Lib.hid hno
        clear hmore hno hw HC
        generalize l[k] = x at *
        obtain ⟨p, m⟩ := x
        simp only at d0 d1 HW8 hv HM HNO
        rcases hvv : vld p m with _ | _
        · rw [hvv] at hv
          have he := HE.out
          rw [HNO.out hvv, if_neg (by decide)] at he
          have HV := Lib.hid hv
          subst he
          clear hv hvv HM HNO
          go_wp2_with (go_at_call 40; (with_reducible refine Gives.then (HV.out _) ?_); intro w2 hb2; have HW2 := Lib.hid (HW8.out.trans (hb2.mono HW8.out.size)); clear hb2)
          go_returns
          exact ⟨rfl, HW2.out⟩
        · rw [hvv] at hv
          have HV := Lib.hid hv
          have HM := Lib.hid (HM.out hvv)
          clear hv hvv HNO
          go_wp2_with (go_at_call 40; (with_reducible refine Gives.then (HV.out _) ?_); intro w2 hb2; have HW2 := Lib.hid (HW8.out.trans (hb2.mono HW8.out.size)); clear hb2)
          go_roundw
          case rel => exact ⟨k + 1, by omega, by go_num, HM.out, HW2.out⟩
          case measure => simp [intOf]; omega
      · obtain rfl : k = N := by omega
        have he := HE.out
        rw [take_all (p := fun s : Snd => vld s.1 s.2) (fun j hj => HALL.out j hj (by rw [← HN.out]; exact hj)), if_pos rfl] at he
        have HE := Lib.hid he; have HW := Lib.hid hw
        obtain ⟨q, hq⟩ : ∃ q, (setS l).length = q := ⟨_, rfl⟩
        rw [hq] at he
        have HQ := Lib.hid hq
        clear hw hlt hq HALL
        go_wp2_with fail
        go_at_call 48
        refine (HSET.out _ HW.out).mono ?_
        rintro e w2 ⟨b, rfl, hy, hb2⟩
        have hw2 := HW.out.trans (hb2.mono HW.out.size)
        have hlen : (tru (setS l)).length = q := by unfold tru; rw [List.length_map, HQ.out]
        have HY := Lib.hid hy; have HW2 := Lib.hid hw2; have HL := Lib.hid hlen
        clear hb2 hy hw2 hlen
        by_cases hd : q < k
        · rw [if_pos hd] at he
          subst he
          have e3 : decide ((q : Int) < (k : Int)) = true := decide_eq_true (by omega)
          have e4 : decide (q < k) = true := decide_eq_true hd
          go_wp2_with fail
          rw [run_len_y Tryd.underlying71 HY.out, HL.out]
          simp only [Result.andThen]
          rw [Oper.upon_value]
          go_wp2_with fail
          go_returns
          exact ⟨rfl, HW2.out⟩
        · rw [if_neg hd] at he
          subst he
          have e3 : decide ((q : Int) < (k : Int)) = false := decide_eq_false (by omega)
          have e4 : decide (q < k) = false := decide_eq_false hd
          go_wp2_with fail
          rw [run_len_y Tryd.underlying71 HY.out, HL.out]
          simp only [Result.andThen]
          rw [Oper.upon_value]
          go_wp2_with fail
          go_returns
          exact ⟨rfl, HW2.out⟩
end Go.Proofs.YtpnmapfabjdfjaaDoor

/-
  within of package natural: slices.ContainsFunc with a set.
-/
namespace Go.Proofs.YtpnmapfabjdfjaaDoor
open Go.RowKit Go.Sort
set_option maxRecDepth 100000 in
set_option maxHeartbeats 1000000 in
theorem not_in (x : Snd) (ks : List Snd) (D b : Nat) (w : World) (hD : w.cell? ⟨D, 0, none⟩ = some (.map (some b))) (lD : D < w.heap.size) (h : YMap w b (tru ks)) : Gives 80 #[.agg #[.int .u32 (x.1.toNat : Int), .int .u32 (x.2.toNat : Int)], .pointer (some ⟨D, 0, none⟩)] w (.bool !(decide (x ∈ ks))) := by
  unfold Gives
  have hb0 := (Below.refl w.heap.size w).alloc (Nat.le_refl _) (.cells #[.int .u32 (x.1.toNat : Int), .int .u32 (x.2.toNat : Int)] 27)
  have hlk := run_has_y Tryd.underlying71 (fun _ => by kernel_rfl) (h.below ((Below.refl w.heap.size w).alloc (Nat.le_refl _) (.cells #[.int .u32 (x.1.toNat : Int), .int .u32 (x.2.toNat : Int)] 27))) x
  unfold snv at hlk
  have d0 := cell_past (X := .cells #[.int .u32 (x.1.toNat : Int), .int .u32 (x.2.toNat : Int)] 27) lD hD
  generalize decide (x ∈ ks) = c at *
  clear h
  go_enter Tryd.func80, Tryd.ntmps80
  go_wp2_with fail
  go_returns
  exact ⟨rfl, hb0⟩
/-- The place of the first sound that is not in a set. -/
def outN (ks : List Snd) : List Snd → Nat → Int
  | [], _ => -1
  | x :: l, i => if x ∈ ks then outN ks l (i + 1) else (i : Int)
theorem out_at (ks : List Snd) : ∀ (l : List Snd) (i k : Nat) (hk : k < l.length), (∀ j (hj : j < l.length), j < k → l[j] ∈ ks) → l[k] ∉ ks → outN ks l i = ((i + k : Nat) : Int)
  | x :: l, i, 0, _, _, h => by
    have h : x ∉ ks := h
    unfold outN
    rw [if_neg h]
    rfl
  | x :: l, i, k + 1, hk, ha, h => by
    have h0 : x ∈ ks := ha 0 (by simp) (by omega)
    have h : l[k]'(Nat.lt_of_succ_lt_succ hk) ∉ ks := h
    unfold outN
    rw [if_pos h0, out_at ks l (i + 1) k (by simpa using hk) (fun j hj hjk => ha (j + 1) (Nat.succ_lt_succ hj) (by omega)) h]
    congr 1
    omega
theorem out_no (ks : List Snd) : ∀ (l : List Snd) (i : Nat), (∀ j (hj : j < l.length), l[j] ∈ ks) → outN ks l i = -1
  | [], _, _ => rfl
  | x :: l, i, h => by
    have h0 : x ∈ ks := h 0 (by simp)
    unfold outN
    rw [if_pos h0, out_no ks l (i + 1) (fun j hj => h (j + 1) (Nat.succ_lt_succ hj))]
theorem out_ge (ks : List Snd) (l : List Snd) : decide (0 ≤ outN ks l 0) = !(l.all fun x => decide (x ∈ ks)) := by
  have key : ∀ (l : List Snd) (i : Nat), (0 ≤ outN ks l i) ↔ ¬ ∀ x ∈ l, x ∈ ks := fun l => by
    induction l with
    | nil => intro i; simp [outN]
    | cons x l ih =>
      intro i
      unfold outN
      by_cases e : x ∈ ks
      · rw [if_pos e, ih (i + 1)]
        simp [e]
      · rw [if_neg e]
        simp only [List.mem_cons, forall_eq_or_imp, e, false_and, not_false_eq_true, iff_true]
        omega
  by_cases h : ∀ x ∈ l, x ∈ ks
  · have h1 : (l.all fun x => decide (x ∈ ks)) = true := by rw [List.all_eq_true]; exact fun x hx => decide_eq_true (h x hx)
    rw [h1, decide_eq_false (fun h2 => (key l 0).1 h2 h)]
    rfl
  · have h1 : (l.all fun x => decide (x ∈ ks)) = false := by
      rw [List.all_eq_false]
      obtain ⟨x, hx, h2⟩ : ∃ x, x ∈ l ∧ x ∉ ks := Classical.byContradiction fun hn => h fun x hx => Classical.byContradiction fun h2 => hn ⟨x, hx, h2⟩
      exact ⟨x, hx, by simp [h2]⟩
    rw [h1, decide_eq_true ((key l 0).2 h)]
    rfl
set_option maxRecDepth 100000 in
set_option maxHeartbeats 4000000 in
theorem index_out (l ks : List Snd) (v : Value) (D b : Nat) (w : World) (hv : Wd w v l) (hD : w.cell? ⟨D, 0, none⟩ = some (.map (some b))) (lD : D < w.heap.size) (h : YMap w b (tru ks)) : Gives 101 #[v, .func (.func 80) #[] #[.pointer (some ⟨D, 0, none⟩)]] w (.int .i64 (outN ks l 0)) := by
  unfold Gives
  obtain ⟨ao, cap, rfl, c1, m1, hc⟩ := hv.open
  obtain ⟨N, hN⟩ : ∃ N, l.length = N := ⟨_, rfl⟩
  obtain ⟨E, hE⟩ : ∃ E, outN ks l 0 = E := ⟨_, rfl⟩
  have HC := Lib.hid hc; have HN := Lib.hid hN; have HE := Lib.hid hE; have HY := Lib.hid h; have HD := Lib.hid hD
  have l1 : N ≤ 9223372036854775807 := by unfold maxLen at m1; omega
  rw [hN] at c1 ⊢
  rw [hE]
  clear hc hN m1 hE h hD hv
  go_enter Tryd.func101, Tryd.ntmps101
  go_wp2_with fail
  go_loopw [8] (fun i wr => ∃ k : Nat, k ≤ N ∧ i = .int .i64 (k : Int) ∧ (∀ j (hj : j < l.length), j < k → l[j] ∈ ks) ∧ Below w.heap.size w wr) (fun i _ => N - (intOf i).toNat)
  case atStart => exact ⟨0, by omega, rfl, fun j _ hj => by omega, Below.refl _ _⟩
  case round =>
    obtain ⟨k, hk, rfl, hall, hw⟩ := hrel
    have HALL := Lib.hid hall
    clear hall
    by_cases hlt : k < N
    · have hkl : k < l.length := by rw [HN.out]; exact hlt
      obtain ⟨b', off, hao, lb, d0, d1⟩ := HC.out k hkl
      subst hao
      have d0 := (hw.cell (p := ⟨b', _, none⟩) lb).trans d0
      have d1 := (hw.cell (p := ⟨b', _, none⟩) lb).trans d1
      have hni := not_in l[k] ks D b wr ((hw.cell (p := ⟨D, 0, none⟩) lD).trans HD.out) (Nat.lt_of_lt_of_le lD hw.size) (HY.out.below hw)
      have hyes : l[k] ∈ ks → ∀ j (hj : j < l.length), j < k + 1 → l[j] ∈ ks := fun h j hj hjk => by
        by_cases e : j = k
        · subst e; exact h
        · exact HALL.out j hj (by omega)
      have hno : l[k] ∉ ks → E = (k : Int) := fun h => by
        rw [← HE.out, out_at ks l 0 k hkl (fun j hj hjk => HALL.out j hj hjk) h, Nat.zero_add]
      have HYES := Lib.hid hyes; have HNO := Lib.hid hno; have HW := Lib.hid hw
      clear hyes hno hw HC
      generalize l[k] = x at *
      obtain ⟨p, m⟩ := x
      simp only at d0 d1 hni
      by_cases hx : (p, m) ∈ ks
      · rw [decide_eq_true hx] at hni
        have HNI := Lib.hid hni
        have HYES := Lib.hid (HYES.out hx)
        clear hni hx HNO
        go_wp2_with (go_at_call 80; (with_reducible refine Gives.then HNI.out ?_); intro w1 hb1; have HW1 := Lib.hid (HW.out.trans (hb1.mono HW.out.size)); clear hb1)
        go_roundw
        case rel => exact ⟨k + 1, by omega, by go_num, HYES.out, HW1.out⟩
        case measure => simp [intOf]; omega
      · rw [decide_eq_false hx] at hni
        have HNI := Lib.hid hni
        have he := HNO.out hx
        subst he
        clear hni hx HYES HNO
        go_wp2_with (go_at_call 80; (with_reducible refine Gives.then HNI.out ?_); intro w1 hb1; have HW1 := Lib.hid (HW.out.trans (hb1.mono HW.out.size)); clear hb1)
        go_returns
        exact ⟨rfl, HW1.out⟩
    · obtain rfl : k = N := by omega
      have he : E = -1 := by rw [← HE.out]; exact out_no ks l 0 (fun j hj => HALL.out j hj (by rw [← HN.out]; exact hj))
      subst he
      go_wp2_with fail
      go_returns
      exact ⟨rfl, hw⟩
set_option maxRecDepth 100000 in
set_option maxHeartbeats 1000000 in
theorem contains_out (l ks : List Snd) (v : Value) (D b : Nat) (w : World) (hv : Wd w v l) (hD : w.cell? ⟨D, 0, none⟩ = some (.map (some b))) (lD : D < w.heap.size) (h : YMap w b (tru ks)) : Gives 79 #[v, .func (.func 80) #[] #[.pointer (some ⟨D, 0, none⟩)]] w (.bool !(l.all fun x => decide (x ∈ ks))) := by
  unfold Gives
  have hi := index_out l ks v D b w hv hD lD h
  have hg := out_ge ks l
  obtain ⟨ao, cap, rfl, -, -, -⟩ := hv.open
  generalize outN ks l 0 = E at *
  rw [← hg]
  have HI := Lib.hid hi
  clear hi hv hD h hg
  go_enter Tryd.func79, Tryd.ntmps79
  go_wp2_with (go_at_call 101; (with_reducible refine Gives.then HI.out ?_); intro w1 hb1)
  go_returns
  exact ⟨rfl, hb1⟩
set_option maxRecDepth 100000 in
set_option maxHeartbeats 1000000 in
theorem inside_any (l ks : List Snd) (v : Value) (b : Nat) (w : World) (hv : Wd w v l) (h : YMap w b (tru ks)) : Gives 47 #[v, .map (some b)] w (.bool (l.all fun x => decide (x ∈ ks))) := by
  unfold Gives
  have hb0 := (Below.refl w.heap.size w).alloc (Nat.le_refl _) (.cells #[.map (some b)] 71)
  have hc := contains_out l ks v w.heap.size b (w.alloc (.cells #[.map (some b)] 71)) (hv.below hb0) (cell_block (World.alloc_heap_new w _) rfl) (by rw [World.size_alloc]; omega) (h.below hb0)
  obtain ⟨ao, cap, rfl, -, -, -⟩ := hv.open
  generalize (l.all fun x => decide (x ∈ ks)) = c at *
  have HCO := Lib.hid hc
  clear hc hv h
  go_enter Tryd.func47, Tryd.ntmps47
  go_wp2_with (go_at_call 79; (with_reducible refine Gives.then HCO.out ?_); intro w1 hb1)
  go_returns
  exact ⟨by simp, hb0.trans (hb1.mono hb0.size)⟩
end Go.Proofs.YtpnmapfabjdfjaaDoor

/-
  common of package natural.
-/
namespace Go.Proofs.YtpnmapfabjdfjaaDoor
open Go.RowKit Go.Sort
/-- The common values of two sounds. -/
def meS (a b : Snd) : Snd := (a.1 &&& b.1, a.2 &&& b.2)
/-- The common values of some sounds. -/
def cmS : List Snd → Snd
  | [] => (0#32, 0#32)
  | x :: l => (x :: l).foldl meS x
theorem meS_vld {a b : Snd} (h : vld a.1 a.2 = true) : vld (meS a b).1 (meS a b).2 = true := vld_and _ _ h
theorem fold_vld : ∀ (l : List Snd) (a : Snd), vld a.1 a.2 = true → vld (l.foldl meS a).1 (l.foldl meS a).2 = true
  | [], _, h => h
  | _ :: l, _, h => fold_vld l _ (meS_vld h)
theorem cmS_vld {l : List Snd} (h : ∀ s ∈ l, vld s.1 s.2 = true) : vld (cmS l).1 (cmS l).2 = true := by
  cases l with
  | nil => decide
  | cons x l => exact fold_vld (x :: l) x (h x (by simp))
theorem gv_me (a b : Snd) (h1 : vld a.1 a.2 = true) (h2 : vld b.1 b.2 = true) (w : World) : Gives 71 #[.agg #[.int .u32 (a.1.toNat : Int), .int .u32 (a.2.toNat : Int)], .agg #[.int .u32 (b.1.toNat : Int), .int .u32 (b.2.toNat : Int)]] w (.agg #[.int .u32 ((meS a b).1.toNat : Int), .int .u32 ((meS a b).2.toNat : Int)]) := gv_meet _ _ _ _ h1 h2 w
theorem block_set {W : World} {b o : Nat} {v : Value} {cs : Array Value} {T : Nat} {fz : Nat × Nat} (h : W.heap[b]? = some (.cells cs T fz)) : (W.setCell ⟨b, o, none⟩ v).heap[b]? = some (.cells (cs.setIfInBounds o v) T fz) := by
  have hb := (Array.getElem?_eq_some_iff.1 h).1
  have e := (Array.getElem?_eq_some_iff.1 h).2
  simp only [World.setCell]
  rw [Array.getElem?_modify, if_pos rfl, h]
  rfl
theorem two_set {W : World} {b : Nat} {x y x' y' : Value} {T : Nat} {fz : Nat × Nat} (h : W.heap[b]? = some (.cells #[x, y] T fz)) : ((W.setCell ⟨b, 0, none⟩ x').setCell ⟨b, 1, none⟩ y').heap[b]? = some (.cells #[x', y'] T fz) := block_set (block_set h)
set_option maxRecDepth 100000 in
set_option maxHeartbeats 4000000 in
theorem common_any (l : List Snd) (v : Value) (w : World) (h : Wd w v l) (hn : l ≠ []) (hv : ∀ s ∈ l, vld s.1 s.2 = true) : Gives 49 #[v] w (.agg #[.int .u32 ((cmS l).1.toNat : Int), .int .u32 ((cmS l).2.toNat : Int)]) := by
  unfold Gives
  obtain ⟨ao, cap, rfl, c1, m1, hc⟩ := h.open
  obtain ⟨N, hN⟩ : ∃ N, l.length = N := ⟨_, rfl⟩
  have h0 : 0 < l.length := List.length_pos_iff.2 hn
  have hcm : cmS l = l.foldl meS l[0] := by
    cases l with
    | nil => exact absurd rfl hn
    | cons x l => rfl
  have hv0 := hv _ (List.getElem_mem h0)
  obtain ⟨b, off, hao, lb, d0, d1⟩ := hc 0 h0
  subst hao
  rw [Nat.zero_mul, Nat.add_zero] at d0 d1
  obtain ⟨x0, hx0⟩ : ∃ x0, l[0] = x0 := ⟨_, rfl⟩
  rw [hx0] at d0 d1 hcm hv0
  have HC := Lib.hid hc; have HN := Lib.hid hN; have HV := Lib.hid hv; have HCM := Lib.hid hcm; have HV0 := Lib.hid hv0
  have l1 : N ≤ 9223372036854775807 := by unfold maxLen at m1; omega
  have n0 : 0 < N := by omega
  rw [hN] at c1 ⊢
  generalize hR : cmS l = R at *
  have hb1 := (Below.refl w.heap.size w).alloc (Nat.le_refl _) (.cells #[.int .u32 0, .int .u32 0] 27)
  have d0 := (hb1.cell (p := ⟨b, _, none⟩) lb).trans d0
  have d1 := (hb1.cell (p := ⟨b, _, none⟩) lb).trans d1
  have hb2 := hb1.alloc hb1.size (.cells #[.int .u32 (x0.1.toNat : Int), .int .u32 (x0.2.toNat : Int)] 27)
  have k1 := World.alloc_heap_new w (.cells #[.int .u32 0, .int .u32 0] 27)
  have k2 := World.alloc_heap_new (w.alloc (.cells #[.int .u32 0, .int .u32 0] 27)) (.cells #[.int .u32 (x0.1.toNat : Int), .int .u32 (x0.2.toNat : Int)] 27)
  have k1 := (((Below.refl _ (w.alloc (.cells #[.int .u32 0, .int .u32 0] 27))).alloc (Nat.le_refl _) (.cells #[.int .u32 (x0.1.toNat : Int), .int .u32 (x0.2.toNat : Int)] 27)).block w.heap.size (by rw [World.size_alloc]; omega)).trans k1
  rw [World.size_alloc] at k2
  have K1 := Lib.hid k1; have K2 := Lib.hid k2; have HB2 := Lib.hid hb2
  clear hc hN m1 h hn hv hcm hv0 hx0 k1 k2 hb1 hb2 h0 hR
  obtain ⟨p0, m0⟩ := x0
  simp only at d0 d1
  go_enter Tryd.func49, Tryd.ntmps49
  go_wp2_with fail
  go_loopw [11] (fun i wr => ∃ k : Nat, k ≤ N ∧ i = .int .i64 (k : Int) ∧ wr.heap[w.heap.size + 1]? = some (.cells #[.int .u32 (((l.take k).foldl meS (p0, m0)).1.toNat : Int), .int .u32 (((l.take k).foldl meS (p0, m0)).2.toNat : Int)] 27 (0, 0)) ∧ wr.heap[w.heap.size]? = some (.cells #[.int .u32 0, .int .u32 0] 27 (0, 0)) ∧ Below w.heap.size w wr) (fun i _ => N - (intOf i).toNat)
  case atStart => exact ⟨0, by omega, rfl, K2.out, K1.out, HB2.out⟩
  case round =>
    obtain ⟨k, hk, rfl, q2, q1, hw⟩ := hrel
    have hfv := fold_vld (l.take k) (p0, m0) HV0.out
    have hcl : k + 1 ≤ l.length → (l.take (k + 1)).foldl meS (p0, m0) = meS ((l.take k).foldl meS (p0, m0)) (l.getD k (0#32, 0#32)) := fun h => by
      rw [List.take_succ_eq_append_getElem h, List.foldl_append]
      simp [List.getD, List.getElem?_eq_getElem h]
    have hend : k = N → (l.take k).foldl meS (p0, m0) = R := fun e => by rw [HCM.out, e, ← HN.out, List.take_length]
    generalize (l.take k).foldl meS (p0, m0) = A at *
    obtain ⟨ap, am⟩ := A
    have z2 := (Array.getElem?_eq_some_iff.1 q2).1
    have e20 := cell_block q2 (o := 0) rfl
    have e21 := cell_block q2 (o := 1) rfl
    have e10 := cell_block q1 (o := 0) rfl
    have f20 := frozen_block (o := 0) q2
    have f21 := frozen_block (o := 1) q2
    have f10 := frozen_block (o := 0) q1
    have f11 := frozen_block (o := 1) q1
    have e11 := cell_block q1 (o := 1) rfl
    by_cases hlt : k < N
    · have hkl : k < l.length := by rw [HN.out]; exact hlt
      have hcl := hcl hkl
      have hgd : l.getD k (0#32, 0#32) = l[k] := by simp [List.getD, List.getElem?_eq_getElem hkl]
      rw [hgd] at hcl
      obtain ⟨b', off', hao, lb', g0, g1⟩ := HC.out k hkl
      cases hao
      have g0 := (hw.cell (p := ⟨b, _, none⟩) lb).trans g0
      have g1 := (hw.cell (p := ⟨b, _, none⟩) lb).trans g1
      have hme := gv_me (ap, am) l[k] hfv (HV.out _ (List.getElem_mem hkl))
      have HCL := Lib.hid hcl
      clear hcl hgd hend HC hfv e10 e11 f10 f11
      generalize l[k] = x at *
      obtain ⟨p, m⟩ := x
      simp only at g0 g1 hme e20 e21
      have hw8 := hw.alloc hw.size (.cells #[.int .u32 (p.toNat : Int), .int .u32 (m.toNat : Int)] 27)
      have r20 := cell_past (X := .cells #[.int .u32 (p.toNat : Int), .int .u32 (m.toNat : Int)] 27) z2 e20
      have r21 := cell_past (X := .cells #[.int .u32 (p.toNat : Int), .int .u32 (m.toNat : Int)] 27) z2 e21
      have hb8 := (Below.refl wr.heap.size wr).alloc (Nat.le_refl _) (.cells #[.int .u32 (p.toNat : Int), .int .u32 (m.toNat : Int)] 27)
      have q2 := (hb8.block _ z2).trans q2
      have q1 := (hb8.block _ (by omega)).trans q1
      have z2 : w.heap.size + 1 < (wr.alloc (.cells #[.int .u32 (p.toNat : Int), .int .u32 (m.toNat : Int)] 27)).heap.size := by rw [World.size_alloc]; omega
      have HW8 := Lib.hid hw8; have HME := Lib.hid hme; have Q1 := Lib.hid q1; have Q2 := Lib.hid q2
      clear hw hw8 hb8 q1 q2 e20 e21 f20 f21 d0 d1
      go_wp2_with (go_at_call 71; (with_reducible refine Gives.then (HME.out _) ?_); intro w2 hb2; have HW2 := Lib.hid (HW8.out.trans (hb2.mono HW8.out.size)); have R1 := Lib.hid ((hb2.block _ (by omega)).trans Q1.out); have r2 := (hb2.block _ z2).trans Q2.out; have R2 := Lib.hid r2; have y0 := cell_block r2 (o := 0) rfl; have y1 := cell_block r2 (o := 1) rfl; have y2 := frozen_block (o := 0) r2; have y3 := frozen_block (o := 1) r2; clear hb2 r2)
      go_roundw
      case rel => exact ⟨k + 1, by omega, by go_num, by rw [HCL.out]; exact two_set R2.out, ((((Below.refl (w.heap.size + 1) w2).setCell (p := ⟨w.heap.size + 1, 0, none⟩) (Nat.le_refl _) _).setCell (p := ⟨w.heap.size + 1, 1, none⟩) (Nat.le_refl _) _).block w.heap.size (by omega)).trans R1.out, (HW2.out.setCell (p := ⟨w.heap.size + 1, 0, none⟩) (Nat.le_succ _) _).setCell (p := ⟨w.heap.size + 1, 1, none⟩) (Nat.le_succ _) _⟩
      case measure => simp [intOf]; omega
    · obtain rfl : k = N := by omega
      have he := hend rfl
      subst he
      have HW := Lib.hid hw
      have j0 : (wr.setCell ⟨w.heap.size, 0, none⟩ (.int .u32 (ap.toNat : Int))).cell? ⟨w.heap.size, 0, none⟩ = some (.int .u32 (ap.toNat : Int)) := cell_block (block_set q1) rfl
      have j1 : ((wr.setCell ⟨w.heap.size, 0, none⟩ (.int .u32 (ap.toNat : Int))).setCell ⟨w.heap.size, 1, none⟩ (.int .u32 (am.toNat : Int))).cell? ⟨w.heap.size, 1, none⟩ = some (.int .u32 (am.toNat : Int)) := cell_block (two_set q1) rfl
      clear hw hlt hend hcl hfv q1 q2
      simp only at e20 e21
      go_wp2_with fail
      refine bodyPost_ret (v := .agg #[.int .u32 (ap.toNat : Int), .int .u32 (am.toNat : Int)]) (by simp [results, Tryd.results49, go_sem, j0, j1]) rfl ?_
      exact ⟨rfl, (HW.out.setCell (p := ⟨w.heap.size, 0, none⟩) (Nat.le_refl _) _).setCell (p := ⟨w.heap.size, 1, none⟩) (Nat.le_refl _) _⟩
end Go.Proofs.YtpnmapfabjdfjaaDoor

/-
  members of package natural.
-/
namespace Go.Proofs.YtpnmapfabjdfjaaDoor
open Go.RowKit Go.Sort
def ints (xs : List Nat) : List Value := xs.map fun x : Nat => Value.int .i64 ((x : Nat) : Int)
/-- A row of indexes that the call has made. -/
def OwnI (w : World) (base : Nat) (v : Value) (xs : List Nat) : Prop := w.ownsRow base 3 1 v xs.length (ints xs)
/-- A slice that reads as a list of indexes. -/
def Is (w : World) (v : Value) (xs : List Nat) : Prop :=
  (v = .slice none 0 0 ∧ xs = []) ∨ ∃ b cap, v = .slice (some ⟨b, 0, none⟩) xs.length cap ∧ xs.length ≤ cap ∧ cap ≤ maxLen ∧ b < w.heap.size ∧ ∀ i (h : i < xs.length), w.cell? ⟨b, i, none⟩ = some (.int .i64 (xs[i] : Int))
theorem Is.below {w w' : World} {v : Value} {xs : List Nat} (h : Is w v xs) (hb : Below w.heap.size w w') : Is w' v xs := by
  rcases h with h | ⟨b, cap, h1, hc, hm, h2, h3⟩
  · exact .inl h
  · exact .inr ⟨b, cap, h1, hc, hm, by have := hb.size; omega, fun i hi => (hb.cell (p := ⟨b, i, none⟩) h2).trans (h3 i hi)⟩
theorem Is.open {w : World} {v : Value} {xs : List Nat} (h : Is w v xs) : ∃ ao cap, v = .slice ao xs.length cap ∧ xs.length ≤ cap ∧ cap ≤ maxLen ∧ ∀ i (h : i < xs.length), ∃ b, ao = some ⟨b, 0, none⟩ ∧ b < w.heap.size ∧ w.cell? ⟨b, i, none⟩ = some (.int .i64 (xs[i] : Int)) := by
  rcases h with ⟨rfl, rfl⟩ | ⟨b, cap, rfl, hc, hm, h2, h3⟩
  · exact ⟨none, 0, rfl, by simp, by simp, fun i hi => by simp at hi⟩
  · exact ⟨_, cap, rfl, hc, hm, fun i hi => ⟨b, rfl, h2, h3 i hi⟩⟩
theorem OwnI.nil (w : World) (base : Nat) : OwnI w base (.slice none 0 0) [] := ⟨rfl, .inl ⟨rfl, rfl⟩⟩
theorem OwnI.below {w w' : World} {base : Nat} {v : Value} {xs : List Nat} (h : OwnI w base v xs) (hb : Below w.heap.size w w') : OwnI w' base v xs := by
  obtain ⟨hl, h0 | ⟨g, cap, cur, hv, hg, hh, hr⟩⟩ := h
  · exact ⟨hl, .inl h0⟩
  · exact ⟨hl, .inr ⟨g, cap, cur, hv, hg, (hb.block g (Array.getElem?_eq_some_iff.1 hh).1).trans hh, hr⟩⟩
theorem OwnI.mono {w : World} {base base' : Nat} {v : Value} {xs : List Nat} (h : OwnI w base v xs) (hb : base' ≤ base) : OwnI w base' v xs := by
  obtain ⟨hl, h0 | ⟨g, cap, cur, hv, hg, hr⟩⟩ := h
  · exact ⟨hl, .inl h0⟩
  · exact ⟨hl, .inr ⟨g, cap, cur, hv, by omega, hr⟩⟩
theorem OwnI.is {w : World} {base : Nat} {v : Value} {xs : List Nat} (h : OwnI w base v xs) : Is w v xs := by
  obtain ⟨hl, ⟨rfl, h0⟩ | ⟨g, cap, cur, rfl, hg, hh, hn, hm, hs, ht⟩⟩ := h
  · exact .inl ⟨rfl, List.eq_nil_of_length_eq_zero h0⟩
  · refine .inr ⟨g, cap, rfl, hn, hm, (Array.getElem?_eq_some_iff.1 hh).1, fun i hi => ?_⟩
    refine cell_block hh ?_
    have key : (ints xs)[i]? = some (.int .i64 (xs[i] : Int)) := by unfold ints; rw [List.getElem?_map, List.getElem?_eq_getElem hi]; rfl
    rw [← key, ← ht, List.getElem?_take_of_lt (by omega), Array.getElem?_toList]
theorem OwnI.slice {w : World} {base : Nat} {v : Value} {xs : List Nat} (h : OwnI w base v xs) : ∃ ao cap, v = .slice ao xs.length cap := by
  obtain ⟨hl, ⟨rfl, h0⟩ | ⟨g, cap, cur, rfl, _⟩⟩ := h
  · exact ⟨none, 0, by rw [h0]⟩
  · exact ⟨_, cap, rfl⟩
theorem OwnI.row {w : World} {base : Nat} {v : Value} {xs : List Nat} (h : OwnI w base v xs) (k : Nat) (hk : v.ownBlock = some k) : base ≤ k := by
  obtain ⟨_, ⟨rfl, _⟩ | ⟨g, cap, cur, rfl, hg, _⟩⟩ := h
  · simp [Value.ownBlock] at hk
  · simp only [Value.ownBlock, Option.some.injEq] at hk
    subst hk
    exact hg
theorem infoInt : (Tryd.prog.info? 3).map (fun i => (i.zero, i.size, i.bytes)) = some (some (.int .i64 0), 1, 8) := by kernel_rfl
theorem wpList_appI {ops : Array Oper} {rest : List Oper} {o : Oper} {a : Act} {w : World} {Q : Exit → Act → World → Prop} (hgd : o.guard = none) (s x : Operand)
    (ho : o.op = .call { callee := .builtin .append, args := #[s, x], argTypes := #[28, 28] })
    (base D : Nat) (v : Value) (xs : List Nat) (z : Nat) (hs : a.eval s = v) (hx : a.eval x = .slice (some ⟨D, 0, none⟩) 1 1) (hc : w.cell? ⟨D, 0, none⟩ = some (.int .i64 (z : Int))) (hown : OwnI w base v xs) (hlen : xs.length + 1 ≤ 1000000000000) (hbase : base ≤ w.heap.size)
    (h : ∀ v' w', OwnI w' base v' (xs ++ [z]) → w.grownBy w' v.ownBlock → wpList Tryd.prog ops Q rest (a.put o.dst v') w') : wpList Tryd.prog ops Q (o :: rest) a w := by
  obtain ⟨i, hi, hz, hs1, hb1⟩ := info_parts infoInt
  refine wpList_append_own w hgd s x 28 ho base _ i _ 1 8 Tryd.underlying28 hi hz hs1 hb1 rfl (by decide) v xs.length (ints xs) hs hown ⟨D, 0, none⟩ 1 1 [.int .i64 (z : Int)] hx (by simp) ?_ ?_ (Nat.le_trans hlen (by decide)) (by omega) hbase ?_
  · intro j y hy
    obtain ⟨hj, rfl⟩ := List.getElem?_eq_some_iff.1 hy
    obtain rfl : j = 0 := by simpa using hj
    exact hc
  · intro y hy
    rw [List.mem_singleton.1 hy]
    rfl
  · intro v' w' ho' hg _
    refine h v' w' ?_ hg
    unfold OwnI ints
    rw [List.map_append, List.length_append]
    exact ho'
/-- Whether a sound satisfies a condition. -/
def sat (x c : Snd) : Bool := (x.1 &&& c.1 == c.1) && (x.2 &&& c.2 == c.2)
theorem gv_st (x c : Snd) (h1 : vld x.1 x.2 = true) (h2 : vld c.1 c.2 = true) (w : World) : Gives 36 #[.agg #[.int .u32 (x.1.toNat : Int), .int .u32 (x.2.toNat : Int)], .agg #[.int .u32 (c.1.toNat : Int), .int .u32 (c.2.toNat : Int)]] w (.bool (sat x c)) := gv_sat _ _ _ _ h1 h2 w
/-- The indexes of the sounds that satisfy a condition. -/
def msL (c : Snd) : List Snd → Nat → List Nat
  | [], _ => []
  | x :: l, i => if sat x c then i :: msL c l (i + 1) else msL c l (i + 1)
theorem msL_snoc (c x : Snd) : ∀ (l : List Snd) (i : Nat), msL c (l ++ [x]) i = msL c l i ++ (if sat x c then [i + l.length] else [])
  | [], i => by simp [msL]
  | y :: l, i => by
    simp only [List.cons_append, msL, msL_snoc c x l (i + 1), List.length_cons]
    have e : i + 1 + l.length = i + (l.length + 1) := by omega
    rw [e]
    split <;> simp
theorem msL_len (c : Snd) : ∀ (l : List Snd) (i : Nat), (msL c l i).length ≤ l.length
  | [], _ => by simp [msL]
  | x :: l, i => by
    have := msL_len c l (i + 1)
    unfold msL
    split
    · simp; omega
    · simp; omega
set_option maxRecDepth 100000 in
set_option maxHeartbeats 4000000 in
theorem members_any (l : List Snd) (c : Snd) (v : Value) (w : World) (h : Wd w v l) (hv : ∀ s ∈ l, vld s.1 s.2 = true) (hcv : vld c.1 c.2 = true) (hl : l.length ≤ 1000000) : Calls Tryd.prog 50 #[v, .agg #[.int .u32 (c.1.toNat : Int), .int .u32 (c.2.toNat : Int)]] w fun e w' => ∃ v', e = .returned v' ∧ OwnI w' w.heap.size v' (msL c l 0) ∧ Below w.heap.size w w' := by
  obtain ⟨ao, cap, rfl, c1, m1, hc⟩ := h.open
  obtain ⟨N, hN⟩ : ∃ N, l.length = N := ⟨_, rfl⟩
  rw [hN] at c1 hl ⊢
  have HC := Lib.hid hc; have HN := Lib.hid hN; have HV := Lib.hid hv; have HCV := Lib.hid hcv
  have l1 : N ≤ 9223372036854775807 := by omega
  obtain ⟨cp, cm⟩ := c
  have k0 := World.alloc_heap_new w (.cells #[.int .u32 (cp.toNat : Int), .int .u32 (cm.toNat : Int)] 27)
  have hb0 := (Below.refl w.heap.size w).alloc (Nat.le_refl _) (.cells #[.int .u32 (cp.toNat : Int), .int .u32 (cm.toNat : Int)] 27)
  have K0 := Lib.hid k0; have HB0 := Lib.hid hb0
  clear hc hN h hv hcv k0 hb0 m1
  go_enter Tryd.func50, Tryd.ntmps50
  go_wp2_with fail
  go_loopw [5, 10] (fun u i wr => ∃ k : Nat, k ≤ N ∧ i = .int .i64 (k : Int) ∧ OwnI wr (w.heap.size + 1) u (msL (cp, cm) (l.take k) 0) ∧ wr.heap[w.heap.size]? = some (.cells #[.int .u32 (cp.toNat : Int), .int .u32 (cm.toNat : Int)] 27 (0, 0)) ∧ Below w.heap.size w wr) (fun _ i _ => N - (intOf i).toNat)
  case atStart => exact ⟨0, by omega, rfl, OwnI.nil _ _, K0.out, HB0.out⟩
  case round =>
    obtain ⟨k, hk, rfl, ho, q0, hw⟩ := hrel
    obtain ⟨oa, oc, hov⟩ := ho.slice
    obtain ⟨n, hn⟩ : ∃ n, (msL (cp, cm) (l.take k) 0).length = n := ⟨_, rfl⟩
    rw [hn] at hov
    subst hov
    have hml := msL_len (cp, cm) (l.take k) 0
    rw [hn, List.length_take] at hml
    have z0 := (Array.getElem?_eq_some_iff.1 q0).1
    by_cases hlt : k < N
    · have hkl : k < l.length := by rw [HN.out]; exact hlt
      obtain ⟨b, off, hao, lb, d0, d1⟩ := HC.out k hkl
      subst hao
      have d0 := (hw.cell (p := ⟨b, _, none⟩) lb).trans d0
      have d1 := (hw.cell (p := ⟨b, _, none⟩) lb).trans d1
      have hsn := msL_snoc (cp, cm) l[k] (l.take k) 0
      rw [← List.take_succ_eq_append_getElem hkl, List.length_take, Nat.min_eq_left (by omega), Nat.zero_add] at hsn
      have hgs := gv_st l[k] (cp, cm) (HV.out _ (List.getElem_mem hkl)) HCV.out
      have HSN := Lib.hid hsn
      clear hsn HC
      generalize l[k] = x at *
      obtain ⟨p, m⟩ := x
      simp only at d0 d1 hgs
      have hb8 := (Below.refl wr.heap.size wr).alloc (Nat.le_refl _) (.cells #[.int .u32 (p.toNat : Int), .int .u32 (m.toNat : Int)] 27)
      have hw8 := hw.alloc hw.size (.cells #[.int .u32 (p.toNat : Int), .int .u32 (m.toNat : Int)] 27)
      have e0 := cell_past (X := .cells #[.int .u32 (p.toNat : Int), .int .u32 (m.toNat : Int)] 27) z0 (cell_block q0 (o := 0) rfl)
      have e1 := cell_past (X := .cells #[.int .u32 (p.toNat : Int), .int .u32 (m.toNat : Int)] 27) z0 (cell_block q0 (o := 1) rfl)
      have HO8 := Lib.hid (ho.below hb8); have Q8 := Lib.hid ((hb8.block _ z0).trans q0); have HW8 := Lib.hid hw8; have HGS := Lib.hid hgs; have HNn := Lib.hid hn; have HML := Lib.hid hml
      have z8 : w.heap.size < (wr.alloc (.cells #[.int .u32 (p.toNat : Int), .int .u32 (m.toNat : Int)] 27)).heap.size := by rw [World.size_alloc]; omega
      clear ho hb8 hw8 q0 hw hgs hn hml
      rcases hs : sat (p, m) (cp, cm) with _ | _
      · rw [hs] at HGS HSN
        clear hs
        go_wp2_with (go_at_call 36; (with_reducible refine Gives.then (HGS.out _) ?_); intro w2 hb2; have HW2 := Lib.hid (HW8.out.trans (hb2.mono HW8.out.size)); have HO2 := Lib.hid (HO8.out.below hb2); have Q2 := Lib.hid ((hb2.block _ z8).trans Q8.out); clear hb2)
        go_roundw
        case rel => exact ⟨k + 1, by omega, by go_num, by rw [HSN.out]; simpa using HO2.out, Q2.out, HW2.out⟩
        case measure => simp [intOf]; omega
      · rw [hs] at HGS HSN
        clear hs
        go_wp2_with (first
          | (go_at_call 36; (with_reducible refine Gives.then (HGS.out _) ?_); intro w2 hb2; have HW2 := Lib.hid ((HW8.out.trans (hb2.mono HW8.out.size)).alloc (HW8.out.trans (hb2.mono HW8.out.size)).size (.cells #[.int .i64 (k : Int)] 3)); have HO2 := Lib.hid ((HO8.out.below hb2).below ((Below.refl _ w2).alloc (Nat.le_refl _) (.cells #[.int .i64 (k : Int)] 3))); have zz : w.heap.size < w2.heap.size := Nat.lt_of_lt_of_le z8 hb2.size; have Q2 := Lib.hid ((((Below.refl _ w2).alloc (Nat.le_refl _) (.cells #[.int .i64 (k : Int)] 3)).block _ zz).trans ((hb2.block _ z8).trans Q8.out)); have ZZ := Lib.hid zz; clear hb2 zz)
          | (at_builtin; refine wpList_appI rfl (.tmp 18) (.tmp 20) rfl (w.heap.size + 1) w2.heap.size (.slice oa n oc) (msL (cp, cm) (l.take k) 0) k rfl rfl (cell_block (World.alloc_heap_new w2 _) rfl) HO2.out (by have h1 := HML.out; have h2 := HNn.out; omega) (by have h1 := ZZ.out; rw [World.size_alloc]; omega) ?_; intro v3 w3 ho3 hg3; have hq3 := (hg3.block w.heap.size (by rw [World.size_alloc]; have := ZZ.out; omega) (fun e => by have := HO2.out.row _ e.symm; omega)).trans Q2.out; have HW3 := Lib.hid (HW2.out.grown hg3 HW2.out.size (fun q e => by have := HO2.out.row q e; omega)); have HO3 := Lib.hid ho3; have Q3 := Lib.hid hq3; clear ho3 hg3 hq3))
        go_roundw
        case rel => exact ⟨k + 1, by omega, by go_num, by rw [HSN.out]; exact HO3.out, Q3.out, HW3.out⟩
        case measure => simp [intOf]; omega
    · obtain rfl : k = N := by omega
      have ho : OwnI wr (w.heap.size + 1) (.slice oa n oc) (msL (cp, cm) l 0) := by
        rw [← HN.out, List.take_length] at ho
        exact ho
      have HO := Lib.hid ho; have HW := Lib.hid hw
      clear ho hw hlt hn hml q0
      go_wp2_with fail
      go_returns
      exact ⟨_, rfl, HO.out.mono (Nat.le_succ _), HW.out⟩
end Go.Proofs.YtpnmapfabjdfjaaDoor

/-
  Select of package natural.
-/
namespace Go.Proofs.YtpnmapfabjdfjaaDoor
open Go.RowKit Go.Sort
theorem ckE_vld {l : List Snd} {most : Nat} (h : ckE l most = 0) : ∀ s ∈ l, vld s.1 s.2 = true := by
  unfold ckE at h
  split at h
  · cases h
  · split at h
    · rename_i h1
      rw [List.all_eq_true] at h1
      exact h1
    · cases h
theorem ckE_len {l : List Snd} {most : Nat} (h : ckE l most = 0) : l.length ≤ most := by
  unfold ckE at h
  split at h
  · cases h
  · omega
def selE (l : List Snd) (c : Snd) : Int := if ckE l 256 ≠ 0 then ckE l 256 else if vld c.1 c.2 then 0 else 14
def selM (l : List Snd) (c : Snd) : List Nat := if selE l c = 0 then msL c l 0 else []
set_option maxRecDepth 100000 in
set_option maxHeartbeats 4000000 in
theorem select_any (l : List Snd) (c : Snd) (v : Value) (w : World) (h : Wd w v l) : Calls Tryd.prog 23 #[v, .agg #[.int .u32 (c.1.toNat : Int), .int .u32 (c.2.toNat : Int)]] w fun e w' => ∃ m, e = .returned (.tuple #[m, .int .i64 (selE l c)]) ∧ OwnI w' w.heap.size m (selM l c) ∧ Below w.heap.size w w' := by
  have hb0 := (Below.refl w.heap.size w).alloc (Nat.le_refl _) (.cells #[.int .u32 (c.1.toNat : Int), .int .u32 (c.2.toNat : Int)] 27)
  have hck := check_any l v 256 _ (by decide) (h.below hb0)
  rw [show ((256 : Nat) : Int) = 256 from rfl] at hck
  have hvl := gv_vld c
  have hmem := fun (h1 : ckE l 256 = 0) (h2 : vld c.1 c.2 = true) (W : World) (hb : Below w.heap.size w W) => members_any l c v W (h.below hb) (ckE_vld h1) h2 (Nat.le_trans (ckE_len h1) (by decide))
  obtain ⟨ao, cap, rfl, -, -, -⟩ := h.open
  have k0 := World.alloc_heap_new w (.cells #[.int .u32 (c.1.toNat : Int), .int .u32 (c.2.toNat : Int)] 27)
  have hs : selE l c = if ckE l 256 ≠ 0 then ckE l 256 else if vld c.1 c.2 then 0 else 14 := rfl
  have hm : selM l c = if selE l c = 0 then msL c l 0 else [] := rfl
  generalize hE : ckE l 256 = E at *
  have HCK := Lib.hid hck; have HVL := Lib.hid hvl; have HMEM := Lib.hid hmem; have K0 := Lib.hid k0; have HB0 := Lib.hid hb0
  have lw : w.heap.size < (w.alloc (.cells #[.int .u32 (c.1.toNat : Int), .int .u32 (c.2.toNat : Int)] 27)).heap.size := by rw [World.size_alloc]; omega
  clear hck hvl hmem k0 hb0 h hE
  obtain ⟨p, m⟩ := c
  simp only at HCK K0 HB0 lw HVL HMEM
  by_cases h0 : E = 0
  · subst h0
    rcases hv : vld p m with _ | _
    · have hs2 : selE l (p, m) = 14 := by rw [hs]; simp [hv]
      rw [hs2, if_neg (by decide)] at hm
      rw [hs2, hm]
      rw [hv] at HVL
      clear hs hs2 hm HMEM hv
      go_enter Tryd.func23, Tryd.ntmps23
      go_wp2_with fail
      go_at_call 46
      refine Gives.then HCK.out ?_
      intro w1 hb1
      have r1 := (hb1.block _ lw).trans K0.out
      have e0 := cell_block r1 (o := 0) rfl
      have e1 := cell_block r1 (o := 1) rfl
      have HW1 := Lib.hid (HB0.out.trans (hb1.mono HB0.out.size))
      clear r1 hb1
      go_wp2_with (go_at_call 40; (with_reducible refine Gives.then (HVL.out _) ?_); intro w2 hb2; have HW2 := Lib.hid (HW1.out.trans (hb2.mono HW1.out.size)); clear hb2)
      go_ret2
      exact ⟨_, rfl, OwnI.nil _ _, HW2.out⟩
    · have hs2 : selE l (p, m) = 0 := by rw [hs]; simp [hv]
      rw [hs2, if_pos rfl] at hm
      rw [hs2, hm]
      have HM2 := Lib.hid (HMEM.out rfl hv)
      clear HMEM
      rw [hv] at HVL
      clear hs hs2 hm hv
      go_enter Tryd.func23, Tryd.ntmps23
      go_wp2_with fail
      go_at_call 46
      refine Gives.then HCK.out ?_
      intro w1 hb1
      have r1 := (hb1.block _ lw).trans K0.out
      have lw1 := Nat.lt_of_lt_of_le lw hb1.size
      have e0 := cell_block r1 (o := 0) rfl
      have e1 := cell_block r1 (o := 1) rfl
      have HW1 := Lib.hid (HB0.out.trans (hb1.mono HB0.out.size))
      have R1 := Lib.hid r1
      clear r1 hb1
      go_wp2_with fail
      go_at_call 40
      refine Gives.then (HVL.out _) ?_
      intro w2 hb2
      have r2 := (hb2.block _ lw1).trans R1.out
      have e0 := cell_block r2 (o := 0) rfl
      have e1 := cell_block r2 (o := 1) rfl
      have HW2 := Lib.hid (HW1.out.trans (hb2.mono HW1.out.size))
      clear hb2 r2
      go_wp2_with fail
      go_at_call 50
      refine (HM2.out _ HW2.out).mono ?_
      rintro e w3 ⟨v3, rfl, ho3, hb3⟩
      obtain ⟨a3, c3, rfl⟩ := ho3.slice
      have HO3 := Lib.hid ho3; have HW3 := Lib.hid (HW2.out.trans (hb3.mono HW2.out.size))
      have hz2 := HW2.out.size
      clear ho3 hb3
      go_wp2_with fail
      go_ret2
      exact ⟨_, rfl, HO3.out.mono hz2, HW3.out⟩
  · have hs2 : selE l (p, m) = E := by rw [hs, if_pos h0]
    rw [hs2, if_neg h0] at hm
    rw [hs2, hm]
    have g1 : (E == 0) = false := by simpa using h0
    have g2 : (E != 0) = true := by simpa using h0
    clear hs hs2 hm HMEM HVL
    go_enter Tryd.func23, Tryd.ntmps23
    go_wp2_with fail
    go_at_call 46
    refine Gives.then HCK.out ?_
    intro w1 hb1
    have HW1 := Lib.hid (HB0.out.trans (hb1.mono HB0.out.size))
    clear hb1
    go_wp2_with fail
    go_ret2
    exact ⟨_, rfl, OwnI.nil _ _, HW1.out⟩
end Go.Proofs.YtpnmapfabjdfjaaDoor

/-
  Closure of package natural.
-/
namespace Go.Proofs.YtpnmapfabjdfjaaDoor
open Go.RowKit Go.Sort
theorem set_grown (w : World) (b o : Nat) (v : Value) : w.grownBy (w.setCell ⟨b, o, none⟩ v) (some b) := by
  refine ⟨rfl, rfl, rfl, by simp, fun k hk hne => ?_⟩
  simp only [World.setCell]
  rw [Array.getElem?_modify, if_neg (by intro e; exact hne (by rw [e]))]
def cloE (l s : List Snd) : Int := if ckE l 256 ≠ 0 then ckE l 256 else if s = [] ∨ ¬ ∀ x ∈ s, x ∈ l then 5 else 0
def cloC (l s : List Snd) : Snd := if cloE l s = 0 then cmS s else (0#32, 0#32)
def cloM (l s : List Snd) : List Nat := if cloE l s = 0 then msL (cmS s) l 0 else []
theorem all_in (s l : List Snd) : (s.all fun x => decide (x ∈ setS l)) = decide (∀ x ∈ s, x ∈ l) := by
  have e : (fun x => decide (x ∈ setS l)) = fun x => decide (x ∈ l) := funext fun x => by
    by_cases h : x ∈ l
    · rw [decide_eq_true h, decide_eq_true ((mem_setS l x).2 h)]
    · rw [decide_eq_false h, decide_eq_false (fun h2 => h ((mem_setS l x).1 h2))]
  rw [e]
  by_cases h : ∀ x ∈ s, x ∈ l
  · rw [decide_eq_true h, List.all_eq_true]
    exact fun x hx => decide_eq_true (h x hx)
  · rw [decide_eq_false h, List.all_eq_false]
    obtain ⟨x, hx, h2⟩ : ∃ x, x ∈ s ∧ x ∉ l := Classical.byContradiction fun hn => h fun x hx => Classical.byContradiction fun h2 => hn ⟨x, hx, h2⟩
    exact ⟨x, hx, by simp [h2]⟩
/-- The two blocks that Closure's call has made. -/
def Duo (n k : Nat) (p m : BitVec 32) (x y : Value) (w W : World) : Prop := Below w.heap.size w W ∧ n < k ∧ W.heap[k]? = some (.cells #[.int .u32 (p.toNat : Int), .int .u32 (m.toNat : Int)] 27 (0, 0)) ∧ W.heap[n]? = some (.cells #[x, y] 27 (0, 0))
theorem Duo.loads {n k : Nat} {p m : BitVec 32} {x y : Value} {w W : World} (h : Duo n k p m x y w W) : W.cell? ⟨k, 0, none⟩ = some (.int .u32 (p.toNat : Int)) ∧ W.cell? ⟨k, 1, none⟩ = some (.int .u32 (m.toNat : Int)) := by
  obtain ⟨_, _, h1, _⟩ := h
  exact ⟨cell_block h1 rfl, cell_block h1 rfl⟩
theorem Duo.stores {n k : Nat} {p m : BitVec 32} {x y : Value} {w W : World} (h : Duo n k p m x y w W) : W.cell? ⟨n, 0, none⟩ = some x ∧ W.cell? ⟨n, 1, none⟩ = some y ∧ W.frozen? ⟨n, 0, none⟩ = false ∧ W.frozen? ⟨n, 1, none⟩ = false := by
  obtain ⟨_, _, _, h2⟩ := h
  exact ⟨cell_block h2 rfl, cell_block h2 rfl, frozen_block h2, frozen_block h2⟩
theorem Duo.below {n k : Nat} {p m : BitVec 32} {x y : Value} {w W W' : World} (h : Duo n k p m x y w W) (hb : Below W.heap.size W W') : Duo n k p m x y w W' := by
  obtain ⟨h0, hn, h1, h2⟩ := h
  exact ⟨h0.trans (hb.mono h0.size), hn, (hb.block k (Array.getElem?_eq_some_iff.1 h1).1).trans h1, (hb.block n (Array.getElem?_eq_some_iff.1 h2).1).trans h2⟩
theorem Duo.set {n k : Nat} {p m : BitVec 32} {x y : Value} {w W : World} (h : Duo n k p m x y w W) (hw : w.heap.size ≤ n) (a b : Value) : Duo n k p m a b w ((W.setCell ⟨n, 0, none⟩ a).setCell ⟨n, 1, none⟩ b) := by
  obtain ⟨h0, hn, h1, h2⟩ := h
  have lk := (Array.getElem?_eq_some_iff.1 h1).1
  refine ⟨(h0.setCell (p := ⟨n, 0, none⟩) hw a).setCell (p := ⟨n, 1, none⟩) hw b, hn, ?_, two_set h2⟩
  have g1 := (set_grown W n 0 a).block k lk (fun e => by cases e; omega)
  have g2 := (set_grown (W.setCell ⟨n, 0, none⟩ a) n 1 b).block k (Nat.lt_of_lt_of_le lk (set_grown W n 0 a).size) (fun e => by cases e; omega)
  exact (g2.trans g1).trans h1
theorem row_set {n : Nat} {W : World} {base : Nat} {v : Value} {xs : List Nat} (h : OwnI W base v xs) (hn : n < base) (a b : Value) : OwnI ((W.setCell ⟨n, 0, none⟩ a).setCell ⟨n, 1, none⟩ b) base v xs := by
  have hne : v.ownBlock = none ∨ v.ownBlock ≠ some n := by
    cases e : v.ownBlock with
    | none => exact .inl rfl
    | some q => exact .inr (fun e2 => by cases e2; have := h.row _ e; omega)
  have h1 : OwnI (W.setCell ⟨n, 0, none⟩ a) base v xs := World.ownsRow.kept h (set_grown W n 0 a) hne
  exact World.ownsRow.kept h1 (set_grown _ n 1 b) hne
end Go.Proofs.YtpnmapfabjdfjaaDoor

/-
  Closure of package natural: the walk.
-/
namespace Go.Proofs.YtpnmapfabjdfjaaDoor
open Go.RowKit Go.Sort
set_option maxRecDepth 100000 in
set_option maxHeartbeats 8000000 in
theorem closure_any (l s : List Snd) (v u : Value) (w : World) (h : Wd w v l) (hu : Wd w u s) : Calls Tryd.prog 15 #[v, u] w fun e w' => ∃ m, e = .returned (.tuple #[.agg #[.int .u32 ((cloC l s).1.toNat : Int), .int .u32 ((cloC l s).2.toNat : Int)], m, .int .i64 (cloE l s)]) ∧ OwnI w' w.heap.size m (cloM l s) ∧ Below w.heap.size w w' := by
  have hb0 := (Below.refl w.heap.size w).alloc (Nat.le_refl _) (.cells #[.int .u32 0, .int .u32 0] 27)
  have hck := check_any l v 256 _ (by decide) (h.below hb0)
  rw [show ((256 : Nat) : Int) = 256 from rfl] at hck
  have hset := fun (W : World) (hb : Below w.heap.size w W) => set_any l v W (h.below hb)
  have hin := fun (W : World) (hb : Below w.heap.size w W) (b : Nat) (hy : YMap W b (tru (setS l))) => inside_any s (setS l) u b W (hu.below hb) hy
  rw [all_in] at hin
  have hcm := fun (hn : s ≠ []) (hv : ∀ x ∈ s, vld x.1 x.2 = true) (W : World) (hb : Below w.heap.size w W) => common_any s u W (hu.below hb) hn hv
  have hmem := fun (h1 : ckE l 256 = 0) (h2 : vld (cmS s).1 (cmS s).2 = true) (W : World) (hb : Below w.heap.size w W) => members_any l (cmS s) v W (h.below hb) (ckE_vld h1) h2 (Nat.le_trans (ckE_len h1) (by decide))
  have hvl := fun (h1 : ckE l 256 = 0) => ckE_vld h1
  have k0 := World.alloc_heap_new w (.cells #[.int .u32 0, .int .u32 0] 27)
  obtain ⟨ao, cap, rfl, -, -, -⟩ := h.open
  obtain ⟨ao2, cap2, rfl, -, -, -⟩ := hu.open
  obtain ⟨M, hM⟩ : ∃ M, s.length = M := ⟨_, rfl⟩
  have lw : w.heap.size < (w.alloc (.cells #[.int .u32 0, .int .u32 0] 27)).heap.size := by rw [World.size_alloc]; omega
  have hE : cloE l s = if ckE l 256 ≠ 0 then ckE l 256 else if s = [] ∨ ¬ ∀ x ∈ s, x ∈ l then 5 else 0 := rfl
  have hC : cloC l s = if cloE l s = 0 then cmS s else (0#32, 0#32) := rfl
  have hMM : cloM l s = if cloE l s = 0 then msL (cmS s) l 0 else [] := rfl
  rw [hM] at hin hcm ⊢
  have HCK := Lib.hid hck; have HSET := Lib.hid hset; have HIN := Lib.hid hin; have HCM := Lib.hid hcm; have HMEM := Lib.hid hmem; have HVL := Lib.hid hvl; have HB0 := Lib.hid hb0; have K0 := Lib.hid k0
  clear hck hset hin hcm hmem hvl hb0 k0 h hu
  generalize hEE : cloE l s = E at *
  generalize hCC : cloC l s = C at *
  generalize hMe : cloM l s = ML at *
  clear hEE hCC hMe
  by_cases h0 : ckE l 256 = 0
  · rw [h0] at HCK hE
    rw [if_neg (by decide)] at hE
    by_cases hs0 : s = []
    · rw [if_pos (.inl hs0)] at hE
      subst hE
      rw [if_neg (by decide)] at hC hMM
      subst hC hMM
      have hM0 : M = 0 := by rw [← hM, hs0]; rfl
      subst hM0
      clear HSET HIN HCM HMEM HVL
      go_enter Tryd.func15, Tryd.ntmps15
      go_wp2_with fail
      go_at_call 46
      refine Gives.then HCK.out ?_
      intro w1 hb1
      have r1 := (hb1.block _ lw).trans K0.out
      have f0 := frozen_block (o := 0) r1
      have f1 := frozen_block (o := 1) r1
      have q0 := cell_block r1 (o := 0) rfl
      have q1 := cell_block r1 (o := 1) rfl
      have j0 : (w1.setCell ⟨w.heap.size, 0, none⟩ (.int .u32 0)).cell? ⟨w.heap.size, 0, none⟩ = some (.int .u32 0) := cell_block (block_set r1) rfl
      have j1 : ((w1.setCell ⟨w.heap.size, 0, none⟩ (.int .u32 0)).setCell ⟨w.heap.size, 1, none⟩ (.int .u32 0)).cell? ⟨w.heap.size, 1, none⟩ = some (.int .u32 0) := cell_block (two_set r1) rfl
      have HW1 := Lib.hid (((HB0.out.trans (hb1.mono HB0.out.size)).setCell (p := ⟨w.heap.size, 0, none⟩) (Nat.le_refl _) (.int .u32 0)).setCell (p := ⟨w.heap.size, 1, none⟩) (Nat.le_refl _) (.int .u32 0))
      clear hb1 r1
      go_wp2_with fail
      refine bodyPost_ret (v := .tuple #[.agg #[.int .u32 0, .int .u32 0], .slice none 0 0, .int .i64 5]) (by simp [results, Tryd.results15, go_sem, j0, j1]) rfl ?_
      exact ⟨_, rfl, OwnI.nil _ _, HW1.out⟩
    · have hM0 : ¬ M = 0 := by rw [← hM]; exact fun e => hs0 (List.eq_nil_of_length_eq_zero e)
      have n1 : ((M : Int) == 0) = false := by simpa using hM0
      by_cases hall : ∀ x ∈ s, x ∈ l
      · rw [if_neg (by rintro (h | h); exact hs0 h; exact h hall)] at hE
        subst hE
        rw [if_pos rfl] at hC hMM
        subst hC hMM
        rw [decide_eq_true hall] at HIN
        have hvs : ∀ x ∈ s, vld x.1 x.2 = true := fun x hx => HVL.out h0 x (hall x hx)
        have HCM2 := Lib.hid (HCM.out hs0 hvs)
        have HMEM2 := Lib.hid (HMEM.out h0 (cmS_vld hvs))
        clear HCM HMEM HVL hvs hall hs0
        generalize cmS s = C at *
        obtain ⟨p, m⟩ := C
        simp only at HCM2 HMEM2 ⊢
        go_enter Tryd.func15, Tryd.ntmps15
        go_wp2_with fail
        go_at_call 46
        refine Gives.then HCK.out ?_
        intro w1 hb1
        have R1 := Lib.hid ((hb1.block _ lw).trans K0.out)
        have lw1 := Nat.lt_of_lt_of_le lw hb1.size
        have HW1 := Lib.hid (HB0.out.trans (hb1.mono HB0.out.size))
        clear hb1 lw
        go_wp2_with fail
        go_at_call 48
        refine (HSET.out _ HW1.out).mono ?_
        rintro e w2 ⟨b, rfl, hy, hb2⟩
        have HY := Lib.hid hy
        have R2 := Lib.hid ((hb2.block _ lw1).trans R1.out)
        have lw2 := Nat.lt_of_lt_of_le lw1 hb2.size
        have HW2 := Lib.hid (HW1.out.trans (hb2.mono HW1.out.size))
        clear hb2 hy lw1 R1
        go_wp2_with fail
        go_at_call 47
        refine Gives.then (HIN.out _ HW2.out b HY.out) ?_
        intro w3 hb3
        have R3 := Lib.hid ((hb3.block _ lw2).trans R2.out)
        have lw3 := Nat.lt_of_lt_of_le lw2 hb3.size
        have HW3 := Lib.hid (HW2.out.trans (hb3.mono HW2.out.size))
        clear hb3 lw2 R2 HY
        go_wp2_with fail
        go_at_call 49
        refine Gives.then (HCM2.out _ HW3.out) ?_
        intro w4 hb4
        have r4 := (hb4.block _ lw3).trans R3.out
        have lw4 := Nat.lt_of_lt_of_le lw3 hb4.size
        have hw4 := HW3.out.trans (hb4.mono HW3.out.size)
        have ht : Duo w.heap.size w4.heap.size p m (.int .u32 0) (.int .u32 0) w (w4.alloc (.cells #[.int .u32 (p.toNat : Int), .int .u32 (m.toNat : Int)] 27)) := ⟨hw4.alloc hw4.size _, lw4, World.alloc_heap_new w4 _, (((Below.refl _ w4).alloc (Nat.le_refl _) (.cells #[.int .u32 (p.toNat : Int), .int .u32 (m.toNat : Int)] 27)).block _ lw4).trans r4⟩
        have HT := Lib.hid ht
        clear hb4 r4 hw4 ht lw3 R3
        go_wp2_with fail
        generalize (w4.alloc (.cells #[.int .u32 (p.toNat : Int), .int .u32 (m.toNat : Int)] 27)) = w5 at *
        generalize w4.heap.size = k5 at *
        have hT0 : Duo w.heap.size k5 p m (.int .u32 0) (.int .u32 0) w w5.drew := HT.out.below (Below.drew (Below.refl w5.heap.size w5))
        have HMEM3 : Hid (∀ (x y : Value) (W : World), Duo w.heap.size k5 p m x y w W → Calls Tryd.prog 50 #[.slice ao l.length cap, .agg #[.int .u32 (p.toNat : Int), .int .u32 (m.toNat : Int)]] W fun e w' => ∃ ma mc, e = .returned (.slice ma (msL (p, m) l 0).length mc) ∧ OwnI w' W.heap.size (.slice ma (msL (p, m) l 0).length mc) (msL (p, m) l 0) ∧ Duo w.heap.size k5 p m x y w w' ∧ w.heap.size < W.heap.size) := Lib.hid (fun x y W hW => (HMEM2.out W hW.1).mono (by
          rintro e w' ⟨v', rfl, ho, hb⟩
          obtain ⟨ma, mc, rfl⟩ := ho.slice
          obtain ⟨_, _, _, h2⟩ := id hW
          exact ⟨ma, mc, rfl, ho, hW.below hb, (Array.getElem?_eq_some_iff.1 h2).1⟩))
        clear HMEM2 HT HCK HSET HIN HCM2 HW1 HW2 HW3 HB0 K0
        generalize (msL (p, m) l 0).length = mn at *
        obtain ⟨q0, q1, q2, q3⟩ := hT0.stores
        go_region_held3 (fun W => W.cell? ⟨k5, 0, none⟩ = some (.int .u32 (p.toNat : Int)) ∧ W.cell? ⟨k5, 1, none⟩ = some (.int .u32 (m.toNat : Int)))
          (first | exact (hT1.set (Nat.le_refl _) _ _).loads | exact (hT0.set (Nat.le_refl _) _ _).loads | exact hT1.loads | exact hT0.loads)
          (first
            | (go_at_call 50; (with_reducible refine (HMEM3.out _ _ _ hT0).mono ?_); rintro e w6 ⟨ma, mc, rfl, ho6, hT1, hlt6⟩; obtain ⟨q0, q1, q2, q3⟩ := hT1.stores)
            | (go_at_call 50; (with_reducible refine (HMEM3.out _ _ _ (hT0.set (Nat.le_refl _) _ _)).mono ?_); rintro e w6 ⟨ma, mc, rfl, ho6, hT1, hlt6⟩; obtain ⟨q0, q1, q2, q3⟩ := hT1.stores))
        have hq := hT1.2.2.2
        have j0 : (w6.setCell ⟨w.heap.size, 0, none⟩ (.int .u32 (p.toNat : Int))).cell? ⟨w.heap.size, 0, none⟩ = some (.int .u32 (p.toNat : Int)) := cell_block (block_set hq) rfl
        have j1 : ((w6.setCell ⟨w.heap.size, 0, none⟩ (.int .u32 (p.toNat : Int))).setCell ⟨w.heap.size, 1, none⟩ (.int .u32 (m.toNat : Int))).cell? ⟨w.heap.size, 1, none⟩ = some (.int .u32 (m.toNat : Int)) := cell_block (two_set hq) rfl
        have HTS := Lib.hid (hT1.set (Nat.le_refl _) (.int .u32 (p.toNat : Int)) (.int .u32 (m.toNat : Int))).1
        have HRS := Lib.hid ((row_set ho6 hlt6 (.int .u32 (p.toNat : Int)) (.int .u32 (m.toNat : Int))).mono (Nat.le_of_lt hlt6))
        clear hq hT1 ho6 hlt6 q0 q1 q2 q3 HMEM3 hT0
        go_wp2_with fail
        refine bodyPost_ret (v := .tuple #[.agg #[.int .u32 (p.toNat : Int), .int .u32 (m.toNat : Int)], .slice ma mn mc, .int .i64 0]) (by simp [results, Tryd.results15, go_sem, j0, j1]) rfl ?_
        exact ⟨_, rfl, HRS.out, HTS.out⟩
      · rw [if_pos (.inr hall)] at hE
        subst hE
        rw [if_neg (by decide)] at hC hMM
        subst hC hMM
        rw [decide_eq_false hall] at HIN
        clear HCM HMEM HVL hall hs0
        go_enter Tryd.func15, Tryd.ntmps15
        go_wp2_with fail
        go_at_call 46
        refine Gives.then HCK.out ?_
        intro w1 hb1
        have R1 := Lib.hid ((hb1.block _ lw).trans K0.out)
        have lw1 := Nat.lt_of_lt_of_le lw hb1.size
        have HW1 := Lib.hid (HB0.out.trans (hb1.mono HB0.out.size))
        clear hb1 lw
        go_wp2_with fail
        go_at_call 48
        refine (HSET.out _ HW1.out).mono ?_
        rintro e w2 ⟨b, rfl, hy, hb2⟩
        have HY := Lib.hid hy
        have R2 := Lib.hid ((hb2.block _ lw1).trans R1.out)
        have lw2 := Nat.lt_of_lt_of_le lw1 hb2.size
        have HW2 := Lib.hid (HW1.out.trans (hb2.mono HW1.out.size))
        clear hb2 hy lw1 R1
        go_wp2_with fail
        go_at_call 47
        refine Gives.then (HIN.out _ HW2.out b HY.out) ?_
        intro w3 hb3
        have r3 := (hb3.block _ lw2).trans R2.out
        have f0 := frozen_block (o := 0) r3
        have f1 := frozen_block (o := 1) r3
        have j0 : (w3.setCell ⟨w.heap.size, 0, none⟩ (.int .u32 0)).cell? ⟨w.heap.size, 0, none⟩ = some (.int .u32 0) := cell_block (block_set r3) rfl
        have j1 : ((w3.setCell ⟨w.heap.size, 0, none⟩ (.int .u32 0)).setCell ⟨w.heap.size, 1, none⟩ (.int .u32 0)).cell? ⟨w.heap.size, 1, none⟩ = some (.int .u32 0) := cell_block (two_set r3) rfl
        have q0 := cell_block r3 (o := 0) rfl
        have q1 := cell_block r3 (o := 1) rfl
        have HW3 := Lib.hid (((HW2.out.trans (hb3.mono HW2.out.size)).setCell (p := ⟨w.heap.size, 0, none⟩) (Nat.le_refl _) (.int .u32 0)).setCell (p := ⟨w.heap.size, 1, none⟩) (Nat.le_refl _) (.int .u32 0))
        clear hb3 r3 lw2 R2 HY
        go_wp2_with fail
        refine bodyPost_ret (v := .tuple #[.agg #[.int .u32 0, .int .u32 0], .slice none 0 0, .int .i64 5]) (by simp [results, Tryd.results15, go_sem, j0, j1]) rfl ?_
        exact ⟨_, rfl, OwnI.nil _ _, HW3.out⟩
  · rw [if_pos h0] at hE
    generalize hE0 : ckE l 256 = E0 at *
    subst hE
    rw [if_neg h0] at hC hMM
    subst hC hMM
    have g1 : (E == 0) = false := by simpa using h0
    clear HSET HIN HCM HMEM HVL
    go_enter Tryd.func15, Tryd.ntmps15
    go_wp2_with fail
    go_at_call 46
    refine Gives.then HCK.out ?_
    intro w1 hb1
    have r1 := (hb1.block _ lw).trans K0.out
    have f0 := frozen_block (o := 0) r1
    have f1 := frozen_block (o := 1) r1
    have q0 := cell_block r1 (o := 0) rfl
    have q1 := cell_block r1 (o := 1) rfl
    have j0 : (w1.setCell ⟨w.heap.size, 0, none⟩ (.int .u32 0)).cell? ⟨w.heap.size, 0, none⟩ = some (.int .u32 0) := cell_block (block_set r1) rfl
    have j1 : ((w1.setCell ⟨w.heap.size, 0, none⟩ (.int .u32 0)).setCell ⟨w.heap.size, 1, none⟩ (.int .u32 0)).cell? ⟨w.heap.size, 1, none⟩ = some (.int .u32 0) := cell_block (two_set r1) rfl
    have HW1 := Lib.hid (((HB0.out.trans (hb1.mono HB0.out.size)).setCell (p := ⟨w.heap.size, 0, none⟩) (Nat.le_refl _) (.int .u32 0)).setCell (p := ⟨w.heap.size, 1, none⟩) (Nat.le_refl _) (.int .u32 0))
    clear hb1 r1
    go_wp2_with fail
    refine bodyPost_ret (v := .tuple #[.agg #[.int .u32 0, .int .u32 0], .slice none 0 0, .int .i64 E]) (by simp [results, Tryd.results15, go_sem, j0, j1]) rfl ?_
    exact ⟨_, rfl, OwnI.nil _ _, HW1.out⟩
end Go.Proofs.YtpnmapfabjdfjaaDoor

/-
  Is of package natural.
-/
namespace Go.Proofs.YtpnmapfabjdfjaaDoor
open Go.RowKit Go.Sort
def isB (l s : List Snd) : Bool := decide (cloE l s = 0) && decide ((cloM l s).length = (setS s).length)
set_option maxRecDepth 100000 in
set_option maxHeartbeats 4000000 in
theorem is_any (l s : List Snd) (v u : Value) (w : World) (h : Wd w v l) (hu : Wd w u s) : Gives 17 #[v, u] w (.tuple #[.bool (isB l s), .int .i64 (cloE l s)]) := by
  unfold Gives
  have hcl := closure_any l s v u w h hu
  have hset := fun (W : World) (hb : Below w.heap.size w W) => set_any s u W (hu.below hb)
  have hB : isB l s = (decide (cloE l s = 0) && decide ((cloM l s).length = (setS s).length)) := rfl
  obtain ⟨ao, cap, rfl, -, -, -⟩ := h.open
  obtain ⟨ao2, cap2, rfl, -, -, -⟩ := hu.open
  generalize cloE l s = E at *
  generalize cloC l s = C at *
  generalize hML : cloM l s = ML at *
  obtain ⟨p, m⟩ := C
  obtain ⟨n, hn⟩ : ∃ n, ML.length = n := ⟨_, rfl⟩
  obtain ⟨q, hq⟩ : ∃ q, (setS s).length = q := ⟨_, rfl⟩
  rw [hn, hq] at hB
  have HCL := Lib.hid hcl; have HSET := Lib.hid hset; have HN := Lib.hid hn; have HQ := Lib.hid hq
  clear hcl hset h hu hn hq hML
  by_cases h0 : E = 0
  · subst h0
    rw [decide_eq_true rfl, Bool.true_and] at hB
    rw [hB]
    clear hB
    go_enter Tryd.func17, Tryd.ntmps17
    go_wp2_with fail
    go_at_call 15
    refine HCL.out.mono ?_
    rintro e w1 ⟨v1, rfl, ho1, hb1⟩
    obtain ⟨a1, c1, hv1⟩ := ho1.slice
    rw [HN.out] at hv1
    subst hv1
    have HW1 := Lib.hid (hb1.alloc hb1.size (.cells #[.int .u32 (p.toNat : Int), .int .u32 (m.toNat : Int)] 27))
    clear ho1 hb1
    go_wp2_with fail
    go_at_call 48
    refine (HSET.out _ HW1.out).mono ?_
    rintro e w2 ⟨b, rfl, hy, hb2⟩
    have HW2 := Lib.hid (HW1.out.trans (hb2.mono HW1.out.size))
    have HY := Lib.hid hy
    have hlen : (tru (setS s)).length = q := by unfold tru; rw [List.length_map, HQ.out]
    have HL := Lib.hid hlen
    have g1 : ((n : Int) == (q : Int)) = decide (n = q) := by
      by_cases e : n = q
      · rw [e]; simp
      · rw [decide_eq_false e]; exact beq_false_of_ne (by omega)
    clear hb2 hy hlen
    go_wp2_with fail
    rw [run_len_y Tryd.underlying71 HY.out, HL.out]
    simp only [Result.andThen]
    rw [Oper.upon_value]
    go_wp2_with fail
    go_ret2
    exact ⟨by first | rfl | simp [g1], HW2.out⟩
  · rw [decide_eq_false h0, Bool.false_and] at hB
    rw [hB]
    have g1 : (E == 0) = false := by simpa using h0
    clear hB
    go_enter Tryd.func17, Tryd.ntmps17
    go_wp2_with fail
    go_at_call 15
    refine HCL.out.mono ?_
    rintro e w1 ⟨v1, rfl, ho1, hb1⟩
    obtain ⟨a1, c1, hv1⟩ := ho1.slice
    rw [HN.out] at hv1
    subst hv1
    have HW1 := Lib.hid (hb1.alloc hb1.size (.cells #[.int .u32 (p.toNat : Int), .int .u32 (m.toNat : Int)] 27))
    clear ho1 hb1
    go_wp2_with fail
    go_ret2
    exact ⟨rfl, HW1.out⟩
end Go.Proofs.YtpnmapfabjdfjaaDoor
