/-
  Lemmas that the theorem of this claim rests on: 13 texts, one behind the other.
-/
import Derived.Test.YtmgikhldkebjbaaDoorM2
import Derived.Test.YtmgikhldkebjbaaDoorM1
import Derived.IntWalk

/-
  Inventories that are nil, or were not made by New: what every call returns.
-/
namespace Go.Proofs.YtmgikhldkebjbaaDoor
open Go.RowKit Go.Shelf Go.Sort
attribute [local go_sem] Oper.semAt_some
/-- What the package asks of an inventory answers no, whatever is made beside it. -/
def NoInv (w : World) (p : Value) : Prop := ∀ W, Below w.heap.size w W → Gives 14 #[p] W (.bool false)
theorem NoInv.below {w w' : World} {p : Value} (h : NoInv w p) (hb : Below w.heap.size w w') : NoInv w' p := fun W hW => h W (hb.trans (hW.mono hb.size))
theorem noInv_nil (w : World) : NoInv w (.pointer none) := fun W _ => valid_nil W
theorem noInv_zero {w : World} {B : Nat} (hB : B < w.heap.size) (h : w.cell? ⟨B, 0, none⟩ = some (.pointer none)) : NoInv w (.pointer (some ⟨B, 0, none⟩)) := fun W hW => valid_zero B W ((hW.cell (p := ⟨B, 0, none⟩) hB).trans h)
theorem no_longest {w : World} {p : Value} (h : NoInv w p) (k : ByteArray) : Gives 20 #[p, .string k] w (.tuple #[.string ⟨#[]⟩, .bool false]) := by
  unfold Gives
  have H := Lib.hid h; clear h
  go_enter Tryd.func20, Tryd.ntmps20
  go_wp2_with (go_at_call 14; refine Gives.then (H.out _ (by go_grown)) ?_; intro w1 hb)
  go_ret2
  exact ⟨rfl, hb⟩
theorem no_text {w : World} {p : Value} (h : NoInv w p) (s : Snd) : Gives 6 #[p, snv s] w (.tuple #[.string ⟨#[]⟩, .int .i64 1]) := by
  unfold Gives snv
  have H := Lib.hid h; clear h
  go_enter Tryd.func6, Tryd.ntmps6
  go_wp2_with (go_at_call 14; refine Gives.then (H.out _ (by go_grown)) ?_; intro w1 hb)
  go_ret2
  exact ⟨rfl, by have hq := (Below.refl w.heap.size w).alloc (Nat.le_refl _) (.cells #[.int .u32 (s.1.toNat : Int), .int .u32 (s.2.toNat : Int)] 24); exact hq.trans (hb.mono hq.size)⟩
theorem no_add {w : World} {p : Value} (h : NoInv w p) (k : ByteArray) (s : Snd) : Gives 19 #[p, .string k, snv s] w (.int .i64 1) := by
  unfold Gives snv
  have H := Lib.hid h; clear h
  go_enter Tryd.func19, Tryd.ntmps19
  go_wp2_with (go_at_call 14; refine Gives.then (H.out _ (by go_grown)) ?_; intro w1 hb)
  go_returns
  exact ⟨rfl, by have hq := (Below.refl w.heap.size w).alloc (Nat.le_refl _) (.cells #[.int .u32 (s.1.toNat : Int), .int .u32 (s.2.toNat : Int)] 24); exact hq.trans (hb.mono hq.size)⟩
end Go.Proofs.YtmgikhldkebjbaaDoor

/-
  Bundle of an inventory that is nil, or was not made by New.
-/
namespace Go.Proofs.YtmgikhldkebjbaaDoor
open Go.RowKit Go.Shelf Go.Sort
attribute [local go_sem] Oper.semAt_some
set_option maxHeartbeats 16000000 in
set_option maxRecDepth 100000 in
theorem no_bundle {w : World} {q : Option Addr} (h : NoInv w (.pointer q)) (t : ByteArray) : Gives 7 #[.pointer q, .string t] w (.tuple #[.agg #[.int .u32 0, .int .u32 0], .int .i64 1]) := by
  unfold Gives
  have H := Lib.hid h; clear h
  obtain ⟨V, hV⟩ : ∃ V, V = Value.tuple #[.agg #[.int .u32 0, .int .u32 0], .int .i64 1] := ⟨_, rfl⟩
  rw [← hV]
  have HV := Lib.hid hV; clear hV
  refine (callsIn_wide (n := 5)).1 ?_
  refine callsIn_of_wp_marks Tryd.func7 rfl trivial ?_ rfl
  simp only [Tryd.ntmps7, List.size_toArray, List.length_cons, List.length_nil, Nat.reduceAdd, Nat.reduceSub, Array.replicate_succ, Array.replicate_zero, List.push_toArray, List.append_toArray, List.nil_append, List.cons_append]
  gi_wp2_with (refine ⟨trivial, ?_⟩; gi_at_call 14; refine (callsIn_wide.2 (H.out _ (by go_grown))).mono ?_; rintro e wa ⟨rfl, hwa⟩; obtain ⟨hc, hf, hz⟩ := bcell hwa; (try simp only [World.size_alloc] at hc hf hz))
  have hq := (((Below.refl w.heap.size w).alloc (Nat.le_refl _) (.cells #[.pointer q] 25)).alloc (by rw [World.size_alloc]; omega) (.cells #[.int .u32 0, .int .u32 0] 24)).alloc (by simp only [World.size_alloc]; omega) (.cells #[.int .i64 0] 30)
  have hb4 := (((hq.trans (hwa.mono hq.size)).setCell (p := ⟨w.heap.size + 1, 0, none⟩) (by simp only []; omega) (.int .u32 0)).setCell (p := ⟨w.heap.size + 1, 1, none⟩) (by simp only []; omega) (.int .u32 0)).setCell (p := ⟨w.heap.size + 1 + 1, 0, none⟩) (by simp only []; omega) (.int .i64 1)
  have k0 : wa.cell? ⟨w.heap.size + 1, 0, none⟩ = some (.int .u32 0) := by rw [hc _ _ (by omega)]; go_cell
  have k1 : wa.cell? ⟨w.heap.size + 1, 1, none⟩ = some (.int .u32 0) := by rw [hc _ _ (by omega)]; go_cell
  have k2 : wa.cell? ⟨w.heap.size + 1 + 1, 0, none⟩ = some (.int .i64 0) := by rw [hc _ _ (by omega)]; go_cell
  have c1 : (((wa.setCell ⟨w.heap.size + 1, 0, none⟩ (.int .u32 0)).setCell ⟨w.heap.size + 1, 1, none⟩ (.int .u32 0)).setCell ⟨w.heap.size + 1 + 1, 0, none⟩ (.int .i64 1)).cell? ⟨w.heap.size + 1, 0, none⟩ = some (.int .u32 0) := by go_cell
  have c2 : (((wa.setCell ⟨w.heap.size + 1, 0, none⟩ (.int .u32 0)).setCell ⟨w.heap.size + 1, 1, none⟩ (.int .u32 0)).setCell ⟨w.heap.size + 1 + 1, 0, none⟩ (.int .i64 1)).cell? ⟨w.heap.size + 1, 1, none⟩ = some (.int .u32 0) := by go_cell
  have c3 : (((wa.setCell ⟨w.heap.size + 1, 0, none⟩ (.int .u32 0)).setCell ⟨w.heap.size + 1, 1, none⟩ (.int .u32 0)).setCell ⟨w.heap.size + 1 + 1, 0, none⟩ (.int .i64 1)).cell? ⟨w.heap.size + 1 + 1, 0, none⟩ = some (.int .i64 1) := by go_cell
  refine ⟨.tuple #[.agg #[.int .u32 0, .int .u32 0], .int .i64 1], ?_, ?_, hb4⟩
  · simp [results, Tryd.results7, go_sem, c1, c2, c3]
  · rw [HV.out]
end Go.Proofs.YtmgikhldkebjbaaDoor

/-
  The specification's names of features and symbols: the same texts as the program's.
-/
namespace Go.Proofs.YtmgikhldkebjbaaDoor
open Go.RowKit Go.Sort
def lowB (c : UInt8) : Bool := decide (97 ≤ c.toNat) && decide (c.toNat ≤ 122)
def letB (c : UInt8) : Bool := (decide (97 ≤ c.toNat) && decide (c.toNat ≤ 122)) || (decide (48 ≤ c.toNat) && decide (c.toNat ≤ 57))
def bigB (c : UInt8) : Bool := (decide (65 ≤ c.toNat) && decide (c.toNat ≤ 90)) || c.toNat == 64 || c.toNat == 63 || c.toNat == 33 || c.toNat == 38 || c.toNat == 42 || c.toNat == 36 || c.toNat == 37
theorem byte_all (p q : UInt8 → Bool) (h : ∀ n : Fin 256, p (UInt8.ofNat n.val) = q (UInt8.ofNat n.val)) (c : UInt8) : p c = q c := by
  have := h ⟨c.toNat, c.toNat_lt⟩
  simpa using this
theorem low_in (c : UInt8) : isIn sSmall c = lowB c := byte_all _ _ (of_decide_eq_true (by kernel_rfl)) c
theorem let_in (c : UInt8) : isIn sSmallDigits c = letB c := byte_all _ _ (of_decide_eq_true (by kernel_rfl)) c
theorem all_in (c : UInt8) : isIn sAll c = (letB c || bigB c) := byte_all (isIn sAll) (fun c => letB c || bigB c) (of_decide_eq_true (by kernel_rfl)) c
theorem dec_u8 (c : UInt8) (n : Nat) : (decide ((n : Int) ≤ (c.toNat : Int)) = decide (n ≤ c.toNat)) ∧ (decide ((c.toNat : Int) ≤ (n : Int)) = decide (c.toNat ≤ n)) := by
  constructor <;> (rw [Bool.eq_iff_iff, decide_eq_true_iff, decide_eq_true_iff]; omega)
end Go.Proofs.YtmgikhldkebjbaaDoor

/-
  The specification's IsFeat and IsSymbol.
-/
namespace Go.Proofs.YtmgikhldkebjbaaDoor
open Go.RowKit Go.Sort
theorem int_ne {n k : Nat} (h : n ≠ k) : ((n : Int) == (k : Int)) = false := by rw [Bool.eq_false_iff]; intro e; exact h (by have := beq_iff_eq.1 e; omega)
theorem isFeat_short {t : ByteArray} (h : t.size = 0) : isFeat t = false := by unfold isFeat; rw [cons_none h]; rfl
theorem isFeat_long {t : ByteArray} (h : ¬ t.size ≤ 16) : isFeat t = false := by unfold isFeat; rw [cons_long h]; rfl
theorem isFeat_first {t : ByteArray} {c : UInt8} (hc : t.data.toList.getD 0 0 = c) (h : lowB c = false) : isFeat t = false := by unfold isFeat; rw [hc, low_in, h, Bool.and_false]
theorem isFeat_of {t : ByteArray} {c : UInt8} (h0 : 0 < t.size) (h1 : t.size ≤ 16) (hc : t.data.toList.getD 0 0 = c) (h : lowB c = true) : isFeat t = t.data.toList.all letB := by
  have e : isIn sSmallDigits = letB := funext let_in
  unfold isFeat cons; rw [hc, low_in, h, decide_eq_true h0, decide_eq_true h1, e, Bool.and_true, Bool.true_and, Bool.true_and]
theorem isSym_of {t : ByteArray} (h0 : 0 < t.size) (h1 : t.size ≤ 4) : isSym t = t.data.toList.all fun c => letB c || bigB c := by
  have e : isIn sAll = fun c => letB c || bigB c := funext all_in
  unfold isSym cons; rw [decide_eq_true h0, decide_eq_true h1, e, Bool.true_and, Bool.true_and]
theorem isSym_short {t : ByteArray} (h : t.size = 0) : isSym t = false := by unfold isSym; rw [cons_none h]
theorem isSym_long {t : ByteArray} (h : ¬ t.size ≤ 4) : isSym t = false := by unfold isSym; rw [cons_long h]
end Go.Proofs.YtmgikhldkebjbaaDoor

/-
  The specification's New: the inventory, or the same error.
-/
namespace Go.Proofs.YtmgikhldkebjbaaDoor
open Go.RowKit Go.Sort
theorem below_drewN {B : Nat} {a w : World} (h : Below B a w) (q : Nat) : Below B a (w.drewN q) := ⟨h.os, h.tape, h.output, h.size, h.block⟩
theorem toList_beq (x y : ByteArray) : (x.toList == y.toList) = decide (x = y) := by
  rw [Bool.eq_iff_iff, beq_iff_eq, decide_eq_true_iff, Lib.toList_data, Lib.toList_data]
  constructor
  · intro h
    cases x; cases y
    simp only at h
    rw [Array.toList_inj.1 h]
  · rintro rfl; rfl
/-- Two of the first n names are equal. -/
def Dup (l : List ByteArray) (n : Nat) : Prop := ∃ i j, j < i ∧ i < n ∧ ∃ x, l[i]? = some x ∧ l[j]? = some x
open Classical in
theorem put_len {k : ByteArray} {v : Value} : ∀ (l : List (ByteArray × Value)), (put k v l).length = if (∃ u, (k, u) ∈ l) then l.length else l.length + 1
  | [] => by simp [put]
  | y :: l => by
    have ih := put_len (k := k) (v := v) l
    unfold put
    by_cases h : k = y.1
    · rw [if_pos h, if_pos ⟨y.2, by rw [h]; simp⟩]; rfl
    · rw [if_neg h, List.length_cons, ih]
      have e : (∃ u, (k, u) ∈ y :: l) ↔ ∃ u, (k, u) ∈ l := by
        constructor
        · rintro ⟨u, hu⟩
          rcases List.mem_cons.1 hu with hu | hu
          · exact absurd (by rw [← hu]) h
          · exact ⟨u, hu⟩
        · rintro ⟨u, hu⟩
          exact ⟨u, List.mem_cons_of_mem _ hu⟩
      by_cases h2 : ∃ u, (k, u) ∈ l
      · rw [if_pos h2, if_pos (e.2 h2)]; rfl
      · rw [if_neg h2, if_neg (fun h3 => h2 (e.1 h3))]; rfl
theorem put_keys {k x : ByteArray} {v : Value} : ∀ (l : List (ByteArray × Value)), (∃ u, (x, u) ∈ put k v l) ↔ x = k ∨ ∃ u, (x, u) ∈ l
  | [] => by simp [put]
  | y :: l => by
    have ih := put_keys (k := k) (x := x) (v := v) l
    unfold put
    by_cases h : k = y.1
    · rw [if_pos h]
      constructor
      · rintro ⟨u, hu⟩
        rcases List.mem_cons.1 hu with hu | hu
        · cases hu; exact .inl rfl
        · exact .inr ⟨u, List.mem_cons_of_mem _ hu⟩
      · rintro (rfl | ⟨u, hu⟩)
        · exact ⟨v, by simp⟩
        · rcases List.mem_cons.1 hu with hu | hu
          · exact ⟨v, by rw [h, ← hu]; simp⟩
          · exact ⟨u, List.mem_cons_of_mem _ hu⟩
    · rw [if_neg h]
      constructor
      · rintro ⟨u, hu⟩
        rcases List.mem_cons.1 hu with hu | hu
        · exact .inr ⟨u, by rw [hu]; simp⟩
        · rcases ih.1 ⟨u, hu⟩ with h2 | ⟨u2, h2⟩
          · exact .inl h2
          · exact .inr ⟨u2, List.mem_cons_of_mem _ h2⟩
      · rintro (h2 | ⟨u, hu⟩)
        · obtain ⟨u2, h3⟩ := ih.2 (.inl h2)
          exact ⟨u2, List.mem_cons_of_mem _ h3⟩
        · rcases List.mem_cons.1 hu with hu | hu
          · exact ⟨u, by rw [← hu]; simp⟩
          · obtain ⟨u2, h3⟩ := ih.2 (.inr ⟨u, hu⟩)
            exact ⟨u2, List.mem_cons_of_mem _ h3⟩
theorem numT_keys {l : List ByteArray} {x : ByteArray} : ∀ n, n ≤ l.length → ((∃ u, (x, u) ∈ numT l n) ↔ ∃ j, j < n ∧ l[j]? = some x)
  | 0, _ => by simp [numT]
  | n + 1, h => by
    have ih := numT_keys (l := l) (x := x) n (by omega)
    rw [numT_succ (by omega), put_keys, ih]
    constructor
    · rintro (h2 | ⟨j, hj, e⟩)
      · exact ⟨n, by omega, by rw [List.getElem?_eq_getElem (by omega), h2]⟩
      · exact ⟨j, by omega, e⟩
    · rintro ⟨j, hj, e⟩
      by_cases h3 : j = n
      · subst h3
        rw [List.getElem?_eq_getElem (by omega), Option.some.injEq] at e
        exact .inl e.symm
      · exact .inr ⟨j, by omega, e⟩
theorem numT_le {l : List ByteArray} : ∀ n, n ≤ l.length → (numT l n).length ≤ n
  | 0, _ => by simp [numT]
  | n + 1, h => by
    have ih := numT_le (l := l) n (by omega)
    rw [numT_succ (by omega), put_len]
    split <;> omega
theorem numT_dup {l : List ByteArray} : ∀ n, n ≤ l.length → ((numT l n).length < n ↔ Dup l n)
  | 0, _ => by
    constructor
    · intro h; omega
    · rintro ⟨i, j, h1, h2, _⟩; omega
  | n + 1, h => by
    have ih := numT_dup (l := l) n (by omega)
    have hle := numT_le (l := l) n (by omega)
    have hk := numT_keys (l := l) (x := l[n]) n (by omega)
    rw [numT_succ (by omega), put_len]
    constructor
    · intro h1
      split at h1
      · rename_i h2
        obtain ⟨j, hj, e⟩ := hk.1 h2
        exact ⟨n, j, hj, by omega, l[n], List.getElem?_eq_getElem (by omega), e⟩
      · obtain ⟨i, j, a, b, c⟩ := ih.1 (by omega)
        exact ⟨i, j, a, by omega, c⟩
    · rintro ⟨i, j, a, b, x, c, d⟩
      by_cases e : i = n
      · subst e
        rw [List.getElem?_eq_getElem (by omega), Option.some.injEq] at c
        rw [if_pos (hk.2 ⟨j, a, by rw [d, c]⟩)]
        omega
      · have := ih.2 ⟨i, j, a, by omega, x, c, d⟩
        split <;> omega
theorem newE_dup {l : List ByteArray} (h24 : l.length ≤ 24) (h : l.all isFeat = true) (hd : Dup l l.length) : newE l = 6 := by
  unfold newE
  rw [if_neg (by omega), if_pos h, if_pos ((numT_dup l.length (Nat.le_refl _)).2 hd)]
theorem newE_ok {l : List ByteArray} (h24 : l.length ≤ 24) (h : l.all isFeat = true) (hd : ¬ Dup l l.length) : newE l = 0 := by
  unfold newE
  rw [if_neg (by omega), if_pos h, if_neg (fun e => hd ((numT_dup l.length (Nat.le_refl _)).1 e))]
theorem newE_name {l : List ByteArray} (h24 : l.length ≤ 24) (h : l.all isFeat = false) : newE l = 15 := by
  unfold newE
  rw [if_neg (by omega), if_neg (by simp [h])]
end Go.Proofs.YtmgikhldkebjbaaDoor

/-
  The specification's New: the walk.
-/
namespace Go.Proofs.YtmgikhldkebjbaaDoor
open Go.RowKit Go.Sort
end Go.Proofs.YtmgikhldkebjbaaDoor

/-
  few: whether names and texts are looked at.
-/
namespace Go.Proofs.YtmgikhldkebjbaaDoor
open Go.RowKit Go.Sort
def sumZ (l : List ByteArray) : Nat := (l.map ByteArray.size).sum
theorem sumZ_take {l : List ByteArray} {k : Nat} (h : k < l.length) : sumZ (l.take (k + 1)) = sumZ (l.take k) + l[k].size := by
  unfold sumZ
  rw [List.take_succ_eq_append_getElem h, List.map_append, List.sum_append]
  simp
theorem sumZ_le {l : List ByteArray} {M : Nat} (h : ∀ x ∈ l, x.size ≤ M) : sumZ l ≤ l.length * M := by
  induction l with
  | nil => simp [sumZ]
  | cons x l ih =>
    have h1 := ih (fun y hy => h y (by simp [hy]))
    have h2 := h x (by simp)
    unfold sumZ at *
    simp only [List.map_cons, List.sum_cons, List.length_cons, Nat.add_mul, Nat.one_mul]
    omega
/-- Whether names and texts are looked at. -/
def fewB (l m : List ByteArray) : Bool := decide (l.length ≤ 100) && decide (sumZ l + sumZ m ≤ 4000)
/-- A sum that counts while there are few of them. -/
def Sum (b : Bool) (n : Nat) (v : Value) : Prop := ∃ z : Int, v = .int .i64 z ∧ (b = true → z = (n : Int))
theorem wrap64_in {n : Int} (h : -9223372036854775808 ≤ n ∧ n ≤ 9223372036854775807) : wrap64 n = n := by unfold wrap64; omega
theorem Sum.step {b : Bool} {n k : Nat} {z : Int} (h : b = true → z = (n : Int)) (hb : b = true → n + k ≤ 9223372036854775807) : Sum b (n + k) (.int .i64 (wrap64 (z + (k : Int)))) :=
  ⟨_, rfl, fun hh => by rw [h hh, wrap64_in (by have := hb hh; omega)]; omega⟩
/-- A call that answers yes or no and changes nothing; yes only if n is at most 100. -/
def SomeB (n : Nat) (w : World) (e : Ending) (w' : World) : Prop := ∃ b : Bool, e = .returned (.bool b) ∧ (b = true → n ≤ 100) ∧ Below w.heap.size w w'
end Go.Proofs.YtmgikhldkebjbaaDoor

/-
  The specification's inventory in memory; both: an inventory of the program and one of the specification.
-/
namespace Go.Proofs.YtmgikhldkebjbaaDoor
open Go.RowKit Go.Sort
theorem OwnN.mono {w : World} {base base' : Nat} {v : Value} {l : List (ByteArray × Snd)} (h : OwnN w base v l) (hb : base' ≤ base) : OwnN w base' v l := by
  obtain ⟨hl, h0 | ⟨g, cap, cur, hv, hg, hh, hr⟩⟩ := h
  · exact ⟨hl, .inl h0⟩
  · exact ⟨hl, .inr ⟨g, cap, cur, hv, by omega, hh, hr⟩⟩
theorem newE_len {l : List ByteArray} (h : newE l = 0) : l.length ≤ 24 := by
  unfold newE at h
  by_cases h24 : 24 < l.length
  · rw [if_pos h24] at h; cases h
  · omega
theorem newE_all {l : List ByteArray} (h : newE l = 0) : l.all isFeat = true := by
  have h24 := newE_len h
  unfold newE at h
  rw [if_neg (by omega)] at h
  by_cases hA : l.all isFeat = true
  · exact hA
  · rw [if_neg hA] at h; cases h
theorem newE_size {l : List ByteArray} (h : newE l = 0) : ∀ x ∈ l, x.size ≤ 16 := fun x hx => by
  have := List.all_eq_true.1 (newE_all h) x hx
  unfold isFeat cons at this
  simp only [Bool.and_eq_true, decide_eq_true_eq] at this
  exact this.1.1.2
end Go.Proofs.YtmgikhldkebjbaaDoor

/-
  The specification of features: Valid, Get, put and With: what they return.
-/
namespace Go.Proofs.YtmgikhldkebjbaaDoor
open Go.RowKit Go.Sort
theorem vld_bv {p m : BitVec 32} : vld p m = true ↔ p &&& m = 0#32 ∧ (p ||| m) &&& ~~~16777215#32 = 0#32 := by simp [vld]
theorem bv_ext {x y : BitVec 32} (h : ∀ i, i < 32 → x.getLsbD i = y.getLsbD i) : x = y := BitVec.eq_of_getLsbD_eq h
def gI (p m : BitVec 32) (g : Int) : Int := if 0 ≤ g ∧ g < 24 then getV p m g.toNat else 0
theorem gI_nat (p m : BitVec 32) (k : Nat) (h : k < 24) : gI p m (k : Int) = getV p m k := by unfold gI; rw [if_pos (by omega)]; rfl
theorem withP_get (p : BitVec 32) (k : Nat) (v : Int) (j : Nat) (hk : k < 32) (hj : j < 32) : (withP p k v).getLsbD j = if j = k then decide (v = 1) else p.getLsbD j := by
  unfold withP
  have hd : decide (j < 32) = true := decide_eq_true hj
  by_cases hv : v = 1
  · rw [if_pos hv]
    simp only [BitVec.getLsbD_or, BitVec.getLsbD_and, BitVec.getLsbD_not, bit_get k j hk, hd, Bool.true_and]
    by_cases e : j = k <;> simp [e, hv]
  · rw [if_neg hv]
    simp only [BitVec.getLsbD_and, BitVec.getLsbD_not, bit_get k j hk, hd, Bool.true_and]
    by_cases e : j = k <;> simp [e, hv]
theorem withM_get (p : BitVec 32) (k : Nat) (v : Int) (j : Nat) (hk : k < 32) (hj : j < 32) : (withM p k v).getLsbD j = if j = k then decide (v = -1) else p.getLsbD j := by
  unfold withM
  have hd : decide (j < 32) = true := decide_eq_true hj
  by_cases hv : v = -1
  · rw [if_pos hv]
    simp only [BitVec.getLsbD_or, BitVec.getLsbD_and, BitVec.getLsbD_not, bit_get k j hk, hd, Bool.true_and]
    by_cases e : j = k <;> simp [e, hv]
  · rw [if_neg hv]
    simp only [BitVec.getLsbD_and, BitVec.getLsbD_not, bit_get k j hk, hd, Bool.true_and]
    by_cases e : j = k <;> simp [e, hv]
theorem all_get (k : Nat) (h : k < 24) : (16777215#32).getLsbD k = true := (by decide : ∀ k : Fin 24, (16777215#32).getLsbD k.val = true) ⟨k, h⟩
theorem vld_bits {p m : BitVec 32} : vld p m = true ↔ ∀ j, j < 32 → (p.getLsbD j && m.getLsbD j) = false ∧ ((p.getLsbD j || m.getLsbD j) && !(16777215#32).getLsbD j) = false := by
  rw [vld_bv]
  constructor
  · rintro ⟨h1, h2⟩ j hj
    have a1 := congrArg (fun z => z.getLsbD j) h1
    have a2 := congrArg (fun z => z.getLsbD j) h2
    simp only [BitVec.getLsbD_and, BitVec.getLsbD_or, BitVec.getLsbD_not, BitVec.getLsbD_zero, decide_eq_true hj, Bool.true_and] at a1 a2
    exact ⟨a1, a2⟩
  · intro h
    constructor
    · apply bv_ext; intro j hj; simp only [BitVec.getLsbD_and, BitVec.getLsbD_zero]; exact (h j hj).1
    · apply bv_ext; intro j hj; simp only [BitVec.getLsbD_and, BitVec.getLsbD_or, BitVec.getLsbD_not, BitVec.getLsbD_zero, decide_eq_true hj, Bool.true_and]; exact (h j hj).2
theorem getV_of_vld {p m : BitVec 32} (h : vld p m = true) (k : Nat) (hk : k < 32) : decide (getV p m k = 1) = p.getLsbD k ∧ decide (getV p m k = -1) = m.getLsbD k := by
  have := (vld_bits.1 h k hk).1
  unfold getV
  revert this
  cases p.getLsbD k <;> cases m.getLsbD k <;> simp
theorem getV_three (p m : BitVec 32) (k : Nat) : getV p m k = 1 ∨ getV p m k = 0 ∨ getV p m k = -1 := by
  unfold getV; cases p.getLsbD k <;> cases m.getLsbD k <;> simp
theorem vld_with {p m : BitVec 32} (h : vld p m = true) (k : Nat) (v : Int) (hk : k < 24) : vld (withP p k v) (withM m k v) = true := by
  rw [vld_bits] at *
  intro j hj
  rw [withP_get p k v j (by omega) hj, withM_get m k v j (by omega) hj]
  by_cases e : j = k
  · subst e
    rw [if_pos rfl, if_pos rfl, all_get j hk]
    by_cases h1 : v = 1
    · subst h1; simp
    · simp [h1]
  · rw [if_neg e, if_neg e]; exact h j hj
theorem getV_with {p m : BitVec 32} (k : Nat) (v : Int) (j : Nat) (hk : k < 24) (hj : j < 32) (hv : v = 1 ∨ v = 0 ∨ v = -1) : getV (withP p k v) (withM m k v) j = if j = k then v else getV p m j := by
  unfold getV
  rw [withP_get p k v j (by omega) hj, withM_get m k v j (by omega) hj]
  by_cases e : j = k
  · subst e
    rw [if_pos rfl, if_pos rfl, if_pos rfl]
    rcases hv with rfl | rfl | rfl <;> simp
  · rw [if_neg e, if_neg e, if_neg e]
def withV (p m : BitVec 32) (k : Nat) (v : Int) : Value :=
  if v = 1 ∨ v = 0 ∨ v = -1 then .tuple #[sv (withP p k v) (withM m k v), .int .i64 0] else .tuple #[sv 0 0, .int .i64 2]
theorem shr_bit (p : BitVec 32) (k : Nat) : bits .and .u32 ((p.toNat : Int) / 2 ^ k) 1 = if p.getLsbD k then 1 else 0 := by
  have h : (p.toNat : Int) / 2 ^ k = ((p.toNat / 2 ^ k : Nat) : Int) := by rw [Int.natCast_ediv, Int.natCast_pow]; rfl
  have hlt : p.toNat / 2 ^ k < 2 ^ 32 := Nat.lt_of_le_of_lt (Nat.div_le_self _ _) p.isLt
  rw [bv_and, h, BitVec.ofInt_natCast, BitVec.toNat_and, BitVec.toNat_ofNat, Nat.mod_eq_of_lt hlt]
  have e : (BitVec.ofInt 32 1).toNat = 1 := by decide
  rw [e, Nat.and_one_is_mod, ← Nat.toNat_testBit]
  show _ = if p.toNat.testBit k then 1 else 0
  cases p.toNat.testBit k <;> rfl
theorem vld_no {p m : BitVec 32} {k : Nat} (hk : k < 32) (h : ((p.getLsbD k && m.getLsbD k) || ((p.getLsbD k || m.getLsbD k) && !decide (k < 24))) = true) : vld p m = false := by
  rw [Bool.eq_false_iff]
  intro hv
  obtain ⟨h1, h2⟩ := vld_bits.1 hv k hk
  have ha : (16777215#32).getLsbD k = decide (k < 24) := (by decide : ∀ k : Fin 32, (16777215#32).getLsbD k.val = decide (k.val < 24)) ⟨k, hk⟩
  rw [ha] at h2
  rw [h1, h2] at h
  cases h
theorem vld_yes {p m : BitVec 32} (h : ∀ k, k < 32 → ((p.getLsbD k && m.getLsbD k) || ((p.getLsbD k || m.getLsbD k) && !decide (k < 24))) = false) : vld p m = true := by
  rw [vld_bits]
  intro k hk
  have ha : (16777215#32).getLsbD k = decide (k < 24) := (by decide : ∀ k : Fin 32, (16777215#32).getLsbD k.val = decide (k.val < 24)) ⟨k, hk⟩
  rw [ha]
  simpa using h k hk
def okBit (p m : BitVec 32) (k : Nat) : Prop := ((p.getLsbD k && m.getLsbD k) || ((p.getLsbD k || m.getLsbD k) && !decide (k < 24))) = false
theorem okBit_more {p m : BitVec 32} {k : Nat} (h : ∀ j, j < k → okBit p m j) (hk : okBit p m k) : ∀ j, j < k + 1 → okBit p m j := fun j hj => by
  rcases Nat.lt_or_ge j k with h1 | h1
  · exact h j h1
  · obtain rfl : j = k := by omega
    exact hk
theorem b_andNot (x y : BitVec 32) : bits .andNot .u32 x.toNat y.toNat = ((x &&& ~~~y).toNat : Int) := by rw [bv_andNot, ofInt32_nat, ofInt32_nat]
theorem b_or (x y : BitVec 32) : bits .or .u32 x.toNat y.toNat = ((x ||| y).toNat : Int) := by rw [bv_or, ofInt32_nat, ofInt32_nat]
theorem b_and (x y : BitVec 32) : bits .and .u32 x.toNat y.toNat = ((x &&& y).toNat : Int) := by rw [bv_and, ofInt32_nat, ofInt32_nat]
end Go.Proofs.YtmgikhldkebjbaaDoor

/-
  Which sounds belong to an inventory: the specification's answer is the program's.
-/
namespace Go.Proofs.YtmgikhldkebjbaaDoor
open Go.RowKit Go.Sort
theorem hasB_bits (n : Nat) (p m : BitVec 32) : hasB n (p, m) = true ↔ (∀ j, j < 32 → (p.getLsbD j && m.getLsbD j) = false) ∧ ∀ j, n ≤ j → j < 32 → p.getLsbD j = false ∧ m.getLsbD j = false := by
  have h1 : (p.toNat &&& m.toNat = 0) ↔ ∀ j, j < 32 → (p.getLsbD j && m.getLsbD j) = false := by
    constructor
    · intro h j _
      have := congrArg (fun x => x.testBit j) h
      simp only [Nat.testBit_and, Nat.zero_testBit] at this
      exact this
    · intro h
      apply Nat.eq_of_testBit_eq
      intro j
      rw [Nat.testBit_and, Nat.zero_testBit]
      by_cases hj : j < 32
      · exact h j hj
      · have : p.toNat.testBit j = false := Nat.testBit_lt_two_pow (Nat.lt_of_lt_of_le p.isLt (Nat.pow_le_pow_right (by omega) (by omega)))
        rw [this, Bool.false_and]
  have h2 : (valN (p, m) / 2 ^ n = 0) ↔ ∀ j, n ≤ j → j < 32 → p.getLsbD j = false ∧ m.getLsbD j = false := by
    unfold valN
    rw [← Nat.shiftRight_eq_div_pow]
    constructor
    · intro h j hj _
      have := congrArg (fun x => x.testBit (j - n)) h
      simp only [Nat.testBit_shiftRight, Nat.testBit_or, Nat.zero_testBit, Bool.or_eq_false_iff] at this
      rw [show n + (j - n) = j from by omega] at this
      exact this
    · intro h
      apply Nat.eq_of_testBit_eq
      intro j
      rw [Nat.testBit_shiftRight, Nat.testBit_or, Nat.zero_testBit, Bool.or_eq_false_iff]
      by_cases hj : n + j < 32
      · exact h (n + j) (by omega) hj
      · have e : 2 ^ 32 ≤ 2 ^ (n + j) := Nat.pow_le_pow_right (by omega) (by omega)
        exact ⟨Nat.testBit_lt_two_pow (Nat.lt_of_lt_of_le p.isLt e), Nat.testBit_lt_two_pow (Nat.lt_of_lt_of_le m.isLt e)⟩
  unfold hasB
  rw [Bool.and_eq_true, decide_eq_true_iff, decide_eq_true_iff, h1, h2]
theorem hasB_vld {n : Nat} {p m : BitVec 32} (hn : n ≤ 24) (h : hasB n (p, m) = true) : vld p m = true := by
  obtain ⟨h1, h2⟩ := (hasB_bits n p m).1 h
  refine vld_yes fun k hk => ?_
  rw [h1 k hk, Bool.false_or]
  by_cases h24 : k < 24
  · simp [h24]
  · obtain ⟨a, b⟩ := h2 k (by omega) hk
    rw [a, b]; rfl
theorem hasB_not {n : Nat} {p m : BitVec 32} (hn : n ≤ 24) (h : vld p m = false) : hasB n (p, m) = false := by
  rw [Bool.eq_false_iff]; intro e; rw [hasB_vld hn e] at h; cases h
theorem hasB_get {n k : Nat} {p m : BitVec 32} (hk : n ≤ k) (hk2 : k < 32) (h : getV p m k ≠ 0) : hasB n (p, m) = false := by
  rw [Bool.eq_false_iff]; intro e
  obtain ⟨a, b⟩ := ((hasB_bits n p m).1 e).2 k hk hk2
  exact h (by unfold getV; rw [a, b]; rfl)
theorem hasB_yes {n : Nat} {p m : BitVec 32} (hv : vld p m = true) (h : ∀ k, n ≤ k → k < 24 → getV p m k = 0) : hasB n (p, m) = true := by
  refine (hasB_bits n p m).2 ⟨fun j hj => (vld_bits.1 hv j hj).1, fun j hj hj2 => ?_⟩
  by_cases h24 : j < 24
  · have := h j hj h24
    unfold getV at this
    cases hp : p.getLsbD j <;> cases hm : m.getLsbD j <;> simp [hp, hm] at this <;> exact ⟨rfl, rfl⟩
  · have := (vld_bits.1 hv j hj2).2
    have ha : (16777215#32).getLsbD j = false := (by decide : ∀ k : Fin 32, 24 ≤ k.val → (16777215#32).getLsbD k.val = false) ⟨j, hj2⟩ (by show 24 ≤ j; omega)
    rw [ha] at this
    cases hp : p.getLsbD j <;> cases hm : m.getLsbD j <;> simp [hp, hm] at this <;> exact ⟨rfl, rfl⟩
end Go.Proofs.YtmgikhldkebjbaaDoor

/-
  The specification's Text: the same text as the program's.
-/
namespace Go.Proofs.YtmgikhldkebjbaaDoor
open Go.RowKit Go.Shelf Go.Sort
theorem ljoin_snoc (x sep : List UInt8) : ∀ (l : List (List UInt8)), l ≠ [] → Lib.join (l ++ [x]) sep = Lib.join l sep ++ sep ++ x
  | [], h => absurd rfl h
  | y :: r, _ => by
    rw [List.cons_append, Lib.join_cons, Lib.join_cons]
    simp [Lib.joinTail]
theorem bytes_ext {a b : ByteArray} (h : a.data.toList = b.data.toList) : a = b := by
  cases a; cases b
  simp only at h
  rw [Array.toList_inj.1 h]
theorem append_list (a b : ByteArray) : (a ++ b).data.toList = a.data.toList ++ b.data.toList := by
  rw [ByteArray.data_append, Array.toList_append]
theorem joinS_list (l : List ByteArray) (sep : ByteArray) : (joinS l sep).data.toList = Lib.join (l.map (·.data.toList)) sep.data.toList := by unfold joinS; simp
theorem joinS_nil (sep : ByteArray) : joinS [] sep = ⟨#[]⟩ := rfl
theorem joinS_one (x sep : ByteArray) : joinS [x] sep = x := bytes_ext (by rw [joinS_list]; simp [Lib.join_one])
theorem joinS_snoc (l : List ByteArray) (x sep : ByteArray) (h : l ≠ []) : joinS (l ++ [x]) sep = joinS l sep ++ sep ++ x := bytes_ext (by
  rw [joinS_list, append_list, append_list, joinS_list, List.map_append]
  exact ljoin_snoc _ _ _ (by simpa using h))
theorem joinTail_len (sep : List UInt8) (hs : sep.length ≤ 1) : ∀ (r : List (List UInt8)), (∀ x ∈ r, x.length ≤ 17) → (Lib.joinTail sep r).length ≤ 18 * r.length
  | [], _ => by simp [Lib.joinTail]
  | y :: r, h => by
    have ih := joinTail_len sep hs r (fun x hx => h x (by simp [hx]))
    have h1 := h y (by simp)
    unfold Lib.joinTail at *
    simp only [List.map_cons, List.flatten_cons, List.length_append, List.length_cons]
    omega
theorem joinS_size (l : List ByteArray) (sep : ByteArray) (hs : sep.size ≤ 1) (h : ∀ x ∈ l, x.size ≤ 17) : (joinS l sep).size ≤ 18 * l.length := by
  have e : (joinS l sep).size = (joinS l sep).data.toList.length := by rw [Array.length_toList]; rfl
  rw [e, joinS_list]
  cases l with
  | nil => simp [Lib.join_nil]
  | cons y r =>
    rw [List.map_cons, Lib.join_cons]
    have h1 := h y (by simp)
    have h2 := joinTail_len sep.data.toList (by rw [Array.length_toList]; exact hs) (r.map (·.data.toList)) (fun x hx => by
      obtain ⟨z, hz, rfl⟩ := List.mem_map.1 hx
      rw [Array.length_toList]; exact h z (by simp [hz]))
    rw [List.length_map] at h2
    rw [List.length_append, List.length_cons]
    have e1 : y.data.toList.length = y.size := by rw [Array.length_toList]; rfl
    omega
theorem txtL_items (s : Snd) : ∀ (l : List ByteArray) (f : Nat), (∀ x ∈ l, x.size ≤ 16) → ∀ x ∈ txtL s f l, 0 < x.size ∧ x.size ≤ 17
  | [], _, _, x, hx => by cases hx
  | y :: l, f, h, x, hx => by
    have h1 := h y (by simp)
    have hp : (plusS y).size = 1 + y.size := by unfold plusS; rw [ByteArray.size_append]; rfl
    have hm : (minusS y).size = 1 + y.size := by unfold minusS; rw [ByteArray.size_append]; rfl
    have ih := txtL_items s l (f + 1) (fun z hz => h z (by simp [hz])) x
    simp only [txtL] at hx
    split at hx
    · rcases List.mem_cons.1 hx with rfl | hx
      · omega
      · exact ih hx
    · split at hx
      · rcases List.mem_cons.1 hx with rfl | hx
        · omega
        · exact ih hx
      · exact ih hx
theorem joinS_pos {l : List ByteArray} {sep : ByteArray} (h : ∀ x ∈ l, 0 < x.size) (hl : l ≠ []) : 0 < (joinS l sep).size := by
  have e : (joinS l sep).size = (joinS l sep).data.toList.length := by rw [Array.length_toList]; rfl
  rw [e, joinS_list]
  cases l with
  | nil => exact absurd rfl hl
  | cons y r =>
    rw [List.map_cons, Lib.join_cons, List.length_append]
    have h1 := h y (by simp)
    have e1 : y.data.toList.length = y.size := by rw [Array.length_toList]; rfl
    omega
theorem bit_and (p : BitVec 32) (k : Nat) (hk : k < 32) : (p.toNat &&& 2 ^ k ≠ 0) ↔ p.getLsbD k = true := by
  have := and_bit p k hk
  rw [bit_toNat k hk] at this
  rw [ne_eq, this]
  simp
/-- One feature more in the text of a valid sound. -/
theorem txtS_step {p m : BitVec 32} (hv : vld p m = true) (l : List ByteArray) (k : Nat) (h : k < l.length) (hk : k < 24) :
    (getV p m k = 0 ∧ txtL (p, m) 0 (l.take (k + 1)) = txtL (p, m) 0 (l.take k)) ∨ (getV p m k = 1 ∧ txtL (p, m) 0 (l.take (k + 1)) = txtL (p, m) 0 (l.take k) ++ [plusS l[k]]) ∨
    (getV p m k = -1 ∧ txtL (p, m) 0 (l.take (k + 1)) = txtL (p, m) 0 (l.take k) ++ [minusS l[k]]) := by
  have ht := txtL_take (p, m) l k h
  have b1 := bit_and p k (by omega)
  have b2 := bit_and m k (by omega)
  have hb := (vld_bits.1 hv k (by omega)).1
  simp only at ht
  unfold getV
  cases hp : p.getLsbD k
  · cases hm : m.getLsbD k
    · left
      rw [if_neg (by rw [b1, hp]; simp), if_neg (by rw [b2, hm]; simp), List.append_nil] at ht
      exact ⟨by simp, ht⟩
    · right; right
      rw [if_neg (by rw [b1, hp]; simp), if_pos (by rw [b2, hm])] at ht
      exact ⟨by simp, ht⟩
  · right; left
    rw [if_pos (by rw [b1, hp])] at ht
    exact ⟨by simp, ht⟩
end Go.Proofs.YtmgikhldkebjbaaDoor

/-
  The specification's Text: the walk.
-/
namespace Go.Proofs.YtmgikhldkebjbaaDoor
open Go.RowKit Go.Shelf Go.Sort
/-- What Text returns. -/
def txtV (l : List ByteArray) (s : Snd) : Value := if hasB l.length s = true then .tuple #[.string (txtS l s), .int .i64 0] else .tuple #[.string ⟨#[]⟩, .int .i64 14]
theorem empty_toList {t : ByteArray} : t.toList.isEmpty = decide (t.size = 0) := by
  rw [Bool.eq_iff_iff, decide_eq_true_iff, Lib.toList_data, List.isEmpty_iff]
  constructor
  · intro h
    have h2 : t.data.toList.length = 0 := by rw [h]; rfl
    rwa [Array.length_toList] at h2
  · intro h; rw [bytes_empty h]
end Go.Proofs.YtmgikhldkebjbaaDoor

/-
  InventoryTexts: the walk.
-/
namespace Go.Proofs.YtmgikhldkebjbaaDoor
open Go.RowKit Go.Shelf Go.Sort
attribute [local go_sem] bv_and bv_or ofInt32_nat
set_option maxHeartbeats 1000000 in
theorem text_bad {w : World} {base B : Nat} {l : List ByteArray} {a : List (ByteArray × Snd)} {nv av : Value} {bf bs by_ : Nat} (h : Inv w base B l a nv av bf bs by_) (hl : l.length ≤ 24) (s : Snd) (hs : hasB l.length s = false) : Gives 6 #[.pointer (some ⟨B, 0, none⟩), snv s] w (.tuple #[.string ⟨#[]⟩, .int .i64 14]) := by
  unfold Gives
  have hv := fun (W : World) (hb : Below w.heap.size w W) => valid_yes B W (h.below hb).cells.1
  have hh := fun (W : World) (hb : Below w.heap.size w W) => has_any (h.below hb) s hl
  rw [hs] at hh
  unfold snv at *
  have HV := Lib.hid hv; have HH := Lib.hid hh
  have hb0 := (Below.refl w.heap.size w).alloc (Nat.le_refl _) (.cells #[.int .u32 (s.1.toNat : Int), .int .u32 (s.2.toNat : Int)] 24)
  clear h hv hh hs
  go_enter Tryd.func6, Tryd.ntmps6
  go_wp2_with fail
  go_at_call 14
  refine Gives.then (HV.out _ hb0) ?_
  intro w1 hb
  have hw := hb0.trans (hb.mono hb0.size)
  have r0 := (hb.cell (p := ⟨w.heap.size, 0, none⟩) (by simp)).trans (cell_block (World.alloc_heap_new w _) rfl)
  have r1 := (hb.cell (p := ⟨w.heap.size, 1, none⟩) (by simp)).trans (cell_block (World.alloc_heap_new w _) rfl)
  clear hb hb0
  go_wp2_with fail
  go_at_call 15
  refine Gives.then (HH.out _ hw) ?_
  intro w2 hb2
  have hw2 := hw.trans (hb2.mono hw.size)
  clear hb2 hw
  go_wp2_with fail
  go_ret2
  exact ⟨rfl, hw2⟩
theorem text_all {w : World} {base B : Nat} {l : List ByteArray} {a : List (ByteArray × Snd)} {nv av : Value} {bf bs by_ : Nat} (h : Inv w base B l a nv av bf bs by_) (hl : l.length ≤ 24) (hx : ∀ x ∈ l, x.size ≤ 16) (s : Snd) : Gives 6 #[.pointer (some ⟨B, 0, none⟩), snv s] w (txtV l s) := by
  unfold txtV
  by_cases hs : hasB l.length s = true
  · rw [if_pos hs]
    refine text_any h hl s hs (fun x hh => Nat.le_trans (hx x hh) (by decide)) ?_
    have h1 := joinS_size (txtL s 0 l) ⟨#[32]⟩ (by decide) (fun x hh => (txtL_items s l 0 hx x hh).2)
    have h2 := txtL_le s l 0
    unfold txtS
    omega
  · rw [if_neg hs]
    exact text_bad h hl s (by simpa using hs)
theorem ss_nil (w : World) : Ss w (.slice none 0 0) [] := .inl ⟨rfl, rfl⟩
end Go.Proofs.YtmgikhldkebjbaaDoor
