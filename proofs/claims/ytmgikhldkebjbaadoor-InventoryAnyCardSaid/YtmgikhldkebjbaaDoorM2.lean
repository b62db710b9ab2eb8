/-
  Lemmas that the theorem of this claim rests on: 7 texts, one behind the other.
-/
import Derived.Test.YtmgikhldkebjbaaDoorM1
import Derived.RangeFuncNested
import Derived.RangeFuncBound
import Derived.RangeFuncCalls
import Derived.RangeFuncLeaves
import Derived.RangeFuncFrom
import Derived.Shelf.Abstract
import Derived.Shelf.RegionOpen
import Derived.WalkKit
import Derived.Lib.Hide
import Derived.OwnWalkIn
import Derived.TacticsInMore
import Derived.LoopNIn
import Derived.LoopIn
import Derived.BigQuiet
import Derived.Sort.QuietIn
import Derived.Test.YtmgikhldkebjbaaDoorProg
import Derived.Shelf.Strings.OnBuilder

/-
  value: the sound that an item of a bundle gives.
-/
namespace Go.Proofs.YtmgikhldkebjbaaDoor
open Go.RowKit Go.Sort
theorem put_mem {k : ByteArray} {v : Value} {x : ByteArray × Value} : ∀ {l : List (ByteArray × Value)}, x ∈ put k v l → x = (k, v) ∨ x ∈ l
  | [], h => by simp [put] at h; exact .inl h
  | y :: l, h => by
    unfold put at h
    by_cases hk : k = y.1
    · rw [if_pos hk] at h
      rcases List.mem_cons.1 h with h | h
      · exact .inl h
      · exact .inr (by simp [h])
    · rw [if_neg hk] at h
      rcases List.mem_cons.1 h with h | h
      · exact .inr (by simp [h])
      · rcases put_mem h with h | h
        · exact .inl h
        · exact .inr (by simp [h])
theorem numT_vals {l : List ByteArray} : ∀ {n : Nat} {x : ByteArray × Value}, x ∈ numT l n → ∃ j : Nat, j < n ∧ x.2 = .int .i64 (j : Int)
  | 0, x, h => by simp [numT] at h
  | n + 1, x, h => by
    unfold numT at h
    split at h
    · rcases put_mem h with h | h
      · exact ⟨n, by omega, by rw [h]⟩
      · obtain ⟨j, hj, e⟩ := numT_vals h
        exact ⟨j, by omega, e⟩
    · obtain ⟨j, hj, e⟩ := numT_vals h
      exact ⟨j, by omega, e⟩
theorem fnd_mem {k : ByteArray} {p : Nat} {u : Value} : ∀ {l : List (ByteArray × Value)} {i : Nat}, fnd k l i = some (p, u) → ∃ y, (y, u) ∈ l
  | [], _, h => by cases h
  | x :: l, i, h => by
    unfold fnd at h
    by_cases hk : k = x.1
    · rw [if_pos hk] at h
      simp only [Option.some.injEq, Prod.mk.injEq] at h
      exact ⟨x.1, by rw [← h.2]; simp⟩
    · rw [if_neg hk] at h
      obtain ⟨y, hy⟩ := fnd_mem h
      exact ⟨y, by simp [hy]⟩
/-- The number of a name. -/
def featO (l : List ByteArray) (k : ByteArray) : Option Nat := match (fnd k (numT l l.length) 0).map (·.2) with
  | some (Value.int IntKind.i64 j) => some j.toNat
  | _ => none
theorem featO_none {l : List ByteArray} {k : ByteArray} (h : featO l k = none) : fnd k (numT l l.length) 0 = none := by
  unfold featO at h
  cases hf : fnd k (numT l l.length) 0 with
  | none => rfl
  | some x =>
    obtain ⟨p, u⟩ := x
    obtain ⟨y, hy⟩ := fnd_mem hf
    obtain ⟨j, _, e⟩ := numT_vals hy
    simp only at e
    rw [hf, e] at h
    simp at h
theorem featO_some {l : List ByteArray} {k : ByteArray} {j : Nat} (h : featO l k = some j) : j < l.length ∧ ∃ p, fnd k (numT l l.length) 0 = some (p, .int .i64 (j : Int)) := by
  unfold featO at h
  cases hf : fnd k (numT l l.length) 0 with
  | none => rw [hf] at h; simp at h
  | some x =>
    obtain ⟨p, u⟩ := x
    obtain ⟨y, hy⟩ := fnd_mem hf
    obtain ⟨i, hi, e⟩ := numT_vals hy
    simp only at e
    rw [hf, e] at h
    simp at h
    subst h
    exact ⟨hi, p, by rw [e]⟩
/-- The sound that an item gives. -/
def valS (l : List ByteArray) (t : ByteArray) : Option Snd :=
  if t.size = 0 then none else match featO l (t.extract 1 t.size) with
    | none => none
    | some j => if t.data.toList.getD 0 0 = 43 then some (bit j, 0#32) else if t.data.toList.getD 0 0 = 45 then some (0#32, bit j) else none
theorem valS_empty {l : List ByteArray} {t : ByteArray} (h : t.size = 0) : valS l t = none := by unfold valS; rw [if_pos h]
theorem valS_no {l : List ByteArray} {t : ByteArray} (h : featO l (t.extract 1 t.size) = none) : valS l t = none := by unfold valS; rw [h]; split <;> rfl
theorem valS_of {l : List ByteArray} {t : ByteArray} {j : Nat} {c : UInt8} (h0 : ¬ t.size = 0) (h : featO l (t.extract 1 t.size) = some j) (hc : t.data.toList.getD 0 0 = c) : valS l t = if c = 43 then some (bit j, 0#32) else if c = 45 then some (0#32, bit j) else none := by unfold valS; rw [h, if_neg h0, hc]
set_option maxRecDepth 100000 in
set_option maxHeartbeats 8000000 in
theorem value_any {w : World} {base B : Nat} {l : List ByteArray} {a : List (ByteArray × Snd)} {nv av : Value} {bf bs by_ : Nat} (h : Inv w base B l a nv av bf bs by_) (hl : l.length ≤ 24) (t : ByteArray) (ht : t.size ≤ 9223372036854775807) : Gives 17 #[.pointer (some ⟨B, 0, none⟩), .string t] w (.tuple #[snv ((valS l t).getD (0#32, 0#32)), .bool (valS l t).isSome]) := by
  unfold Gives snv
  have HI := Lib.hid h
  have hB := h.lt
  have hb0 := (Below.refl _ w).alloc (Nat.le_refl _) (.cells #[.int .u32 0, .int .u32 0] 24)
  have HI0 := Lib.hid (h.below hb0)
  have HB0 := Lib.hid hb0.drew
  clear h hb0
  by_cases h0 : t.size = 0
  · rw [valS_empty h0]
    have e0 : t.toList.isEmpty = true := by rw [Lib.toList_data, bytes_empty h0]; rfl
    clear h0
    go_enter Tryd.func17, Tryd.ntmps17
    go_wp2_with fail
    refine bodyPost_ret (v := .tuple #[.agg #[.int .u32 0, .int .u32 0], .bool false]) (by simp [results, Tryd.results17, go_sem]) rfl ⟨rfl, by go_grown⟩
  · have e0 : t.toList.isEmpty = false := by
      rw [Lib.toList_data, List.isEmpty_eq_false_iff]
      intro e
      refine h0 ?_
      have h2 : t.data.toList.length = 0 := by rw [e]; rfl
      rw [Array.length_toList] at h2
      exact h2
    have h1 : 1 ≤ t.size := by omega
    have hlen : 0 < t.data.toList.length := by rw [Array.length_toList]; exact h1
    obtain ⟨c, hc⟩ : ∃ c, t.data.toList[0] = c := ⟨_, rfl⟩
    have hb : ∀ h, t[0]'h = c := by intro h; exact hc
    have hc2 : t.data.toList.getD 0 0 = c := by rw [List.getD_eq_getElem?_getD, List.getElem?_eq_getElem hlen, hc]; rfl
    have c2 : (w.alloc (.cells #[.int .u32 0, .int .u32 0] 24)).drew.cell? ⟨B, 2, none⟩ = some (.map (some bf)) := HI0.out.cells.2.2.1
    obtain ⟨x, hx⟩ : ∃ x, t.extract 1 t.size = x := ⟨_, rfl⟩
    rcases hf : featO l x with _ | j
    · have hv : valS l t = none := valS_no (by rw [hx]; exact hf)
      rw [hv]
      have hlk : (Instr.lookup 45 (.map (some bf)) (.string x) true).run Tryd.prog (w.alloc (.cells #[.int .u32 0, .int .u32 0] 24)).drew = .ok (.tuple #[.int .i64 0, .bool false]) (w.alloc (.cells #[.int .u32 0, .int .u32 0] 24)).drew := by
        have := run_lookup_s (P := Tryd.prog) Tryd.underlying45 Tryd.underlying9 (z := .int .i64 0) (fun _ => by kernel_rfl) (w := (w.alloc (.cells #[.int .u32 0, .int .u32 0] 24)).drew) HI0.out.feats x
        rw [featO_none hf] at this
        exact this
      clear hf hc hc2 hlen hv
      go_enter Tryd.func17, Tryd.ntmps17
      go_wp2_with fail
      go_region
      go_wp2_with fail
      refine bodyPost_ret (v := .tuple #[.agg #[.int .u32 0, .int .u32 0], .bool false]) (by simp [results, Tryd.results17, go_sem]) rfl ⟨rfl, by go_grown⟩
    · obtain ⟨hj, p, hfp⟩ := featO_some hf
      have hv := valS_of (l := l) h0 (by rw [hx]; exact hf) hc2
      have hlk : (Instr.lookup 45 (.map (some bf)) (.string x) true).run Tryd.prog (w.alloc (.cells #[.int .u32 0, .int .u32 0] 24)).drew = .ok (.tuple #[.int .i64 (j : Int), .bool true]) (w.alloc (.cells #[.int .u32 0, .int .u32 0] 24)).drew := by
        have := run_lookup_s (P := Tryd.prog) Tryd.underlying45 Tryd.underlying9 (z := .int .i64 0) (fun _ => by kernel_rfl) (w := (w.alloc (.cells #[.int .u32 0, .int .u32 0] 24)).drew) HI0.out.feats x
        rw [hfp] at this
        exact this
      have hp := pow_bit j (by omega)
      have hj32 : j < 32 := by omega
      have hbj := (bit j).isLt
      clear hf hfp hc hc2 hlen
      by_cases h43 : c = 43
      · subst h43
        rw [hv, if_pos rfl]
        clear hv
        go_enter Tryd.func17, Tryd.ntmps17
        go_wp2_with fail
        go_region
        go_wp2_with fail
        refine bodyPost_ret (v := .tuple #[.agg #[.int .u32 (bit j).toNat, .int .u32 0], .bool true]) (by simp [results, Tryd.results17, go_sem, hp]) rfl ⟨rfl, by go_grown⟩
      · by_cases h45 : c = 45
        · subst h45
          rw [hv, if_neg (by decide), if_pos rfl]
          clear hv
          go_enter Tryd.func17, Tryd.ntmps17
          go_wp2_with fail
          go_region
          go_wp2_with fail
          refine bodyPost_ret (v := .tuple #[.agg #[.int .u32 0, .int .u32 (bit j).toNat], .bool true]) (by simp [results, Tryd.results17, go_sem, hp]) rfl ⟨rfl, by go_grown⟩
        · rw [hv, if_neg h43, if_neg h45]
          have n1 : ((c.toNat : Int) == 43) = false := by
            rw [Bool.eq_false_iff]; intro e
            have := beq_iff_eq.1 e
            exact h43 (UInt8.toNat_inj.1 (by have e2 : (43 : UInt8).toNat = 43 := rfl; omega))
          have n2 : ((c.toNat : Int) == 45) = false := by
            rw [Bool.eq_false_iff]; intro e
            have := beq_iff_eq.1 e
            exact h45 (UInt8.toNat_inj.1 (by have e2 : (45 : UInt8).toNat = 45 := rfl; omega))
          clear hv
          go_enter Tryd.func17, Tryd.ntmps17
          go_wp2_with fail
          go_region
          go_wp2_with fail
          refine bodyPost_ret (v := .tuple #[.agg #[.int .u32 0, .int .u32 0], .bool false]) (by simp [results, Tryd.results17, go_sem]) rfl ⟨rfl, by go_grown⟩
end Go.Proofs.YtmgikhldkebjbaaDoor

/-
  strings.Cut at one space.
-/
namespace Go.Proofs.YtmgikhldkebjbaaDoor
open Go.RowKit Go.Sort
def spc : ByteArray := ⟨#[32]⟩
/-- The place of the first space, -1 if there is none. -/
def spI (s : ByteArray) : Int := Lib.indexByte s.data.toList 32
set_option maxRecDepth 100000 in
set_option maxHeartbeats 1000000 in
theorem index_any (s : ByteArray) (w : World) : Gives 41 #[.string s, .string ⟨#[32]⟩] w (.int .i64 (spI s)) := by
  unfold Gives
  have hI : ∀ W, Calls Tryd.prog 47 #[.string s, .int .u8 32] W fun e w' => e = .returned (.int .i64 (Lib.indexByte s.data.toList 32)) ∧ w' = W := fun W => by
    go_enter Tryd.func47, Tryd.ntmps47
    go_wp2_with go_in
    rw [run_callFunc_extern Tryd.func51 (by kernel_rfl) (by kernel_rfl) (by kernel_rfl) (e := Extern.BytealgIndexByte.indexByte) (by kernel_rfl), Lib.run_indexByteString]
    simp only [Result.andThen]
    rw [Oper.upon_value]
    go_wp2
    go_returns
    exact ⟨rfl, rfl⟩
  have HI := Lib.hid hI
  clear hI
  by_cases h : s = ⟨#[32]⟩
  · subst h
    go_enter Tryd.func41, Tryd.ntmps41
    go_wp2_with fail
    go_returns
    exact ⟨by rw [show spI ⟨#[32]⟩ = 0 by decide]; rfl, Below.refl _ _⟩
  · have e : (([32] : List UInt8) == s.toList) = false := by
      rw [Bool.eq_false_iff, Lib.toList_data]
      intro e
      refine h ?_
      have e2 := beq_iff_eq.1 e
      cases s with
      | mk d =>
        congr
        exact Array.ext' e2.symm
    go_enter Tryd.func41, Tryd.ntmps41
    go_wp2_with (go_at_call 47; refine (HI.out _).mono ?_; rintro e w1 ⟨rfl, rfl⟩)
    go_returns
    exact ⟨rfl, Below.refl _ _⟩
/-- What stands ahead of the first space, what stands behind it, and whether there is one. -/
def cutA (s : ByteArray) : ByteArray := if 0 ≤ spI s then s.extract 0 (spI s).toNat else s
def cutB (s : ByteArray) : ByteArray := if 0 ≤ spI s then s.extract ((spI s).toNat + 1) s.size else ⟨#[]⟩
def cutC (s : ByteArray) : Bool := decide (0 ≤ spI s)
theorem ib_lt (c : UInt8) : ∀ l : List UInt8, Lib.indexByte l c < l.length
  | [] => by simp [Lib.indexByte]
  | b :: l => by
    have ih := ib_lt c l
    simp only [Lib.indexByte, List.length_cons]
    split
    · omega
    · split <;> omega
theorem spI_lt (s : ByteArray) : spI s < s.size := by
  have h := ib_lt 32 s.data.toList
  have e : s.data.toList.length = s.size := by rw [Array.length_toList]; rfl
  unfold spI
  omega
theorem spI_ge (s : ByteArray) : -1 ≤ spI s := Lib.indexByte_ge _ _
set_option maxRecDepth 100000 in
set_option maxHeartbeats 2000000 in
theorem scut_any (s : ByteArray) (hs : s.size ≤ 9223372036854775807) (w : World) : Gives 37 #[.string s, .string ⟨#[32]⟩] w (.tuple #[.string (cutA s), .string (cutB s), .bool (cutC s)]) := by
  unfold Gives
  have hi := index_any s w
  have h1 := spI_lt s
  have h2 := spI_ge s
  unfold cutA cutB cutC
  generalize spI s = x at *
  have HI := Lib.hid hi
  clear hi
  by_cases h0 : 0 ≤ x
  · obtain ⟨n, rfl⟩ := Int.eq_ofNat_of_zero_le h0
    have h3 : n < s.size := by omega
    have h4 : n ≤ s.size := by omega
    have h5 : n + 1 ≤ s.size := by omega
    rw [if_pos h0, if_pos h0, decide_eq_true h0, Int.toNat_natCast]
    clear h0 h1 h2
    go_enter Tryd.func37, Tryd.ntmps37
    go_wp2_with (go_at_call 41; refine Gives.then HI.out ?_; intro w1 hb)
    go_region
    go_wp2
    exact bodyPost_ret (v := .tuple #[.string (s.extract 0 n), .string (s.extract (n + 1) s.size), .bool true]) (by simp [results, Tryd.results37, go_sem]) rfl ⟨rfl, hb.drew⟩
  · rw [if_neg h0, if_neg h0, decide_eq_false h0]
    have e : decide (0 ≤ x) = false := decide_eq_false h0
    go_enter Tryd.func37, Tryd.ntmps37
    go_wp2_with (go_at_call 41; refine Gives.then HI.out ?_; intro w1 hb)
    exact bodyPost_ret (v := .tuple #[.string s, .string ⟨#[]⟩, .bool false]) (by simp [results, Tryd.results37, go_sem]) rfl ⟨rfl, hb⟩
theorem cut_any (s : ByteArray) (hs : s.size ≤ 9223372036854775807) (w : World) : Gives 28 #[.string s, .string ⟨#[32]⟩] w (.tuple #[.string (cutA s), .string (cutB s), .bool (cutC s)]) := by
  unfold Gives
  have hi := scut_any s hs w
  generalize cutA s = a at *
  generalize cutB s = b at *
  generalize cutC s = c at *
  have HI := Lib.hid hi
  clear hi
  go_enter Tryd.func28, Tryd.ntmps28
  go_wp2_with (go_at_call 37; refine Gives.then HI.out ?_; intro w1 hb)
  exact bodyPost_ret (v := .tuple #[.string a, .string b, .bool c]) (by simp [results, Tryd.results28, go_sem]) rfl ⟨rfl, hb⟩
end Go.Proofs.YtmgikhldkebjbaaDoor

/-
  The items of a bundle: the iterator.
-/
namespace Go.Proofs.YtmgikhldkebjbaaDoor
open Go.RowKit Go.Shelf Go.Sort
attribute [local go_sem] Oper.semAt_some
def itemsF : Nat → ByteArray → Bool → List ByteArray
  | 0, _, _ => []
  | _ + 1, _, false => []
  | n + 1, r, true => cutA r :: itemsF n (cutB r) (cutC r)
/-- What is still to come of a text's items. -/
def todo (r : ByteArray) (m : Bool) : List ByteArray := itemsF (r.size + 1) r m
theorem itemsF_false : ∀ n r, itemsF n r false = []
  | 0, _ => rfl
  | _ + 1, _ => rfl
theorem cutB_lt {r : ByteArray} (h : cutC r = true) : (cutB r).size < r.size := by
  have h1 := spI_lt r
  have h0 : 0 ≤ spI r := of_decide_eq_true h
  unfold cutB
  rw [if_pos h0, ByteArray.size_extract]
  omega
theorem cutB_le (r : ByteArray) : (cutB r).size ≤ r.size := by
  by_cases h : cutC r = true
  · exact Nat.le_of_lt (cutB_lt h)
  · have h0 : ¬ 0 ≤ spI r := fun e => h (decide_eq_true e)
    unfold cutB
    rw [if_neg h0]
    exact Nat.zero_le _
theorem itemsF_fuel : ∀ (n k : Nat) (r : ByteArray) (m : Bool), r.size < n → r.size < k → itemsF n r m = itemsF k r m
  | 0, _, _, _, h, _ => absurd h (Nat.not_lt_zero _)
  | _, 0, _, _, _, h => absurd h (Nat.not_lt_zero _)
  | n + 1, k + 1, r, false, _, _ => rfl
  | n + 1, k + 1, r, true, h1, h2 => by
    have e : itemsF n (cutB r) (cutC r) = itemsF k (cutB r) (cutC r) := by
      cases hc : cutC r
      · rw [itemsF_false, itemsF_false]
      · have := cutB_lt hc
        exact itemsF_fuel n k _ _ (by omega) (by omega)
    simp only [itemsF, e]
theorem todo_false (r : ByteArray) : todo r false = [] := rfl
theorem todo_true (r : ByteArray) : todo r true = cutA r :: todo (cutB r) (cutC r) := by
  have e : itemsF r.size (cutB r) (cutC r) = itemsF ((cutB r).size + 1) (cutB r) (cutC r) := by
    cases hc : cutC r
    · rw [itemsF_false, itemsF_false]
    · exact itemsF_fuel _ _ _ _ (cutB_lt hc) (Nat.lt_succ_self _)
  unfold todo
  rw [← e]
  rfl
/-- The items of a text. -/
def itemsS (s : ByteArray) : List ByteArray := todo s (!s.toList.isEmpty)
def mI (p q : Value) : Nat := match q, p with
  | .bool true, .string s => s.size + 1
  | _, _ => 0
theorem grown_of_below {A B : World} (h : Below A.heap.size A B) : A.grownBy B none := ⟨h.os, h.tape, h.output, h.size, fun k hk _ => h.block k hk⟩
theorem grown_drew (w : World) (q : Nat) : w.grownBy (w.drewN q) none := ⟨rfl, rfl, rfl, Nat.le_refl _, fun _ _ _ => rfl⟩
theorem cutA_le (r : ByteArray) : (cutA r).size ≤ r.size := by
  have h1 := spI_lt r
  unfold cutA
  split
  · rw [ByteArray.size_extract]; omega
  · exact Nat.le_refl _
/-- A text that is not too long for the model. -/
abbrev Tx := { x : ByteArray // x.size ≤ 9223372036854775807 }
abbrev encT (x : Tx) : Array Value := #[.string x.1]
def raw (l : List Tx) : List ByteArray := l.map (·.1)
theorem raw_snoc (l : List Tx) (x : Tx) : raw (l ++ [x]) = raw l ++ [x.1] := by simp [raw]
theorem raw_length (l : List Tx) : (raw l).length = l.length := by simp [raw]
set_option maxRecDepth 100000 in
set_option maxHeartbeats 4000000 in
/-- The iterator: each item of the text, in order. -/
theorem items_in (n : Nat) (hn : 1 ≤ n) (lid Bn n₀ : Nat) (s : ByteArray) (hs : s.size ≤ 9223372036854775807) (J Jx : List Tx → World → Prop)
    (W : World) (hab : AbidesFrom W.heap.size J)
    (hY : ∀ pre x W, J pre W → pre.length < (itemsS s).length → YieldAt Fence.wide (n - 1) Tryd.prog lid (encT x) W fun e W' =>
      (e = .returned (.bool true) ∧ J (pre ++ [x]) W' ∧ Below n₀ W W') ∨ (e = .returned (.bool false) ∧ Jx (pre ++ [x]) W'))
    (hBn : W.cell? ⟨Bn, 0, none⟩ = some (.string s)) (h0 : J [] W) :
    CallsIn Fence.wide n Tryd.prog 27 #[.func (.yield lid) #[] #[], .pointer (some ⟨Bn, 0, none⟩)] W fun e W' => (∃ v, e = .returned v) ∧
      ((∃ ys, raw ys = itemsS s ∧ J ys W') ∨ (∃ pre, raw pre <+: itemsS s ∧ Jx pre W')) := by
  have HAB := Lib.hid hab
  clear hab
  have hX : itemsS s = [] ++ todo s (!s.toList.isEmpty) := rfl
  generalize hI : itemsS s = I at *
  clear hI
  have HX := Lib.hid hX
  clear hX
  refine callsIn_of_wp Tryd.func27 rfl trivial ?_ rfl
  simp only [Tryd.ntmps27, List.size_toArray, List.length_cons, List.length_nil, Nat.reduceAdd, Nat.reduceSub, Array.replicate_succ, Array.replicate_zero, List.push_toArray, List.append_toArray, List.nil_append, List.cons_append]
  gi_wp2_with fail
  gi_quiet (fail)
  have hJ2 := HAB.out [] W (W.drewN nq) none h0 (grown_drew _ _) (by rintro r e; cases e)
  have hsz : W.heap.size ≤ (W.drewN nq).heap.size := Nat.le_refl _
  generalize (!s.toList.isEmpty) = m0 at *
  have hs0 := hs
  gi_wp2_with fail
  gi_loopw [3, 4] (fun p q wr => ∃ (pre : List Tx) (r : ByteArray) (m : Bool), p = .string r ∧ q = .bool m ∧ r.size ≤ 9223372036854775807 ∧ I = raw pre ++ todo r m ∧ J pre wr ∧ W.heap.size ≤ wr.heap.size) (fun p q wr => mI p q)
  case atStart => exact ⟨[], s, m0, rfl, rfl, hs0, HX.out, hJ2, hsz⟩
  case round =>
    clear HX hJ2 h0 hBn
    obtain ⟨pre, r, m, rfl, rfl, hr, hx, hJ, hw⟩ := hrel
    cases m
    · rw [todo_false, List.append_nil] at hx
      gi_wp2
      go_end0
      exact ⟨⟨_, rfl⟩, .inl ⟨_, hx.symm, hJ⟩⟩
    · rw [todo_true] at hx
      have hme := fun h => cutB_lt (r := r) h
      have hle := cutB_le r
      have hla := cutA_le r
      obtain ⟨a, ha⟩ : ∃ a, cutA r = a := ⟨_, rfl⟩
      obtain ⟨b, hb⟩ : ∃ b, cutB r = b := ⟨_, rfl⟩
      obtain ⟨c, hc⟩ : ∃ c, cutC r = c := ⟨_, rfl⟩
      have hcut := cut_any r hr wr
      rw [ha, hb, hc] at hcut hx
      rw [hb, hc] at hme
      rw [hb] at hle
      rw [ha] at hla
      have hsa : a.size ≤ 9223372036854775807 := Nat.le_trans hla hr
      have hpl : pre.length < I.length := by rw [hx, List.length_append, List.length_cons, raw_length]; omega
      have hx2 : I = raw (pre ++ [(⟨a, hsa⟩ : Tx)]) ++ todo b c := by rw [hx, raw_snoc, List.append_assoc]; rfl
      have HX := Lib.hid hx2; have HME := Lib.hid hme; have HJ := Lib.hid hJ; have HCUT := Lib.hid hcut
      clear hx hx2 hme ha hb hc hJ hcut hla
      gi_wp2_with (refine ⟨trivial, ?_⟩; gi_at_call 28; refine (callsIn_wide.2 HCUT.out).mono ?_; rintro e w1 ⟨rfl, hb1⟩; have hJ3 := HAB.out pre wr w1 none HJ.out (grown_of_below hb1) (by rintro r e; cases e); have hw3 : W.heap.size ≤ w1.heap.size := Nat.le_trans hw hb1.size; obtain ⟨fn, tmps, assign, body, hy, hR⟩ := hY pre (⟨a, hsa⟩ : Tx) w1 hJ3 hpl; dsimp only [encT] at hy; have HRR := Lib.hid hR; clear hR hJ3 HJ)
      refine HRR.out.mono ?_
      rintro e W3 (⟨rfl, hJ4, hk4⟩ | ⟨rfl, hJx4⟩)
      · gi_wp2
        go_roundw
        case rel => exact ⟨pre ++ [(⟨a, hsa⟩ : Tx)], b, c, rfl, rfl, by omega, HX.out, hJ4, Nat.le_trans hw3 hk4.size⟩
        case measure =>
          have e := HME.out
          cases c <;> simp [mI] <;> simp at e <;> omega
      · gi_wp2
        refine bodyPost_ret (results_none rfl _ _ _) rfl ?_
        exact ⟨⟨_, rfl⟩, .inr ⟨_, ⟨todo b c, HX.out.symm⟩, hJx4⟩⟩
end Go.Proofs.YtmgikhldkebjbaaDoor

/-
  Bundle: reading values of features.
-/
namespace Go.Proofs.YtmgikhldkebjbaaDoor
open Go.RowKit Go.Shelf Go.Sort
attribute [local go_sem] Oper.semAt_some
attribute [local go_sem] bv_and bv_or ofInt32_nat
/-- One item more. -/
def stepB (l : List ByteArray) (s : Snd) (x : ByteArray) : Option Snd := match valS l x with
  | none => none
  | some o => if valN s &&& valN o = 0 then some (s.1 ||| o.1, s.2 ||| o.2) else none
def bunL (l : List ByteArray) : Snd → List ByteArray → Option Snd
  | s, [] => some s
  | s, x :: xs => match stepB l s x with
    | none => none
    | some r => bunL l r xs
/-- The sound that a bundle's text gives. -/
def bunS (l : List ByteArray) (t : ByteArray) : Option Snd := bunL l (0#32, 0#32) (itemsS t)
theorem bunL_snoc {l : List ByteArray} {x : ByteArray} : ∀ (pre : List ByteArray) (s r : Snd), bunL l s pre = some r → bunL l s (pre ++ [x]) = stepB l r x
  | [], s, r, h => by
    have h : some s = some r := h
    cases h
    show (match stepB l s x with | none => none | some r => some r) = _
    cases stepB l s x <;> rfl
  | y :: ys, s, r, h => by
    simp only [List.cons_append, bunL] at h ⊢
    cases hy : stepB l s y with
    | none => rw [hy] at h; cases h
    | some q => rw [hy] at h; exact bunL_snoc ys q r h
theorem bunL_stop {l : List ByteArray} : ∀ (pre post : List ByteArray) (s : Snd), bunL l s pre = none → bunL l s (pre ++ post) = none
  | [], _, _, h => by cases h
  | y :: ys, post, s, h => by
    simp only [List.cons_append, bunL] at h ⊢
    cases hy : stepB l s y with
    | none => rfl
    | some q => rw [hy] at h; exact bunL_stop ys post q h
/-- What Bundle returns. -/
def bunV : Option Snd → Value
  | some r => .tuple #[snv r, .int .i64 0]
  | none => .tuple #[snv (0#32, 0#32), .int .i64 10]
theorem wpIn_gen {F : Fence} {k : Nat} {P : Program} {c : Code} {Q : Exit → Act → World → Prop} {a : Act} {W : World} (h : ∀ W1, W1 = W → c.wpIn F k P Q a W1) : c.wpIn F k P Q a W := h W rfl
theorem ko_of_below {W W' : World} (h : Below W.heap.size W W') : KeepsOthers W W' := ⟨h.size, fun k o hk _ => (h.block k (Array.getElem?_eq_some_iff.1 hk).1).trans hk⟩
set_option maxHeartbeats 400000 in
theorem itemsSeq_any (t : ByteArray) (w : World) :
    Calls Tryd.prog 16 #[.string t] w fun e w' => e = .returned (.func (.func 27) #[] #[.pointer (some ⟨w.heap.size, 0, none⟩)]) ∧ w.alloc (.cells #[.string t] 9) = w' := by
  go_enter Tryd.func16, Tryd.ntmps16
  go_wp2
  go_returns
  exact ⟨rfl, rfl⟩
theorem valuedX (s : Snd) (w : World) : Calls Tryd.prog 18 #[snv s] w fun e w' => e = .returned (.int .u32 (valN s : Nat)) ∧ w.alloc (.cells #[.int .u32 (s.1.toNat : Int), .int .u32 (s.2.toNat : Int)] 24) = w' := by
  unfold snv valN
  obtain ⟨p, m⟩ := s
  go_enter Tryd.func18, Tryd.ntmps18
  go_wp2
  go_returns
  exact ⟨by simp, rfl⟩
/-- The cells that Bundle's call has made and not yet written. -/
def Fix (n B : Nat) (W : World) : Prop := W.cell? ⟨n, 0, none⟩ = some (.pointer (some ⟨B, 0, none⟩)) ∧ (W.cell? ⟨n + 1, 0, none⟩ = some (.int .u32 0) ∧ W.cell? ⟨n + 1, 1, none⟩ = some (.int .u32 0) ∧ W.frozen? ⟨n + 1, 0, none⟩ = false ∧ W.frozen? ⟨n + 1, 1, none⟩ = false) ∧ W.cell? ⟨n + 2, 0, none⟩ = some (.int .i64 0) ∧ W.frozen? ⟨n + 2, 0, none⟩ = false
def Acc (l : List ByteArray) (b6 : Nat) (pre : List Tx) (W : World) : Prop := ∃ r : Snd, bunL l (0#32, 0#32) (raw pre) = some r ∧ W.cell? ⟨b6, 0, none⟩ = some (.int .u32 (r.1.toNat : Int)) ∧ W.cell? ⟨b6, 1, none⟩ = some (.int .u32 (r.2.toNat : Int)) ∧ W.frozen? ⟨b6, 0, none⟩ = false ∧ W.frozen? ⟨b6, 1, none⟩ = false
def Bad (l : List ByteArray) (n : Nat) (c : Code) (pre : List Tx) (W : World) : Prop := c = .ret ∧ bunL l (0#32, 0#32) (raw pre) = none ∧ W.cell? ⟨n + 1, 0, none⟩ = some (.int .u32 0) ∧ W.cell? ⟨n + 1, 1, none⟩ = some (.int .u32 0) ∧ W.cell? ⟨n + 2, 0, none⟩ = some (.int .i64 10)
theorem Fix.own (n B : Nat) : Own (fun (_ : List Tx) W => Fix n B W) := by
  rintro s W W' row ⟨h1, ⟨h2, h3, h4, h5⟩, h6, h7⟩ hg hr
  exact ⟨cell_kept h1 hg hr, ⟨cell_kept h2 hg hr, cell_kept h3 hg hr, (frozen_kept h2 hg hr).trans h4, (frozen_kept h3 hg hr).trans h5⟩, cell_kept h6 hg hr, (frozen_kept h6 hg hr).trans h7⟩
theorem Acc.own (l : List ByteArray) (b6 : Nat) : Own (Acc l b6) := by
  rintro s W W' row ⟨r, h0, h2, h3, h4, h5⟩ hg hr
  exact ⟨r, h0, cell_kept h2 hg hr, cell_kept h3 hg hr, (frozen_kept h2 hg hr).trans h4, (frozen_kept h3 hg hr).trans h5⟩
theorem Bad.own (l : List ByteArray) (n : Nat) (c : Code) : Own (Bad l n c) := by
  rintro s W W' row ⟨h0, h1, h2, h3, h4⟩ hg hr
  exact ⟨h0, h1, cell_kept h2 hg hr, cell_kept h3 hg hr, cell_kept h4 hg hr⟩
theorem valuedA (p m : BitVec 32) (w : World) : Gives 18 #[.agg #[.int .u32 (p.toNat : Int), .int .u32 (m.toNat : Int)]] w (.int .u32 ((p ||| m).toNat : Int)) := by
  have h := valued_any (p, m) w
  have e : valN (p, m) = (p ||| m).toNat := by simp [valN]
  rw [e] at h
  exact h
theorem ko_drew {A B : World} (h : KeepsOthers A B) : KeepsOthers A B.drew := ⟨h.1, h.2⟩
theorem chain6 {W6 X w7 : World} (hX : Below W6.heap.size W6 X) (hbv : Below X.heap.size X w7) : Below W6.heap.size W6 w7 := hX.trans (hbv.mono hX.size)
set_option maxHeartbeats 4000000 in
set_option maxRecDepth 100000 in
theorem bundle_any {w : World} {base B : Nat} {l : List ByteArray} {a : List (ByteArray × Snd)} {nv av : Value} {bf bs by_ : Nat} (h : Inv w base B l a nv av bf bs by_) (hl : l.length ≤ 24) (t : ByteArray) (ht : t.size ≤ 9223372036854775807) : Gives 7 #[.pointer (some ⟨B, 0, none⟩), .string t] w (bunV (bunS l t)) := by
  unfold Gives
  have hB := h.lt
  have hv := fun (W : World) (hb : Below w.heap.size w W) => valid_yes B W (h.below hb).cells.1
  have HI := Lib.hid h; have HV := Lib.hid hv
  clear h hv
  refine (callsIn_wide (n := 5)).1 ?_
  refine callsIn_of_wp_marks Tryd.func7 rfl trivial ?_ rfl
  simp only [Tryd.ntmps7, List.size_toArray, List.length_cons, List.length_nil, Nat.reduceAdd, Nat.reduceSub, Array.replicate_succ, Array.replicate_zero, List.push_toArray, List.append_toArray, List.nil_append, List.cons_append]
  gi_wp2_with (first | (refine ⟨trivial, ?_⟩; gi_at_call 14; refine (callsIn_wide.2 (HV.out _ (by go_grown))).mono ?_; rintro e wa ⟨rfl, hwa⟩) | (refine ⟨trivial, ?_⟩; gi_at_call 16; refine (callsIn_wide.2 (itemsSeq_any _ _)).mono ?_; rintro e w2 ⟨rfl, rfl⟩))
  refine wpIn_gen ?_
  intro W1 hW1
  have hb0 : Below w.heap.size w wa := by
    have hq : Below w.heap.size w (((w.alloc (.cells #[.pointer (some ⟨B, 0, none⟩)] 25)).alloc (.cells #[.int .u32 0, .int .u32 0] 24)).alloc (.cells #[.int .i64 0] 30)) := by go_grown
    exact hq.trans (hwa.mono hq.size)
  have hza : w.heap.size + 3 ≤ wa.heap.size := by have := hwa.size; simp only [World.size_alloc] at this; omega
  have hB1 : Below w.heap.size w W1 := by
    rw [hW1]; exact hb0.trans (((Below.refl _ wa).alloc (by have := hb0.size; omega) _).alloc (by rw [World.size_alloc]; have := hb0.size; omega) _)
  have hz1 : W1.heap.size = wa.heap.size + 2 := by rw [hW1, World.size_alloc, World.size_alloc]
  obtain ⟨hc, hf, -⟩ := bcell hwa
  have hF1 : Fix w.heap.size B W1 := by
    rw [hW1]
    have k := (alloc_lt (X := wa.heap.size) (w1 := wa) (Nat.le_refl _)).2
    have kf : ∀ O O' b o, b < wa.heap.size → ((wa.alloc O).alloc O').frozen? ⟨b, o, none⟩ = wa.frozen? ⟨b, o, none⟩ := fun O O' b o hb => (((Below.refl wa.heap.size wa).alloc (Nat.le_refl _) O).alloc (by rw [World.size_alloc]; omega) O').frozen (p := ⟨b, o, none⟩) hb
    refine ⟨?_, ⟨?_, ?_, ?_, ?_⟩, ?_, ?_⟩
    · rw [k _ _ _ _ (by omega), hc _ _ (by simp only [World.size_alloc]; omega)]; go_cell
    · rw [k _ _ _ _ (by omega), hc _ _ (by simp only [World.size_alloc]; omega)]; go_cell
    · rw [k _ _ _ _ (by omega), hc _ _ (by simp only [World.size_alloc]; omega)]; go_cell
    · rw [kf _ _ _ _ (by omega), hf _ _ (by simp only [World.size_alloc]; omega)]; go_simp
    · rw [kf _ _ _ _ (by omega), hf _ _ (by simp only [World.size_alloc]; omega)]; go_simp
    · rw [k _ _ _ _ (by omega), hc _ _ (by simp only [World.size_alloc]; omega)]; go_cell
    · rw [kf _ _ _ _ (by omega), hf _ _ (by simp only [World.size_alloc]; omega)]; go_simp
  have hA1 : Acc l wa.heap.size [] W1 := by
    rw [hW1]
    exact ⟨(0#32, 0#32), rfl, by go_cell, by go_cell, by go_simp, by go_simp⟩
  have hT1 : W1.cell? ⟨wa.heap.size + 1, 0, none⟩ = some (.string t) := by rw [hW1]; go_cell
  have HIB := Lib.hid (fun (W : World) (hb : Below w.heap.size w W) => HI.out.below hb)
  clear hc hf hW1 hwa HI HV
  generalize hn6 : wa.heap.size = b6 at *
  refine wpIn_rangeFunc_ownF (α := Tx) rfl (by decide) (gf := 27) (lb := #[.pointer (some ⟨b6 + 1, 0, none⟩)]) rfl trivial (enters_of Tryd.func27 (by kernel_rfl) rfl)
    (encs := encT) (S := fun ys => raw ys = itemsS t) (Sp := fun pre => raw pre <+: itemsS t) (N := (itemsS t).length) (w0 := W1) (Kp := Below w.heap.size)
    (fun lid J Jx W hW hab _ hY h0 => items_in _ (by decide) lid (b6 + 1) w.heap.size t ht J Jx W hab hY ((hW.cell (p := ⟨b6 + 1, 0, none⟩) (by simp only []; omega)).trans hT1) h0)
    belowK_t (belowK_b (by have := hB1.size; omega)) (Below.refl _ _) (fun _ => rfl)
    (fun pre W => (Acc l b6 pre W ∧ Fix w.heap.size B W) ∧ Below w.heap.size w W)
    (fun c pre W => Bad l w.heap.size c pre W ∧ Below w.heap.size w W)
    (OwnFrom.and (OwnFrom.and ((Acc.own l b6).from _) ((Fix.own w.heap.size B).from _)) (ownFrom_below (Nat.le_refl _) (by have := hB1.size; omega)))
    (fun c => OwnFrom.and ((Bad.own l w.heap.size c).from _) (ownFrom_below (Nat.le_refl _) (by have := hB1.size; omega)))
    ⟨⟨hA1, hF1⟩, hB1⟩
    ?a1 ?assign ?body ?done ?stop
  case assign =>
    intro lid x W K hK
    gi_wp2
    exact hK
  case body =>
    rintro lid pre x W ⟨⟨⟨r, hr, a0, a1, a2, a3⟩, f0, ⟨f1, f2, f3, f4⟩, f5, f6⟩, hB⟩ hlen
    have hval := value_any (HIB.out W hB) hl x.1 x.2
    have hrs := raw_snoc pre x
    have hsn := bunL_snoc (x := x.1) (raw pre) _ r hr
    rw [← hrs] at hsn
    have HB := Lib.hid hB
    have sz6 : b6 < W.heap.size := World.block_lt_of_cell? _ _ a0
    clear hr hrs hlen hF1 hA1 hT1
    obtain ⟨x, hx⟩ := x
    simp only at hval hsn
    rcases hvx : valS l x with _ | o
    · have hst : stepB l r x = none := by unfold stepB; rw [hvx]
      rw [hst] at hsn
      have hval2 : Gives 17 #[.pointer (some ⟨B, 0, none⟩), .string x] W (.tuple #[.agg #[.int .u32 0, .int .u32 0], .bool false]) := by rw [hvx] at hval; exact hval
      have HVAL := Lib.hid hval2; have HSN := Lib.hid hsn
      clear hval hval2 hsn hst hvx hB
      gi_wp2_with (refine ⟨trivial, ?_⟩; gi_at_call 17; refine (CallsIn.inRound lid (callsIn_wide.2 HVAL.out)).mono ?_; rintro e w5 ⟨rfl, hb5⟩; obtain ⟨kc, kf, kz⟩ := bcell hb5)
      refine wpIn_gen ?_
      intro W6 hW6
      have lb : w.heap.size + 2 < W.heap.size := World.block_lt_of_cell? _ _ f5
      have hb6 : Below W.heap.size W W6 := by rw [hW6]; exact hb5.alloc kz _
      have g0 : W6.cell? ⟨w.heap.size, 0, none⟩ = some (.pointer (some ⟨B, 0, none⟩)) := (hb6.cell (p := ⟨w.heap.size, 0, none⟩) (by simp only []; omega)).trans f0
      have g1 : W6.cell? ⟨w.heap.size + 1, 0, none⟩ = some (.int .u32 0) := (hb6.cell (p := ⟨w.heap.size + 1, 0, none⟩) (by simp only []; omega)).trans f1
      have g2 : W6.cell? ⟨w.heap.size + 1, 1, none⟩ = some (.int .u32 0) := (hb6.cell (p := ⟨w.heap.size + 1, 1, none⟩) (by simp only []; omega)).trans f2
      have g3 : W6.frozen? ⟨w.heap.size + 1, 0, none⟩ = false := (hb6.frozen (p := ⟨w.heap.size + 1, 0, none⟩) (by simp only []; omega)).trans f3
      have g4 : W6.frozen? ⟨w.heap.size + 1, 1, none⟩ = false := (hb6.frozen (p := ⟨w.heap.size + 1, 1, none⟩) (by simp only []; omega)).trans f4
      have g5 : W6.cell? ⟨w.heap.size + 1 + 1, 0, none⟩ = some (.int .i64 0) := (hb6.cell (p := ⟨w.heap.size + 2, 0, none⟩) (by simp only []; omega)).trans f5
      have g6 : W6.frozen? ⟨w.heap.size + 1 + 1, 0, none⟩ = false := (hb6.frozen (p := ⟨w.heap.size + 2, 0, none⟩) (by simp only []; omega)).trans f6
      have e0 : W6.cell? ⟨b6, 0, none⟩ = some (.int .u32 (r.1.toNat : Int)) := (hb6.cell (p := ⟨b6, 0, none⟩) sz6).trans a0
      have e1 : W6.cell? ⟨b6, 1, none⟩ = some (.int .u32 (r.2.toNat : Int)) := (hb6.cell (p := ⟨b6, 1, none⟩) sz6).trans a1
      have e2 : W6.frozen? ⟨b6, 0, none⟩ = false := (hb6.frozen (p := ⟨b6, 0, none⟩) sz6).trans a2
      have e3 : W6.frozen? ⟨b6, 1, none⟩ = false := (hb6.frozen (p := ⟨b6, 1, none⟩) sz6).trans a3
      have HB6 := Lib.hid hb6
      clear hb6 hW6 kc kf hb5
      have hmx : Tryd.prog.follows .mixedOrders = true := by kernel_rfl
      gi_region_with_o (refine ⟨trivial, ?_⟩)
      all_goals (gi_wp2_with fail)
      all_goals (
        have ko := (ko_of_below HB6.out).trans (((KeepsOthers.setCell W6 ⟨w.heap.size + 1, 0, none⟩ (.int .u32 0)).trans (KeepsOthers.setCell _ ⟨w.heap.size + 1, 1, none⟩ (.int .u32 0))).trans (KeepsOthers.setCell _ ⟨w.heap.size + 1 + 1, 0, none⟩ (.int .i64 10)))
        have hb4 := ((((HB.out.trans (HB6.out.mono (by omega))).setCell (p := ⟨w.heap.size + 1, 0, none⟩) (by simp only []; omega) (.int .u32 0)).setCell (p := ⟨w.heap.size + 1, 1, none⟩) (by simp only []; omega) (.int .u32 0)).setCell (p := ⟨w.heap.size + 1 + 1, 0, none⟩) (by simp only []; omega) (.int .i64 10)).drew
        exact ⟨ko_drew ko, ⟨rfl, HSN.out, by go_cell, by go_cell, by go_cell⟩, hb4⟩)
    · have hst : stepB l r x = if valN r &&& valN o = 0 then some (r.1 ||| o.1, r.2 ||| o.2) else none := by unfold stepB; rw [hvx]
      rw [hst] at hsn
      have hval2 : Gives 17 #[.pointer (some ⟨B, 0, none⟩), .string x] W (.tuple #[.agg #[.int .u32 (o.1.toNat : Int), .int .u32 (o.2.toNat : Int)], .bool true]) := by rw [hvx] at hval; exact hval
      have HVAL := Lib.hid hval2; have HSN := Lib.hid hsn
      clear hval hval2 hsn hst hvx hB
      gi_wp2_with (refine ⟨trivial, ?_⟩; gi_at_call 17; refine (CallsIn.inRound lid (callsIn_wide.2 HVAL.out)).mono ?_; rintro e w5 ⟨rfl, hb5⟩; obtain ⟨kc, kf, kz⟩ := bcell hb5)
      have n0 : (w5.alloc (.cells #[.int .u32 (o.1.toNat : Int), .int .u32 (o.2.toNat : Int)] 24)).cell? ⟨w5.heap.size, 0, none⟩ = some (.int .u32 (o.1.toNat : Int)) := by go_cell
      have n1 : (w5.alloc (.cells #[.int .u32 (o.1.toNat : Int), .int .u32 (o.2.toNat : Int)] 24)).cell? ⟨w5.heap.size, 1, none⟩ = some (.int .u32 (o.2.toNat : Int)) := by go_cell
      refine wpIn_gen ?_
      intro W6 hW6
      have lb : w.heap.size + 2 < W.heap.size := World.block_lt_of_cell? _ _ f5
      have hb6 : Below W.heap.size W W6 := by rw [hW6]; exact hb5.alloc kz _
      have g0 : W6.cell? ⟨w.heap.size, 0, none⟩ = some (.pointer (some ⟨B, 0, none⟩)) := (hb6.cell (p := ⟨w.heap.size, 0, none⟩) (by simp only []; omega)).trans f0
      have g1 : W6.cell? ⟨w.heap.size + 1, 0, none⟩ = some (.int .u32 0) := (hb6.cell (p := ⟨w.heap.size + 1, 0, none⟩) (by simp only []; omega)).trans f1
      have g2 : W6.cell? ⟨w.heap.size + 1, 1, none⟩ = some (.int .u32 0) := (hb6.cell (p := ⟨w.heap.size + 1, 1, none⟩) (by simp only []; omega)).trans f2
      have g3 : W6.frozen? ⟨w.heap.size + 1, 0, none⟩ = false := (hb6.frozen (p := ⟨w.heap.size + 1, 0, none⟩) (by simp only []; omega)).trans f3
      have g4 : W6.frozen? ⟨w.heap.size + 1, 1, none⟩ = false := (hb6.frozen (p := ⟨w.heap.size + 1, 1, none⟩) (by simp only []; omega)).trans f4
      have g5 : W6.cell? ⟨w.heap.size + 1 + 1, 0, none⟩ = some (.int .i64 0) := (hb6.cell (p := ⟨w.heap.size + 2, 0, none⟩) (by simp only []; omega)).trans f5
      have g6 : W6.frozen? ⟨w.heap.size + 1 + 1, 0, none⟩ = false := (hb6.frozen (p := ⟨w.heap.size + 2, 0, none⟩) (by simp only []; omega)).trans f6
      have e0 : W6.cell? ⟨b6, 0, none⟩ = some (.int .u32 (r.1.toNat : Int)) := (hb6.cell (p := ⟨b6, 0, none⟩) sz6).trans a0
      have e1 : W6.cell? ⟨b6, 1, none⟩ = some (.int .u32 (r.2.toNat : Int)) := (hb6.cell (p := ⟨b6, 1, none⟩) sz6).trans a1
      have e2 : W6.frozen? ⟨b6, 0, none⟩ = false := (hb6.frozen (p := ⟨b6, 0, none⟩) sz6).trans a2
      have e3 : W6.frozen? ⟨b6, 1, none⟩ = false := (hb6.frozen (p := ⟨b6, 1, none⟩) sz6).trans a3
      rw [← hW6] at n0 n1
      have hz6 : w5.heap.size < W6.heap.size := by rw [hW6, World.size_alloc]; omega
      have HB6 := Lib.hid hb6
      clear hb6 hW6 kc kf hb5
      generalize w5.heap.size = b8 at *
      have hs6 := HB6.out.size
      have hmx : Tryd.prog.follows .mixedOrders = true := by kernel_rfl
      by_cases hz : valN r &&& valN o = 0
      · have hne : (((((r.1.toNat ||| r.2.toNat) &&& (o.1.toNat ||| o.2.toNat)) : Nat) : Int) != 0) = false := by
          have e : (r.1.toNat ||| r.2.toNat) &&& (o.1.toNat ||| o.2.toNat) = 0 := hz
          rw [e]; rfl
        rw [if_pos hz] at HSN
        clear hz
        gi_region_with_o (first | (refine ⟨trivial, ?_⟩; gi_at_call 18; refine (CallsIn.inRound lid (callsIn_wide.2 (valuedA r.1 r.2 _))).mono ?_; rintro e w7 ⟨rfl, hbv⟩; have hn : Below W6.heap.size W6 w7 := chain6 (by first | assumption | exact (Below.refl _ W6).drew) hbv; have tg1 := (hn.cell (p := ⟨w.heap.size + 1, 0, none⟩) (by simp only []; omega)).trans g1; have tg2 := (hn.cell (p := ⟨w.heap.size + 1, 1, none⟩) (by simp only []; omega)).trans g2; have tg3 := (hn.frozen (p := ⟨w.heap.size + 1, 0, none⟩) (by simp only []; omega)).trans g3; have tg4 := (hn.frozen (p := ⟨w.heap.size + 1, 1, none⟩) (by simp only []; omega)).trans g4; have tg5 := (hn.cell (p := ⟨w.heap.size + 1 + 1, 0, none⟩) (by simp only []; omega)).trans g5; have tg6 := (hn.frozen (p := ⟨w.heap.size + 1 + 1, 0, none⟩) (by simp only []; omega)).trans g6; have te0 := (hn.cell (p := ⟨b6, 0, none⟩) (by simp only []; omega)).trans e0; have te1 := (hn.cell (p := ⟨b6, 1, none⟩) (by simp only []; omega)).trans e1; have te2 := (hn.frozen (p := ⟨b6, 0, none⟩) (by simp only []; omega)).trans e2; have te3 := (hn.frozen (p := ⟨b6, 1, none⟩) (by simp only []; omega)).trans e3; have tn0 := (hn.cell (p := ⟨b8, 0, none⟩) (by simp only []; omega)).trans n0; have tn1 := (hn.cell (p := ⟨b8, 1, none⟩) (by simp only []; omega)).trans n1; have tg0 := (hn.cell (p := ⟨w.heap.size, 0, none⟩) (by simp only []; omega)).trans g0; clear hbv) | (refine ⟨trivial, ?_⟩; gi_at_call 18; refine (CallsIn.inRound lid (callsIn_wide.2 (valuedA o.1 o.2 _))).mono ?_; rintro e w7 ⟨rfl, hbv⟩; have hn : Below W6.heap.size W6 w7 := chain6 (by first | assumption | exact (Below.refl _ W6).drew) hbv; have tg1 := (hn.cell (p := ⟨w.heap.size + 1, 0, none⟩) (by simp only []; omega)).trans g1; have tg2 := (hn.cell (p := ⟨w.heap.size + 1, 1, none⟩) (by simp only []; omega)).trans g2; have tg3 := (hn.frozen (p := ⟨w.heap.size + 1, 0, none⟩) (by simp only []; omega)).trans g3; have tg4 := (hn.frozen (p := ⟨w.heap.size + 1, 1, none⟩) (by simp only []; omega)).trans g4; have tg5 := (hn.cell (p := ⟨w.heap.size + 1 + 1, 0, none⟩) (by simp only []; omega)).trans g5; have tg6 := (hn.frozen (p := ⟨w.heap.size + 1 + 1, 0, none⟩) (by simp only []; omega)).trans g6; have te0 := (hn.cell (p := ⟨b6, 0, none⟩) (by simp only []; omega)).trans e0; have te1 := (hn.cell (p := ⟨b6, 1, none⟩) (by simp only []; omega)).trans e1; have te2 := (hn.frozen (p := ⟨b6, 0, none⟩) (by simp only []; omega)).trans e2; have te3 := (hn.frozen (p := ⟨b6, 1, none⟩) (by simp only []; omega)).trans e3; have tn0 := (hn.cell (p := ⟨b8, 0, none⟩) (by simp only []; omega)).trans n0; have tn1 := (hn.cell (p := ⟨b8, 1, none⟩) (by simp only []; omega)).trans n1; have tg0 := (hn.cell (p := ⟨w.heap.size, 0, none⟩) (by simp only []; omega)).trans g0; clear hbv))
        all_goals (gi_wp2_with fail)
        all_goals (
          have hb7 := HB6.out.trans (hn.mono HB6.out.size)
          have ko := (ko_of_below hb7).trans ((KeepsOthers.setCell w7 ⟨b6, 0, none⟩ (.int .u32 ((r.1.toNat ||| o.1.toNat : Nat) : Int))).trans (KeepsOthers.setCell _ ⟨b6, 1, none⟩ (.int .u32 ((r.2.toNat ||| o.2.toNat : Nat) : Int))))
          have hbB := ((hb7.mono (Nat.le_of_lt (by omega : w.heap.size < W.heap.size))).setCell (p := ⟨b6, 0, none⟩) (by simp only []; omega) (.int .u32 ((r.1.toNat ||| o.1.toNat : Nat) : Int))).setCell (p := ⟨b6, 1, none⟩) (by simp only []; omega) (.int .u32 ((r.2.toNat ||| o.2.toNat : Nat) : Int))
          refine ⟨ko, hbB, ⟨⟨(r.1 ||| o.1, r.2 ||| o.2), HSN.out, ?_, ?_, ?_, ?_⟩, ?_, ⟨?_, ?_, ?_, ?_⟩, ?_, ?_⟩, HB.out.trans hbB⟩
          · rw [BitVec.toNat_or]; go_cell
          · rw [BitVec.toNat_or]; go_cell
          · rw [World.frozen?_setCell, World.frozen?_setCell]; exact te2
          · rw [World.frozen?_setCell, World.frozen?_setCell]; exact te3
          · exact keep_set (keep_set tg0 (by simp only []; omega)) (by simp only []; omega)
          · exact keep_set (keep_set tg1 (by simp only []; omega)) (by simp only []; omega)
          · exact keep_set (keep_set tg2 (by simp only []; omega)) (by simp only []; omega)
          · rw [World.frozen?_setCell, World.frozen?_setCell]; exact tg3
          · rw [World.frozen?_setCell, World.frozen?_setCell]; exact tg4
          · exact keep_set (keep_set tg5 (by simp only []; omega)) (by simp only []; omega)
          · rw [World.frozen?_setCell, World.frozen?_setCell]; exact tg6)
      · have hne : (((((r.1.toNat ||| r.2.toNat) &&& (o.1.toNat ||| o.2.toNat)) : Nat) : Int) != 0) = true := by
          have e : ¬ (r.1.toNat ||| r.2.toNat) &&& (o.1.toNat ||| o.2.toNat) = 0 := hz
          exact bne_iff_ne.2 (fun h => e (by omega))
        rw [if_neg hz] at HSN
        clear hz
        gi_region_with_o (first | (refine ⟨trivial, ?_⟩; gi_at_call 18; refine (CallsIn.inRound lid (callsIn_wide.2 (valuedA r.1 r.2 _))).mono ?_; rintro e w7 ⟨rfl, hbv⟩; have hn : Below W6.heap.size W6 w7 := chain6 (by first | assumption | exact (Below.refl _ W6).drew) hbv; have tg1 := (hn.cell (p := ⟨w.heap.size + 1, 0, none⟩) (by simp only []; omega)).trans g1; have tg2 := (hn.cell (p := ⟨w.heap.size + 1, 1, none⟩) (by simp only []; omega)).trans g2; have tg3 := (hn.frozen (p := ⟨w.heap.size + 1, 0, none⟩) (by simp only []; omega)).trans g3; have tg4 := (hn.frozen (p := ⟨w.heap.size + 1, 1, none⟩) (by simp only []; omega)).trans g4; have tg5 := (hn.cell (p := ⟨w.heap.size + 1 + 1, 0, none⟩) (by simp only []; omega)).trans g5; have tg6 := (hn.frozen (p := ⟨w.heap.size + 1 + 1, 0, none⟩) (by simp only []; omega)).trans g6; have te0 := (hn.cell (p := ⟨b6, 0, none⟩) (by simp only []; omega)).trans e0; have te1 := (hn.cell (p := ⟨b6, 1, none⟩) (by simp only []; omega)).trans e1; have te2 := (hn.frozen (p := ⟨b6, 0, none⟩) (by simp only []; omega)).trans e2; have te3 := (hn.frozen (p := ⟨b6, 1, none⟩) (by simp only []; omega)).trans e3; have tn0 := (hn.cell (p := ⟨b8, 0, none⟩) (by simp only []; omega)).trans n0; have tn1 := (hn.cell (p := ⟨b8, 1, none⟩) (by simp only []; omega)).trans n1; have tg0 := (hn.cell (p := ⟨w.heap.size, 0, none⟩) (by simp only []; omega)).trans g0; clear hbv) | (refine ⟨trivial, ?_⟩; gi_at_call 18; refine (CallsIn.inRound lid (callsIn_wide.2 (valuedA o.1 o.2 _))).mono ?_; rintro e w7 ⟨rfl, hbv⟩; have hn : Below W6.heap.size W6 w7 := chain6 (by first | assumption | exact (Below.refl _ W6).drew) hbv; have tg1 := (hn.cell (p := ⟨w.heap.size + 1, 0, none⟩) (by simp only []; omega)).trans g1; have tg2 := (hn.cell (p := ⟨w.heap.size + 1, 1, none⟩) (by simp only []; omega)).trans g2; have tg3 := (hn.frozen (p := ⟨w.heap.size + 1, 0, none⟩) (by simp only []; omega)).trans g3; have tg4 := (hn.frozen (p := ⟨w.heap.size + 1, 1, none⟩) (by simp only []; omega)).trans g4; have tg5 := (hn.cell (p := ⟨w.heap.size + 1 + 1, 0, none⟩) (by simp only []; omega)).trans g5; have tg6 := (hn.frozen (p := ⟨w.heap.size + 1 + 1, 0, none⟩) (by simp only []; omega)).trans g6; have te0 := (hn.cell (p := ⟨b6, 0, none⟩) (by simp only []; omega)).trans e0; have te1 := (hn.cell (p := ⟨b6, 1, none⟩) (by simp only []; omega)).trans e1; have te2 := (hn.frozen (p := ⟨b6, 0, none⟩) (by simp only []; omega)).trans e2; have te3 := (hn.frozen (p := ⟨b6, 1, none⟩) (by simp only []; omega)).trans e3; have tn0 := (hn.cell (p := ⟨b8, 0, none⟩) (by simp only []; omega)).trans n0; have tn1 := (hn.cell (p := ⟨b8, 1, none⟩) (by simp only []; omega)).trans n1; have tg0 := (hn.cell (p := ⟨w.heap.size, 0, none⟩) (by simp only []; omega)).trans g0; clear hbv))
        all_goals (gi_wp2_with fail)
        all_goals (
          have hb7 := HB6.out.trans (hn.mono HB6.out.size)
          have ko := (ko_of_below hb7).trans (((KeepsOthers.setCell w7 ⟨w.heap.size + 1, 0, none⟩ (.int .u32 0)).trans (KeepsOthers.setCell _ ⟨w.heap.size + 1, 1, none⟩ (.int .u32 0))).trans (KeepsOthers.setCell _ ⟨w.heap.size + 1 + 1, 0, none⟩ (.int .i64 10)))
          have hb4 := (((HB.out.trans (hb7.mono (by omega))).setCell (p := ⟨w.heap.size + 1, 0, none⟩) (by simp only []; omega) (.int .u32 0)).setCell (p := ⟨w.heap.size + 1, 1, none⟩) (by simp only []; omega) (.int .u32 0)).setCell (p := ⟨w.heap.size + 1 + 1, 0, none⟩) (by simp only []; omega) (.int .i64 10)
          exact ⟨ko, ⟨rfl, HSN.out, by go_cell, by go_cell, by go_cell⟩, hb4⟩)
  case done =>
    rintro D ys W hD hys ⟨⟨⟨r, hr, a0, a1, a2, a3⟩, f0, ⟨f1, f2, f3, f4⟩, f5, f6⟩, hB⟩ hK
    have hres : bunS l t = some r := by unfold bunS; rw [← hys]; exact hr
    have HRES := Lib.hid hres; have HB := Lib.hid hB
    clear hres hr hys hB
    gi_wp2
    have hK3 := (((KeepsOthers.setCell W ⟨w.heap.size + 1, 0, none⟩ (.int .u32 (r.1.toNat : Int))).trans (KeepsOthers.setCell _ ⟨w.heap.size + 1, 1, none⟩ (.int .u32 (r.2.toNat : Int)))).trans (KeepsOthers.setCell _ ⟨w.heap.size + 1 + 1, 0, none⟩ (.int .i64 0))).same D _ hK rfl
    refine ⟨by simp, .inl ⟨_, _, rfl, run_takeDeferred hK3, ?_⟩⟩
    generalize hW4 : World.putObj _ D _ = W4
    have c1 : W4.cell? ⟨w.heap.size + 1, 0, none⟩ = some (.int .u32 (r.1.toNat : Int)) := by
      rw [← hW4, World.cell?_of_block (World.putObj_heap_other (by simp only []; omega))]; go_cell
    have c2 : W4.cell? ⟨w.heap.size + 1, 1, none⟩ = some (.int .u32 (r.2.toNat : Int)) := by
      rw [← hW4, World.cell?_of_block (World.putObj_heap_other (by simp only []; omega))]; go_cell
    have c3 : W4.cell? ⟨w.heap.size + 1 + 1, 0, none⟩ = some (.int .i64 0) := by
      rw [← hW4, World.cell?_of_block (World.putObj_heap_other (by simp only []; omega))]; go_cell
    have hb4 : Below w.heap.size w W4 := by
      rw [← hW4]
      exact (((HB.out.setCell (p := ⟨w.heap.size + 1, 0, none⟩) (by simp only []; omega) _).setCell (p := ⟨w.heap.size + 1, 1, none⟩) (by simp only []; omega) _).setCell (p := ⟨w.heap.size + 1 + 1, 0, none⟩) (by simp only []; omega) _).trans (belowK_b (w := w) (Nat.le_refl _) _ D _ _ (by omega) hK3 rfl rfl)
    refine ⟨.tuple #[.agg #[.int .u32 (r.1.toNat : Int), .int .u32 (r.2.toNat : Int)], .int .i64 0], ?_, ?_, hb4⟩
    · simp [results, Tryd.results7, go_sem, c1, c2, c3]
    · rw [HRES.out]; rfl
  case stop =>
    rintro D c pre W hD hpre ⟨⟨rfl, hr, f1, f2, f5⟩, hB⟩ hK
    obtain ⟨post, hpost⟩ := hpre
    have hres : bunS l t = none := by unfold bunS; rw [← hpost]; exact bunL_stop _ _ _ hr
    have HRES := Lib.hid hres; have HB := Lib.hid hB
    clear hres hr hpost hB
    gi_wp2
    refine ⟨by simp, .inl ⟨_, _, rfl, run_takeDeferred hK, ?_⟩⟩
    have hb4 := HB.out.trans (belowK_b (w := w) (Nat.le_refl _) W D _ (.deferred none) (by omega) hK rfl rfl)
    have c1 := (World.cell?_of_block (World.putObj_heap_other (by simp only []; omega)) : (W.putObj D (.deferred none)).cell? ⟨w.heap.size + 1, 0, none⟩ = _).trans f1
    have c2 := (World.cell?_of_block (World.putObj_heap_other (by simp only []; omega)) : (W.putObj D (.deferred none)).cell? ⟨w.heap.size + 1, 1, none⟩ = _).trans f2
    have c3 := (World.cell?_of_block (World.putObj_heap_other (by simp only []; omega)) : (W.putObj D (.deferred none)).cell? ⟨w.heap.size + 1 + 1, 0, none⟩ = _).trans f5
    generalize W.putObj D (.deferred none) = W4 at *
    refine ⟨.tuple #[.agg #[.int .u32 0, .int .u32 0], .int .i64 10], ?_, ?_, hb4⟩
    · simp [results, Tryd.results7, go_sem, c1, c2, c3]
    · rw [HRES.out]; rfl
end Go.Proofs.YtmgikhldkebjbaaDoor

/-
  The library's contract of strings.Join, laid at this program's own numbers (a plain text).
-/
namespace Go.Proofs.YtmgikhldkebjbaaDoor
open Go.RowKit Go.Sort Go.Shelf Go.Proofs
def TrydJoinL_ren : Go.Shelf.Ren := ⟨fun | 156 => 11 | 165 => 22 | 166 => 23 | 169 => 24 | 240 => 33 | 241 => 34 | 276 => 42 | 277 => 43 | n => n, fun | 31 => 26 | 9 => 9 | 3 => 3 | 4 => 4 | 0 => 0 | 20 => 20 | 72 => 63 | 76 => 67 | 70 => 61 | 37 => 41 | 75 => 66 | 127 => 79 | 164 => 87 | 5 => 5 | 80 => 69 | n => n, fun | n => n⟩
theorem TrydJoinL : Go.Proofs.Lays.n156 Tryd.prog TrydJoinL_ren := {
  mixed := by kernel_rfl,
  f156 := Tryd.func11.trans (congrArg some (by kernel_rfl)),
  f165 := Tryd.func22.trans (congrArg some (by kernel_rfl)),
  f166 := Tryd.func23.trans (congrArg some (by kernel_rfl)),
  f169 := Tryd.func24.trans (congrArg some (by kernel_rfl)),
  f240 := Tryd.func33.trans (congrArg some (by kernel_rfl)),
  f241 := Tryd.func34.trans (congrArg some (by kernel_rfl)),
  f276 := Tryd.func42.trans (congrArg some (by kernel_rfl)),
  f277 := Tryd.func43.trans (congrArg some (by kernel_rfl)),
  t0 := Tryd.underlying0,
  a0 := Tryd.isAgg0,
  z0 := Tryd.sizeOf0,
  v0 := Tryd.zeroValue0,
  t3 := Tryd.underlying3,
  a3 := Tryd.isAgg3,
  z3 := Tryd.sizeOf3,
  v3 := Tryd.zeroValue3,
  t4 := Tryd.underlying4,
  a4 := Tryd.isAgg4,
  z4 := Tryd.sizeOf4,
  v4 := Tryd.zeroValue4,
  t9 := Tryd.underlying9,
  a9 := Tryd.isAgg9,
  z9 := Tryd.sizeOf9,
  v9 := Tryd.zeroValue9,
  t20 := Tryd.underlying20,
  a20 := Tryd.isAgg20,
  z20 := Tryd.sizeOf20,
  v20 := Tryd.zeroValue20,
  t31 := Tryd.underlying26,
  a31 := Tryd.isAgg26,
  z31 := Tryd.sizeOf26,
  v31 := Tryd.zeroValue26,
  t37 := Tryd.underlying41,
  a37 := Tryd.isAgg41,
  z37 := Tryd.sizeOf41,
  v37 := Tryd.zeroValue41,
  t70 := Tryd.underlying61,
  a70 := Tryd.isAgg61,
  z70 := Tryd.sizeOf61,
  v70 := Tryd.zeroValue61,
  t72 := Tryd.underlying63,
  a72 := Tryd.isAgg63,
  z72 := Tryd.sizeOf63,
  v72 := Tryd.zeroValue63,
  t75 := Tryd.underlying66,
  a75 := Tryd.isAgg66,
  z75 := Tryd.sizeOf66,
  v75 := Tryd.zeroValue66,
  t76 := Tryd.underlying67,
  a76 := Tryd.isAgg67,
  z76 := Tryd.sizeOf67,
  v76 := Tryd.zeroValue67,
  t127 := Tryd.underlying79,
  a127 := Tryd.isAgg79,
  z127 := Tryd.sizeOf79,
  v127 := Tryd.zeroValue79,
  t164 := Tryd.underlying87,
  a164 := Tryd.isAgg87,
  z164 := Tryd.sizeOf87,
  v164 := Tryd.zeroValue87 }
theorem TrydJoinX : Go.Proofs.Builder.Extra Tryd.prog TrydJoinL_ren := {
  sizeBuilder := by kernel_rfl,
  liesBuilder := by kernel_rfl,
  t5 := Tryd.underlying5,
  a5 := Tryd.isAgg5,
  z5 := Tryd.sizeOf5,
  v5 := Tryd.zeroValue5,
  infoByte := by kernel_rfl,
  cellsByte := by kernel_rfl,
  sizeByte := by kernel_rfl,
  neB5 := by decide }
/-- The texts, one after the other, a text between each two. -/
def joinS (l : List ByteArray) (sep : ByteArray) : ByteArray := ⟨(Lib.join (l.map (·.data.toList)) sep.data.toList).toArray⟩
theorem join_any {w : World} {v : Value} {l : List ByteArray} (h : Ss w v l) (sep : ByteArray) (hN : l.length ≤ 140737488355328) (hlen : (joinS l sep).size ≤ 140737488355328) : Gives 11 #[v, .string sep] w (.string (joinS l sep)) := by
  unfold Gives
  rcases h with ⟨rfl, rfl⟩ | ⟨b, off, cap, rfl, hc, hm, hb, hcells⟩
  · exact (Any.strings_Join_none TrydJoinL TrydJoinX none 0 sep w).mono fun e w' ⟨he, hw⟩ => ⟨he, hw ▸ Below.refl _ _⟩
  · refine Any.strings_Join TrydJoinL TrydJoinX b off cap l sep w (fun j x hx => ?_) hb hN hc ?_
    · obtain ⟨hj, rfl⟩ := List.getElem?_eq_some_iff.1 hx
      exact hcells j hj
    · have e : (joinS l sep).size = (Lib.join (l.map (·.data.toList)) sep.data.toList).length := by unfold joinS; rw [← List.size_toArray]; rfl
      rw [← e]; exact hlen
end Go.Proofs.YtmgikhldkebjbaaDoor

/-
  Text: writing values of features.
-/
namespace Go.Proofs.YtmgikhldkebjbaaDoor
open Go.RowKit Go.Shelf Go.Sort
attribute [local go_sem] bv_and bv_or ofInt32_nat
def plusS (x : ByteArray) : ByteArray := ⟨#[43]⟩ ++ x
def minusS (x : ByteArray) : ByteArray := ⟨#[45]⟩ ++ x
/-- The items of the features from number f on. -/
def txtL (s : Snd) : Nat → List ByteArray → List ByteArray
  | _, [] => []
  | f, x :: l => if s.1.toNat &&& 2 ^ f ≠ 0 then plusS x :: txtL s (f + 1) l else if s.2.toNat &&& 2 ^ f ≠ 0 then minusS x :: txtL s (f + 1) l else txtL s (f + 1) l
theorem txtL_snoc (s : Snd) (x : ByteArray) : ∀ (l : List ByteArray) (f : Nat), txtL s f (l ++ [x]) = txtL s f l ++ (if s.1.toNat &&& 2 ^ (f + l.length) ≠ 0 then [plusS x] else if s.2.toNat &&& 2 ^ (f + l.length) ≠ 0 then [minusS x] else [])
  | [], f => by simp only [List.nil_append, txtL, List.length_nil, Nat.add_zero]
  | y :: l, f => by
    have ih := txtL_snoc s x l (f + 1)
    rw [show f + 1 + l.length = f + (y :: l).length from by simp; omega] at ih
    simp only [List.cons_append, txtL, ih]
    split
    · rfl
    · split <;> rfl
theorem txtL_le (s : Snd) : ∀ (l : List ByteArray) (f : Nat), (txtL s f l).length ≤ l.length
  | [], _ => Nat.le_refl _
  | y :: l, f => by
    have ih := txtL_le s l (f + 1)
    simp only [txtL, List.length_cons]
    split
    · simp only [List.length_cons]; omega
    · split
      · simp only [List.length_cons]; omega
      · omega
theorem txtL_take (s : Snd) (l : List ByteArray) (k : Nat) (h : k < l.length) : txtL s 0 (l.take (k + 1)) = txtL s 0 (l.take k) ++ (if s.1.toNat &&& 2 ^ k ≠ 0 then [plusS l[k]] else if s.2.toNat &&& 2 ^ k ≠ 0 then [minusS l[k]] else []) := by
  rw [List.take_succ_eq_append_getElem h, txtL_snoc]
  have e : 0 + (l.take k).length = k := by rw [List.length_take]; omega
  rw [e]
/-- The text of a sound with the features l. -/
def txtS (l : List ByteArray) (s : Snd) : ByteArray := joinS (txtL s 0 l) ⟨#[32]⟩
theorem ss_one (w : World) (y : ByteArray) : Ss (w.alloc (.cells #[.string y] 9)) (.slice (some ⟨w.heap.size, 0, none⟩) 1 1) [y] :=
  .inr ⟨w.heap.size, 0, 1, rfl, Nat.le_refl _, by decide, by rw [World.size_alloc]; omega, fun i hi => by
    obtain rfl : i = 0 := by simp at hi; omega
    exact cell_block (World.alloc_heap_new w _) rfl⟩
set_option maxHeartbeats 4000000 in
set_option maxRecDepth 100000 in
theorem text_any {w : World} {base B : Nat} {l : List ByteArray} {a : List (ByteArray × Snd)} {nv av : Value} {bf bs by_ : Nat} (h : Inv w base B l a nv av bf bs by_) (hl : l.length ≤ 24) (s : Snd) (hs : hasB l.length s = true) (hxs : ∀ x ∈ l, x.size ≤ 1000) (hlen : (txtS l s).size ≤ 140737488355328) : Gives 6 #[.pointer (some ⟨B, 0, none⟩), snv s] w (.tuple #[.string (txtS l s), .int .i64 0]) := by
  unfold Gives
  have hB := h.lt
  have hv := fun (W : World) (hb : Below w.heap.size w W) => valid_yes B W (h.below hb).cells.1
  have hh := fun (W : World) (hb : Below w.heap.size w W) => has_any (h.below hb) s hl
  rw [hs] at hh
  unfold snv at *
  have HI := Lib.hid h; have HV := Lib.hid hv; have HH := Lib.hid hh
  obtain ⟨ao, ac, hnv⟩ := h.names.form
  subst hnv
  clear h hv hh
  go_enter Tryd.func6, Tryd.ntmps6
  have hq0 : Below w.heap.size w (w.alloc (.cells #[.int .u32 (s.1.toNat : Int), .int .u32 (s.2.toNat : Int)] 24)) := (Below.refl _ w).alloc (Nat.le_refl _) _
  have p0 : (w.alloc (.cells #[.int .u32 (s.1.toNat : Int), .int .u32 (s.2.toNat : Int)] 24)).cell? ⟨w.heap.size, 0, none⟩ = some (.int .u32 (s.1.toNat : Int)) := by go_cell
  have p1 : (w.alloc (.cells #[.int .u32 (s.1.toNat : Int), .int .u32 (s.2.toNat : Int)] 24)).cell? ⟨w.heap.size, 1, none⟩ = some (.int .u32 (s.2.toNat : Int)) := by go_cell
  have p2 : (w.alloc (.cells #[.int .u32 (s.1.toNat : Int), .int .u32 (s.2.toNat : Int)] 24)).heap.size = w.heap.size + 1 := World.size_alloc _ _
  go_wp2_with (first | (go_at_call 14; refine (HV.out _ (by go_grown)).mono ?_; rintro e wa ⟨rfl, hwa⟩; have hba := hq0.trans (hwa.mono hq0.size); have kz := hwa.size; rw [p2] at kz; have q0 := (hwa.cell (p := ⟨w.heap.size, 0, none⟩) (by simp only [p2]; omega)).trans p0; have q1 := (hwa.cell (p := ⟨w.heap.size, 1, none⟩) (by simp only [p2]; omega)).trans p1) | (go_at_call 15; refine (HH.out _ hba).mono ?_; rintro e wb ⟨rfl, hwb⟩; have hbb := hba.trans (hwb.mono hba.size); have kz2 := hwb.size; have r0 := (hwb.cell (p := ⟨w.heap.size, 0, none⟩) (by simp only []; omega)).trans q0; have r1 := (hwb.cell (p := ⟨w.heap.size, 1, none⟩) (by simp only []; omega)).trans q1; have cB := (HI.out.below hbb).cells.2.1))
  have hnn := (HI.out.below hbb).names.ss
  have HN := Lib.hid hnn; have HB := Lib.hid hbb
  have hz1 : w.heap.size < wb.heap.size := by omega
  clear hq0 p0 p1 p2 hwa hba q0 q1 hwb hnn hbb HV HH kz kz2 cB hs
  go_loopw [6, 22] (fun v i wr => ∃ k : Nat, k ≤ l.length ∧ i = .int .i64 (k : Int) ∧ OwnS wr wb.heap.size v (txtL s 0 (l.take k)) ∧ Below wb.heap.size wb wr) (fun _ i _ => l.length - (intOf i).toNat)
  case atStart => exact ⟨0, Nat.zero_le _, rfl, OwnS.nil _ _, Below.refl _ _⟩
  case round =>
    obtain ⟨k, hk, rfl, ho, hw⟩ := hrel
    have HO := Lib.hid ho; have HW := Lib.hid hw
    have c0 := (hw.cell (p := ⟨w.heap.size, 0, none⟩) hz1).trans r0
    have c1 := (hw.cell (p := ⟨w.heap.size, 1, none⟩) hz1).trans r1
    clear ho hw
    by_cases hlt : k < l.length
    · obtain ⟨ao', cap', hv', hc', hm', hcells⟩ := HN.out.open
      obtain ⟨b, off, hao, hb, hcell⟩ := hcells k hlt
      cases hv'
      subst hao
      have hcell := (HW.out.cell (p := ⟨b, off + k, none⟩) hb).trans hcell
      have htk := txtL_take s l k hlt
      have hx0 := hxs l[k] (List.getElem_mem hlt)
      have hln : (txtL s 0 (l.take k)).length ≤ 24 := Nat.le_trans (txtL_le s _ 0) (by rw [List.length_take]; omega)
      generalize l[k] = x at *
      have hp : (2 : Int) ^ k % 4294967296 = ((2 ^ k : Nat) : Int) := by
        have h := pow_bit k (by omega)
        rw [bit_toNat k (by omega)] at h
        exact h
      have hK32 : (2 : Nat) ^ k % 4294967296 = 2 ^ k := Nat.mod_eq_of_lt (Nat.pow_lt_pow_right (by omega) (by omega : k < 32))
      generalize hKK : (2 : Nat) ^ k = K at *
      have hx1 : ¬ ((⟨#[43]⟩ : ByteArray).size + x.size > 9223372036854775807) := by
        show ¬ (1 + x.size > _); omega
      have hx2 : ¬ ((⟨#[45]⟩ : ByteArray).size + x.size > 9223372036854775807) := by
        show ¬ (1 + x.size > _); omega
      have hx3 : ¬ (9223372036854775807 < 1 + x.size) := by omega
      have hx4 : 1 + x.size ≤ 9223372036854775807 := by omega
      have HTK := Lib.hid htk; have HLN := Lib.hid hln
      clear htk hcells hln hx0 hKK
      obtain ⟨vo, vc, hu⟩ := HO.out.form
      cases hu
      obtain ⟨N, hN⟩ : ∃ N, (txtL s 0 (l.take k)).length = N := ⟨_, rfl⟩
      have hv2 : Value.slice vo (txtL s 0 (l.take k)).length vc = Value.slice vo N vc := by rw [hN]
      rw [hN]
      rw [hv2] at HO
      have HNN := Lib.hid hN
      clear hN hv2
      by_cases h1 : s.1.toNat &&& K = 0
      · have g1 : (((s.1.toNat &&& K : Nat) : Int) != 0) = false := by rw [h1]; rfl
        by_cases h2 : s.2.toNat &&& K = 0
        · have g2 : (((s.2.toNat &&& K : Nat) : Int) != 0) = false := by rw [h2]; rfl
          have htk2 := HTK.out
          rw [if_neg (by simp [h1]), if_neg (by simp [h2]), List.append_nil] at htk2
          have HT := Lib.hid htk2
          clear htk2 HTK h1 h2
          go_wp2_with fail
          go_roundw
          case rel => exact ⟨k + 1, by omega, by go_num, by rw [HT.out]; exact HO.out, HW.out⟩
          case measure => simp [intOf]; omega
        · have g2 : (((s.2.toNat &&& K : Nat) : Int) != 0) = true := bne_iff_ne.2 (fun e => h2 (by omega))
          have htk2 := HTK.out
          rw [if_neg (by simp [h1]), if_pos h2] at htk2
          have HT := Lib.hid htk2
          clear htk2 HTK h1 h2
          go_wp2_with (at_builtin; refine wpList_appS rfl (.tmp 46) (.tmp 49) rfl wb.heap.size _ _ (txtL s 0 (l.take k)) [minusS x] rfl rfl (HO.out.below ((Below.refl _ wr).alloc (Nat.le_refl _) _)) (ss_one wr _) (by have := HLN.out; simp; omega) (by rw [World.size_alloc]; have := HW.out.size; omega) ?_; intro v' w2 ho2 hk2 hz2)
          go_roundw
          case rel => exact ⟨k + 1, by omega, by go_num, by rw [HT.out]; exact ho2, hk2 _ _ (Nat.le_refl _) (HW.out.alloc HW.out.size _)⟩
          case measure => simp [intOf]; omega
      · have g1 : (((s.1.toNat &&& K : Nat) : Int) != 0) = true := bne_iff_ne.2 (fun e => h1 (by omega))
        have htk2 := HTK.out
        rw [if_pos h1] at htk2
        have HT := Lib.hid htk2
        clear htk2 HTK h1
        go_wp2_with (at_builtin; refine wpList_appS rfl (.tmp 35) (.tmp 38) rfl wb.heap.size _ _ (txtL s 0 (l.take k)) [plusS x] rfl rfl (HO.out.below ((Below.refl _ wr).alloc (Nat.le_refl _) _)) (ss_one wr _) (by have := HLN.out; simp; omega) (by rw [World.size_alloc]; have := HW.out.size; omega) ?_; intro v' w2 ho2 hk2 hz2)
        go_roundw
        case rel => exact ⟨k + 1, by omega, by go_num, by rw [HT.out]; exact ho2, hk2 _ _ (Nat.le_refl _) (HW.out.alloc HW.out.size _)⟩
        case measure => simp [intOf]; omega
    · have hk2 : k = l.length := by omega
      subst hk2
      rw [List.take_length] at HO
      have hs0 := HO.out.ss
      have hls : (txtL s 0 l).length ≤ 140737488355328 := Nat.le_trans (txtL_le s l 0) (by omega)
      have HJ := Lib.hid (join_any hs0 ⟨#[32]⟩ hls hlen)
      have hsz := HW.out.size
      clear hs0 hls
      go_wp2_with (go_at_call 11; refine Gives.then HJ.out ?_; intro w3 hb3)
      exact bodyPost_ret (v := .tuple #[.string (txtS l s), .int .i64 0]) (by simp [results, Tryd.results6, go_sem, txtS]) rfl ⟨rfl, HB.out.trans ((HW.out.mono (by omega)).trans (hb3.mono (by omega)))⟩
end Go.Proofs.YtmgikhldkebjbaaDoor

/-
  works: the few calls that all the laws of the inventory make.
-/
namespace Go.Proofs.YtmgikhldkebjbaaDoor
open Go.RowKit Go.Shelf Go.Sort
def nm3 : List ByteArray := [⟨#[118, 111, 105, 99, 101]⟩, ⟨#[115, 116, 111, 112]⟩, ⟨#[118, 111, 119, 101, 108]⟩]
def tBun : ByteArray := ⟨#[43, 118, 111, 119, 101, 108, 32, 45, 115, 116, 111, 112]⟩
def tTxt : ByteArray := ⟨#[45, 115, 116, 111, 112, 32, 43, 118, 111, 119, 101, 108]⟩
theorem k1 : newE nm3 = 0 := by kernel_rfl
theorem k2 : bunS nm3 tBun = some (4#32, 2#32) := by kernel_rfl
theorem k3 : hasB nm3.length (4#32, 2#32) = true := by kernel_rfl
theorem k4 : txtS nm3 (4#32, 2#32) = tTxt := by kernel_rfl
theorem k5 : addE nm3 [] ⟨#[112]⟩ (2#32, 5#32) = 0 := by kernel_rfl
theorem k6 : addE nm3 [(⟨#[112]⟩, (2#32, 5#32))] ⟨#[112, 104]⟩ (2#32, 1#32) = 0 := by kernel_rfl
theorem k7 : lonS [(⟨#[112]⟩, (2#32, 5#32)), (⟨#[112, 104]⟩, (2#32, 1#32))] ⟨#[112, 104, 97, 116]⟩ 4 = some ⟨#[112, 104]⟩ := by kernel_rfl
theorem Touch.cell {w w' : World} {B bs by_ : Nat} {av : Value} (h : Touch w w' B bs by_ av) {k o : Nat} (hk : k < w.heap.size) (h1 : k ≠ B) (h2 : k ≠ bs) (h3 : k ≠ by_) (h4 : av.ownBlock ≠ some k) : w'.cell? ⟨k, o, none⟩ = w.cell? ⟨k, o, none⟩ := World.cell?_of_block (h.2.2.2.2 k hk h1 h2 h3 h4)
theorem Touch.toBelow {w w' : World} {B bs by_ n : Nat} {av : Value} (h : Touch w w' B bs by_ av) (hn : n ≤ w.heap.size) (h1 : n ≤ B) (h2 : n ≤ bs) (h3 : n ≤ by_) (h4 : ∀ k, av.ownBlock = some k → n ≤ k) : Below n w w' :=
  ⟨h.1, h.2.1, h.2.2.1, h.2.2.2.1, fun k hk => h.2.2.2.2 k (by omega) (by omega) (by omega) (by omega) (fun e => by have := h4 k e; omega)⟩
theorem ss_nm3 (w : World) : Ss (w.alloc (.cells #[.string ⟨#[118, 111, 105, 99, 101]⟩, .string ⟨#[115, 116, 111, 112]⟩, .string ⟨#[118, 111, 119, 101, 108]⟩] 9)) (.slice (some ⟨w.heap.size, 0, none⟩) 3 3) nm3 :=
  .inr ⟨w.heap.size, 0, 3, rfl, Nat.le_refl _, by decide, by rw [World.size_alloc]; omega, fun i hi => by
    match i, hi with
    | 0, _ => exact cell_block (World.alloc_heap_new w _) rfl
    | 1, _ => exact cell_block (World.alloc_heap_new w _) rfl
    | 2, _ => exact cell_block (World.alloc_heap_new w _) rfl⟩
theorem nm3_le : ∀ x ∈ nm3, x.size ≤ 1000 := by decide
set_option maxHeartbeats 4000000 in
set_option maxRecDepth 100000 in
theorem works_any (w : World) : Gives 8 #[] w (.bool true) := by
  unfold Gives
  have hN := new_any nm3 _ _ (fun x hx => Nat.le_trans (nm3_le x hx) (by decide)) (ss_nm3 w)
  have HN := Lib.hid hN
  clear hN
  go_enter Tryd.func8, Tryd.ntmps8
  go_wp2_with (go_at_call 13; refine HN.out.mono ?_; rintro e w1 ⟨hb1, ⟨hne, _⟩ | ⟨_, B, rfl, hI⟩⟩; first | exact absurd k1 hne | skip)
  have hb0 : Below w.heap.size w w1 := ((Below.refl _ w).alloc (Nat.le_refl _) _).trans (hb1.mono (by rw [World.size_alloc]; omega))
  obtain ⟨base, hbase⟩ : ∃ base, (w.alloc (.cells #[.string ⟨#[118, 111, 105, 99, 101]⟩, .string ⟨#[115, 116, 111, 112]⟩, .string ⟨#[118, 111, 119, 101, 108]⟩] 9)).heap.size = base := ⟨_, rfl⟩
  have hbs : w.heap.size < base := by rw [← hbase, World.size_alloc]; omega
  rw [hbase] at hI
  obtain ⟨nv, bf, bs, by_, hJ⟩ := hI.inv
  have hz0 := hb0.size
  have hlB := hJ.lt
  have hlS := hJ.sounds.lt
  have hlY := hJ.symbols.lt
  have hgB := hJ.hB
  have hgS := hJ.hs
  have hgY := hJ.hy
  have hBu : Gives 7 #[.pointer (some ⟨B, 0, none⟩), .string ⟨#[43, 118, 111, 119, 101, 108, 32, 45, 115, 116, 111, 112]⟩] w1 (.tuple #[.agg #[.int .u32 4, .int .u32 2], .int .i64 0]) := by
    have h := bundle_any hJ (by decide) tBun (by decide)
    rw [k2] at h
    exact h
  have hTx : ∀ W, Below w1.heap.size w1 W → Gives 6 #[.pointer (some ⟨B, 0, none⟩), .agg #[.int .u32 4, .int .u32 2]] W (.tuple #[.string ⟨#[45, 115, 116, 111, 112, 32, 43, 118, 111, 119, 101, 108]⟩, .int .i64 0]) := fun W hb => by
    have h := text_any (hJ.below hb) (by decide) (4#32, 2#32) k3 nm3_le (by rw [k4]; decide)
    rw [k4] at h
    exact h
  have hA1 : ∀ W, Below w1.heap.size w1 W → Calls Tryd.prog 19 #[.pointer (some ⟨B, 0, none⟩), .string ⟨#[112]⟩, .agg #[.int .u32 2, .int .u32 5]] W fun e w' => e = .returned (.int .i64 0) ∧ ∃ av', Inv w' base B nm3 [(⟨#[112]⟩, (2#32, 5#32))] nv av' bf bs by_ ∧ Touch W w' B bs by_ (.slice none 0 0) := fun W hb => by
    have h := add_any (hJ.below hb) ⟨#[112]⟩ (2#32, 5#32) (by decide) (by decide) (by decide)
    rw [k5] at h
    exact h.mono fun e w' ⟨h1, h2⟩ => ⟨h1, h2.elim (fun h => absurd rfl h.1) (fun h => h.2)⟩
  have hA2 : ∀ W av, Inv W base B nm3 [(⟨#[112]⟩, (2#32, 5#32))] nv av bf bs by_ → Calls Tryd.prog 19 #[.pointer (some ⟨B, 0, none⟩), .string ⟨#[112, 104]⟩, .agg #[.int .u32 2, .int .u32 1]] W fun e w' => e = .returned (.int .i64 0) ∧ ∃ av', Inv w' base B nm3 [(⟨#[112]⟩, (2#32, 5#32)), (⟨#[112, 104]⟩, (2#32, 1#32))] nv av' bf bs by_ ∧ Touch W w' B bs by_ av := fun W av hi => by
    have h := add_any hi ⟨#[112, 104]⟩ (2#32, 1#32) (by decide) (by decide) (by decide)
    rw [k6] at h
    exact h.mono fun e w' ⟨h1, h2⟩ => ⟨h1, h2.elim (fun h => absurd rfl h.1) (fun h => h.2)⟩
  have hLo : ∀ W av, Inv W base B nm3 [(⟨#[112]⟩, (2#32, 5#32)), (⟨#[112, 104]⟩, (2#32, 1#32))] nv av bf bs by_ → Gives 20 #[.pointer (some ⟨B, 0, none⟩), .string ⟨#[112, 104, 97, 116]⟩] W (.tuple #[.string ⟨#[112, 104]⟩, .bool true]) := fun W av hi => by
    have h := longest_any hi ⟨#[112, 104, 97, 116]⟩ (by decide)
    rw [show min (ByteArray.size ⟨#[112, 104, 97, 116]⟩) 4 = 4 from rfl, k7] at h
    exact h
  have HBu := Lib.hid hBu; have HTx := Lib.hid hTx; have HA1 := Lib.hid hA1; have HA2 := Lib.hid hA2; have HLo := Lib.hid hLo; have HB0 := Lib.hid hb0
  clear hBu hTx hA1 hA2 hLo hb0 hb1 hI HN hJ hbase
  go_wp2_with (go_at_call 7; refine Gives.then HBu.out ?_; intro w2 hb2)
  have hz2 := hb2.size
  have s2 : (w2.alloc (.cells #[.int .u32 4, .int .u32 2] 24)).heap[w2.heap.size]? = some (.cells #[.int .u32 4, .int .u32 2] 24) := World.alloc_heap_new _ _
  have hb2' : Below w1.heap.size w1 (w2.alloc (.cells #[.int .u32 4, .int .u32 2] 24)) := hb2.alloc hz2 _
  have z2 : (w2.alloc (.cells #[.int .u32 4, .int .u32 2] 24)).heap.size = w2.heap.size + 1 := World.size_alloc _ _
  have S2 := Lib.hid s2; have HB2 := Lib.hid hb2'
  clear s2 hb2' hb2
  go_wp2_with (go_at_call 6; refine Gives.then (HTx.out _ HB2.out) ?_; intro w3 hb3)
  have s3 : w3.heap[w2.heap.size]? = some (.cells #[.int .u32 4, .int .u32 2] 24) := (hb3.block w2.heap.size (by omega)).trans S2.out
  have hb3' : Below w1.heap.size w1 w3 := HB2.out.trans (hb3.mono (by omega))
  have z3 : w2.heap.size < w3.heap.size := by have := hb3.size; omega
  have S3 := Lib.hid s3; have HB3 := Lib.hid hb3'
  clear s3 hb3' hb3 S2 z2 HB2
  go_wp2_with (go_at_call 19; (with_reducible refine (HA1.out w3 HB3.out).mono ?_); rintro e w4 ⟨rfl, av, hJ4, ht4⟩)
  have s4 : w4.heap[w2.heap.size]? = some (.cells #[.int .u32 4, .int .u32 2] 24) := (ht4.2.2.2.2 w2.heap.size z3 (by omega) (by omega) (by omega) (by simp [Value.ownBlock])).trans S3.out
  have hb4 : Below w.heap.size w w4 := (HB0.out.trans (HB3.out.mono (by omega))).trans (ht4.toBelow (by omega) (by omega) (by omega) (by omega) (fun k e => by simp [Value.ownBlock] at e))
  have z4 : w2.heap.size < w4.heap.size := by have := ht4.2.2.2.1; omega
  have hfar : av.ownBlock ≠ some w2.heap.size := own_far hJ4.added s4 (by intro cs fz e; cases e)
  have hge : ∀ k, av.ownBlock = some k → w.heap.size ≤ k := fun k e => by
    obtain ⟨_, ⟨hv, _⟩ | ⟨g, cap, cur, hv, hg, _⟩⟩ := hJ4.added
    · rw [hv] at e; simp [Value.ownBlock] at e
    · rw [hv] at e; simp only [Value.ownBlock, Option.some.injEq] at e; omega
  have S4 := Lib.hid s4; have HB4 := Lib.hid hb4; have HJ4 := Lib.hid hJ4; have HF := Lib.hid hfar; have HG := Lib.hid hge
  clear s4 hb4 hJ4 ht4 hfar hge S3 HB3 z3
  go_wp2_with (go_at_call 19; (with_reducible refine (HA2.out w4 av HJ4.out).mono ?_); rintro e w5 ⟨rfl, av5, hJ5, ht5⟩)
  have s5 : w5.heap[w2.heap.size]? = some (.cells #[.int .u32 4, .int .u32 2] 24) := (ht5.2.2.2.2 w2.heap.size z4 (by omega) (by omega) (by omega) HF.out).trans S4.out
  have z5 : w2.heap.size < w5.heap.size := by have := ht5.2.2.2.1; omega
  have hb5 : Below w.heap.size w w5 := HB4.out.trans (ht5.toBelow (by omega) (by omega) (by omega) (by omega) HG.out)
  have S5 := Lib.hid s5; have HB5 := Lib.hid hb5; have HJ5 := Lib.hid hJ5
  clear s5 hb5 hJ5 ht5 S4 HB4 HJ4 HF HG z4
  go_wp2_with (go_at_call 20; refine Gives.then (HLo.out w5 av5 HJ5.out) ?_; intro w6 hb6; have c0 : w6.cell? ⟨w2.heap.size, 0, none⟩ = some (.int .u32 4) := cell_block ((hb6.block w2.heap.size z5).trans S5.out) rfl; have c1 : w6.cell? ⟨w2.heap.size, 1, none⟩ = some (.int .u32 2) := cell_block ((hb6.block w2.heap.size z5).trans S5.out) rfl)
  have hb7 : Below w.heap.size w w6 := HB5.out.trans (hb6.mono (by omega))
  have HB7 := Lib.hid hb7
  exact bodyPost_ret (v := .bool true) (by simp [results, Tryd.results8, go_sem]) rfl ⟨rfl, HB7.out⟩
end Go.Proofs.YtmgikhldkebjbaaDoor
