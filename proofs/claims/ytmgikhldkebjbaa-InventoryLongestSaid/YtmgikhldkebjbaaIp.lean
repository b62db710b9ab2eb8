/-
  The items of a bundle: the iterator.
-/
import Derived.RangeFuncNested
import Derived.RangeFuncBound
import Derived.RangeFuncCalls
import Derived.RangeFuncLeaves
import Derived.RangeFuncFrom
import Derived.Shelf.Abstract
import Derived.Shelf.RegionOpen
import Derived.WalkKit
import Derived.Lib.Hide
import Derived.OwnWalkIn
import Derived.TacticsInMore
import Derived.LoopNIn
import Derived.LoopIn
import Derived.BigQuiet
import Derived.Sort.QuietIn
import Derived.Test.YtmgikhldkebjbaaIn
import Derived.Test.YtmgikhldkebjbaaProg
namespace Go.Proofs.Ytmgikhldkebjbaa
open Go.RowKit Go.Shelf Go.Sort
attribute [local go_sem] Oper.semAt_some
def itemsF : Nat → ByteArray → Bool → List ByteArray
  | 0, _, _ => []
  | _ + 1, _, false => []
  | n + 1, r, true => cutA r :: itemsF n (cutB r) (cutC r)
/-- What is still to come of a text's items. -/
def todo (r : ByteArray) (m : Bool) : List ByteArray := itemsF (r.size + 1) r m
theorem itemsF_false : ∀ n r, itemsF n r false = []
  | 0, _ => rfl
  | _ + 1, _ => rfl
theorem cutB_lt {r : ByteArray} (h : cutC r = true) : (cutB r).size < r.size := by
  have h1 := spI_lt r
  have h0 : 0 ≤ spI r := of_decide_eq_true h
  unfold cutB
  rw [if_pos h0, ByteArray.size_extract]
  omega
theorem cutB_le (r : ByteArray) : (cutB r).size ≤ r.size := by
  by_cases h : cutC r = true
  · exact Nat.le_of_lt (cutB_lt h)
  · have h0 : ¬ 0 ≤ spI r := fun e => h (decide_eq_true e)
    unfold cutB
    rw [if_neg h0]
    exact Nat.zero_le _
theorem itemsF_fuel : ∀ (n k : Nat) (r : ByteArray) (m : Bool), r.size < n → r.size < k → itemsF n r m = itemsF k r m
  | 0, _, _, _, h, _ => absurd h (Nat.not_lt_zero _)
  | _, 0, _, _, _, h => absurd h (Nat.not_lt_zero _)
  | n + 1, k + 1, r, false, _, _ => rfl
  | n + 1, k + 1, r, true, h1, h2 => by
    have e : itemsF n (cutB r) (cutC r) = itemsF k (cutB r) (cutC r) := by
      cases hc : cutC r
      · rw [itemsF_false, itemsF_false]
      · have := cutB_lt hc
        exact itemsF_fuel n k _ _ (by omega) (by omega)
    simp only [itemsF, e]
theorem todo_false (r : ByteArray) : todo r false = [] := rfl
theorem todo_true (r : ByteArray) : todo r true = cutA r :: todo (cutB r) (cutC r) := by
  have e : itemsF r.size (cutB r) (cutC r) = itemsF ((cutB r).size + 1) (cutB r) (cutC r) := by
    cases hc : cutC r
    · rw [itemsF_false, itemsF_false]
    · exact itemsF_fuel _ _ _ _ (cutB_lt hc) (Nat.lt_succ_self _)
  unfold todo
  rw [← e]
  rfl
/-- The items of a text. -/
def itemsS (s : ByteArray) : List ByteArray := todo s (!s.toList.isEmpty)
def mI (p q : Value) : Nat := match q, p with
  | .bool true, .string s => s.size + 1
  | _, _ => 0
theorem grown_of_below {A B : World} (h : Below A.heap.size A B) : A.grownBy B none := ⟨h.os, h.tape, h.output, h.size, fun k hk _ => h.block k hk⟩
theorem grown_drew (w : World) (q : Nat) : w.grownBy (w.drewN q) none := ⟨rfl, rfl, rfl, Nat.le_refl _, fun _ _ _ => rfl⟩
theorem cutA_le (r : ByteArray) : (cutA r).size ≤ r.size := by
  have h1 := spI_lt r
  unfold cutA
  split
  · rw [ByteArray.size_extract]; omega
  · exact Nat.le_refl _
/-- A text that is not too long for the model. -/
abbrev Tx := { x : ByteArray // x.size ≤ 9223372036854775807 }
abbrev encT (x : Tx) : Array Value := #[.string x.1]
def raw (l : List Tx) : List ByteArray := l.map (·.1)
theorem raw_snoc (l : List Tx) (x : Tx) : raw (l ++ [x]) = raw l ++ [x.1] := by simp [raw]
theorem raw_length (l : List Tx) : (raw l).length = l.length := by simp [raw]
set_option maxRecDepth 100000 in
set_option maxHeartbeats 4000000 in
/-- The iterator: each item of the text, in order. -/
theorem items_in (n : Nat) (hn : 1 ≤ n) (lid Bn n₀ : Nat) (s : ByteArray) (hs : s.size ≤ 9223372036854775807) (J Jx : List Tx → World → Prop)
    (W : World) (hab : AbidesFrom W.heap.size J)
    (hY : ∀ pre x W, J pre W → pre.length < (itemsS s).length → YieldAt Fence.wide (n - 1) Try.prog lid (encT x) W fun e W' =>
      (e = .returned (.bool true) ∧ J (pre ++ [x]) W' ∧ Below n₀ W W') ∨ (e = .returned (.bool false) ∧ Jx (pre ++ [x]) W'))
    (hBn : W.cell? ⟨Bn, 0, none⟩ = some (.string s)) (h0 : J [] W) :
    CallsIn Fence.wide n Try.prog 75 #[.func (.yield lid) #[] #[], .pointer (some ⟨Bn, 0, none⟩)] W fun e W' => (∃ v, e = .returned v) ∧
      ((∃ ys, raw ys = itemsS s ∧ J ys W') ∨ (∃ pre, raw pre <+: itemsS s ∧ Jx pre W')) := by
  have HAB := Lib.hid hab
  clear hab
  have hX : itemsS s = [] ++ todo s (!s.toList.isEmpty) := rfl
  generalize hI : itemsS s = I at *
  clear hI
  have HX := Lib.hid hX
  clear hX
  refine callsIn_of_wp Try.func75 rfl trivial ?_ rfl
  simp only [Try.ntmps75, List.size_toArray, List.length_cons, List.length_nil, Nat.reduceAdd, Nat.reduceSub, Array.replicate_succ, Array.replicate_zero, List.push_toArray, List.append_toArray, List.nil_append, List.cons_append]
  gi_wp2_with fail
  gi_quiet (fail)
  have hJ2 := HAB.out [] W (W.drewN nq) none h0 (grown_drew _ _) (by rintro r e; cases e)
  have hsz : W.heap.size ≤ (W.drewN nq).heap.size := Nat.le_refl _
  generalize (!s.toList.isEmpty) = m0 at *
  have hs0 := hs
  gi_wp2_with fail
  gi_loopw [3, 4] (fun p q wr => ∃ (pre : List Tx) (r : ByteArray) (m : Bool), p = .string r ∧ q = .bool m ∧ r.size ≤ 9223372036854775807 ∧ I = raw pre ++ todo r m ∧ J pre wr ∧ W.heap.size ≤ wr.heap.size) (fun p q wr => mI p q)
  case atStart => exact ⟨[], s, m0, rfl, rfl, hs0, HX.out, hJ2, hsz⟩
  case round =>
    clear HX hJ2 h0 hBn
    obtain ⟨pre, r, m, rfl, rfl, hr, hx, hJ, hw⟩ := hrel
    cases m
    · rw [todo_false, List.append_nil] at hx
      gi_wp2
      go_end0
      exact ⟨⟨_, rfl⟩, .inl ⟨_, hx.symm, hJ⟩⟩
    · rw [todo_true] at hx
      have hme := fun h => cutB_lt (r := r) h
      have hle := cutB_le r
      have hla := cutA_le r
      obtain ⟨a, ha⟩ : ∃ a, cutA r = a := ⟨_, rfl⟩
      obtain ⟨b, hb⟩ : ∃ b, cutB r = b := ⟨_, rfl⟩
      obtain ⟨c, hc⟩ : ∃ c, cutC r = c := ⟨_, rfl⟩
      have hcut := cut_any r hr wr
      rw [ha, hb, hc] at hcut hx
      rw [hb, hc] at hme
      rw [hb] at hle
      rw [ha] at hla
      have hsa : a.size ≤ 9223372036854775807 := Nat.le_trans hla hr
      have hpl : pre.length < I.length := by rw [hx, List.length_append, List.length_cons, raw_length]; omega
      have hx2 : I = raw (pre ++ [(⟨a, hsa⟩ : Tx)]) ++ todo b c := by rw [hx, raw_snoc, List.append_assoc]; rfl
      have HX := Lib.hid hx2; have HME := Lib.hid hme; have HJ := Lib.hid hJ; have HCUT := Lib.hid hcut
      clear hx hx2 hme ha hb hc hJ hcut hla
      gi_wp2_with (refine ⟨trivial, ?_⟩; gi_at_call 76; refine (callsIn_wide.2 HCUT.out).mono ?_; rintro e w1 ⟨rfl, hb1⟩; have hJ3 := HAB.out pre wr w1 none HJ.out (grown_of_below hb1) (by rintro r e; cases e); have hw3 : W.heap.size ≤ w1.heap.size := Nat.le_trans hw hb1.size; obtain ⟨fn, tmps, assign, body, hy, hR⟩ := hY pre (⟨a, hsa⟩ : Tx) w1 hJ3 hpl; dsimp only [encT] at hy; have HRR := Lib.hid hR; clear hR hJ3 HJ)
      refine HRR.out.mono ?_
      rintro e W3 (⟨rfl, hJ4, hk4⟩ | ⟨rfl, hJx4⟩)
      · gi_wp2
        go_roundw
        case rel => exact ⟨pre ++ [(⟨a, hsa⟩ : Tx)], b, c, rfl, rfl, by omega, HX.out, hJ4, Nat.le_trans hw3 hk4.size⟩
        case measure =>
          have e := HME.out
          cases c <;> simp [mI] <;> simp at e <;> omega
      · gi_wp2
        refine bodyPost_ret (results_none rfl _ _ _) rfl ?_
        exact ⟨⟨_, rfl⟩, .inr ⟨_, ⟨todo b c, HX.out.symm⟩, hJx4⟩⟩
end Go.Proofs.Ytmgikhldkebjbaa
