/-
  Names of features, and symbols: which texts they are.
-/
import Derived.Test.YtmgikhldkebjbaaHa
import Derived.Lib.Strings
import Derived.Lib.Slices
import Derived.Lib.Walk
import Derived.Lib.Bytealg
namespace Go.Proofs.Ytmgikhldkebjbaa
open Go.RowKit Go.Sort
/-- Whether a byte is one of a text. -/
def isIn (s : ByteArray) (c : UInt8) : Bool := decide (0 ≤ Lib.indexByte s.data.toList c)
set_option maxRecDepth 100000 in
set_option maxHeartbeats 1000000 in
theorem idx_any (s : ByteArray) (c : UInt8) (w : World) : Gives 84 #[.string s, .int .u8 c.toNat] w (.int .i64 (Lib.indexByte s.data.toList c)) := by
  unfold Gives
  have hc : ((c.toNat : Int).toNat.toUInt8) = c := by simp
  go_enter Try.func84, Try.ntmps84
  go_wp2_with go_in
  rw [run_callFunc_extern Try.func92 (by kernel_rfl) (by kernel_rfl) (by kernel_rfl) (e := Extern.BytealgIndexByte.indexByte) (by kernel_rfl), Lib.run_indexByteString, hc]
  simp only [Result.andThen]
  rw [Oper.upon_value]
  go_wp2
  go_returns
  exact ⟨rfl, Below.refl _ _⟩
theorem may_any (s : ByteArray) (c : UInt8) (B : Nat) (w : World) (hB : w.cell? ⟨B, 0, none⟩ = some (.string s)) : Gives 83 #[.int .u8 c.toNat, .pointer (some ⟨B, 0, none⟩)] w (.bool (isIn s c)) := by
  unfold Gives isIn
  generalize hx : Lib.indexByte s.data.toList c = x
  have hI := fun W => Gives.eq (idx_any s c W) rfl (by rw [hx])
  have HI := Lib.hid hI
  clear hI hx
  have hw := Below.refl w.heap.size w
  by_cases h : 0 ≤ x
  · have e : decide (0 ≤ x) = true := decide_eq_true h
    go_enter Try.func83, Try.ntmps83
    go_wp2_with (go_at_call 84; (with_reducible refine Gives.then (HI.out _) ?_); intro w1 hb; have hw := hw.trans (hb.mono hw.size); clear hb)
    go_returns
    exact ⟨by simp [h], hw⟩
  · have e : decide (0 ≤ x) = false := decide_eq_false h
    go_enter Try.func83, Try.ntmps83
    go_wp2_with (go_at_call 84; (with_reducible refine Gives.then (HI.out _) ?_); intro w1 hb; have hw := hw.trans (hb.mono hw.size); clear hb)
    go_returns
    exact ⟨by simp [h], hw⟩
theorem among_any (s : ByteArray) (w : World) : Calls Try.prog 71 #[.string s] w fun e w' => e = .returned (.func (.func 83) #[] #[.pointer (some ⟨w.heap.size, 0, none⟩)]) ∧ w.alloc (.cells #[.string s] 9) = w' := by
  go_enter Try.func71, Try.ntmps71
  go_wp2
  go_returns
  exact ⟨rfl, rfl⟩
/-- Whether a text has at least one byte, and at most so many, all of which are in another. -/
def cons (t : ByteArray) (most : Nat) (s : ByteArray) : Bool := decide (0 < t.size) && decide (t.size ≤ most) && t.data.toList.all (isIn s)
end Go.Proofs.Ytmgikhldkebjbaa
