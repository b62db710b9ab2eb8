/-
  strings.Cut at one space.
-/
import Derived.Test.YtmgikhldkebjbaaIa
namespace Go.Proofs.Ytmgikhldkebjbaa
open Go.RowKit Go.Sort
def spc : ByteArray := ⟨#[32]⟩
/-- The place of the first space, -1 if there is none. -/
def spI (s : ByteArray) : Int := Lib.indexByte s.data.toList 32
set_option maxRecDepth 100000 in
set_option maxHeartbeats 1000000 in
theorem index_any (s : ByteArray) (w : World) : Gives 89 #[.string s, .string ⟨#[32]⟩] w (.int .i64 (spI s)) := by
  unfold Gives
  have hI : ∀ W, Calls Try.prog 88 #[.string s, .int .u8 32] W fun e w' => e = .returned (.int .i64 (Lib.indexByte s.data.toList 32)) ∧ w' = W := fun W => by
    go_enter Try.func88, Try.ntmps88
    go_wp2_with go_in
    rw [run_callFunc_extern Try.func92 (by kernel_rfl) (by kernel_rfl) (by kernel_rfl) (e := Extern.BytealgIndexByte.indexByte) (by kernel_rfl), Lib.run_indexByteString]
    simp only [Result.andThen]
    rw [Oper.upon_value]
    go_wp2
    go_returns
    exact ⟨rfl, rfl⟩
  have HI := Lib.hid hI
  clear hI
  by_cases h : s = ⟨#[32]⟩
  · subst h
    go_enter Try.func89, Try.ntmps89
    go_wp2_with fail
    go_returns
    exact ⟨by rw [show spI ⟨#[32]⟩ = 0 by decide]; rfl, Below.refl _ _⟩
  · have e : (([32] : List UInt8) == s.toList) = false := by
      rw [Bool.eq_false_iff, Lib.toList_data]
      intro e
      refine h ?_
      have e2 := beq_iff_eq.1 e
      cases s with
      | mk d =>
        congr
        exact Array.ext' e2.symm
    go_enter Try.func89, Try.ntmps89
    go_wp2_with (go_at_call 88; refine (HI.out _).mono ?_; rintro e w1 ⟨rfl, rfl⟩)
    go_returns
    exact ⟨rfl, Below.refl _ _⟩
/-- What stands ahead of the first space, what stands behind it, and whether there is one. -/
def cutA (s : ByteArray) : ByteArray := if 0 ≤ spI s then s.extract 0 (spI s).toNat else s
def cutB (s : ByteArray) : ByteArray := if 0 ≤ spI s then s.extract ((spI s).toNat + 1) s.size else ⟨#[]⟩
def cutC (s : ByteArray) : Bool := decide (0 ≤ spI s)
theorem ib_lt (c : UInt8) : ∀ l : List UInt8, Lib.indexByte l c < l.length
  | [] => by simp [Lib.indexByte]
  | b :: l => by
    have ih := ib_lt c l
    simp only [Lib.indexByte, List.length_cons]
    split
    · omega
    · split <;> omega
theorem spI_lt (s : ByteArray) : spI s < s.size := by
  have h := ib_lt 32 s.data.toList
  have e : s.data.toList.length = s.size := by rw [Array.length_toList]; rfl
  unfold spI
  omega
theorem spI_ge (s : ByteArray) : -1 ≤ spI s := Lib.indexByte_ge _ _
set_option maxRecDepth 100000 in
set_option maxHeartbeats 2000000 in
theorem scut_any (s : ByteArray) (hs : s.size ≤ 9223372036854775807) (w : World) : Gives 85 #[.string s, .string ⟨#[32]⟩] w (.tuple #[.string (cutA s), .string (cutB s), .bool (cutC s)]) := by
  unfold Gives
  have hi := index_any s w
  have h1 := spI_lt s
  have h2 := spI_ge s
  unfold cutA cutB cutC
  generalize spI s = x at *
  have HI := Lib.hid hi
  clear hi
  by_cases h0 : 0 ≤ x
  · obtain ⟨n, rfl⟩ := Int.eq_ofNat_of_zero_le h0
    have h3 : n < s.size := by omega
    have h4 : n ≤ s.size := by omega
    have h5 : n + 1 ≤ s.size := by omega
    rw [if_pos h0, if_pos h0, decide_eq_true h0, Int.toNat_natCast]
    clear h0 h1 h2
    go_enter Try.func85, Try.ntmps85
    go_wp2_with (go_at_call 89; refine Gives.then HI.out ?_; intro w1 hb)
    go_region
    go_wp2
    exact bodyPost_ret (v := .tuple #[.string (s.extract 0 n), .string (s.extract (n + 1) s.size), .bool true]) (by simp [results, Try.results85, go_sem]) rfl ⟨rfl, hb.drew⟩
  · rw [if_neg h0, if_neg h0, decide_eq_false h0]
    have e : decide (0 ≤ x) = false := decide_eq_false h0
    go_enter Try.func85, Try.ntmps85
    go_wp2_with (go_at_call 89; refine Gives.then HI.out ?_; intro w1 hb)
    exact bodyPost_ret (v := .tuple #[.string s, .string ⟨#[]⟩, .bool false]) (by simp [results, Try.results85, go_sem]) rfl ⟨rfl, hb⟩
theorem cut_any (s : ByteArray) (hs : s.size ≤ 9223372036854775807) (w : World) : Gives 76 #[.string s, .string ⟨#[32]⟩] w (.tuple #[.string (cutA s), .string (cutB s), .bool (cutC s)]) := by
  unfold Gives
  have hi := scut_any s hs w
  generalize cutA s = a at *
  generalize cutB s = b at *
  generalize cutC s = c at *
  have HI := Lib.hid hi
  clear hi
  go_enter Try.func76, Try.ntmps76
  go_wp2_with (go_at_call 85; refine Gives.then HI.out ?_; intro w1 hb)
  exact bodyPost_ret (v := .tuple #[.string a, .string b, .bool c]) (by simp [results, Try.results76, go_sem]) rfl ⟨rfl, hb⟩
end Go.Proofs.Ytmgikhldkebjbaa
