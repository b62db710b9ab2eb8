/-
  Longest: the longest symbol with which a text begins.
-/
import Derived.Test.YtmgikhldkebjbaaIl
namespace Go.Proofs.Ytmgikhldkebjbaa
open Go.RowKit Go.Sort
/-- The longest of a text's beginnings of 1 to n bytes that is a symbol. -/
def lonS (a : List (ByteArray × Snd)) (t : ByteArray) : Nat → Option ByteArray
  | 0 => none
  | n + 1 => if (sndOf a (t.extract 0 (n + 1))).isSome then some (t.extract 0 (n + 1)) else lonS a t n
theorem lonS_yes {a : List (ByteArray × Snd)} {t : ByteArray} {n : Nat} (hn : 0 < n) (h : (sndOf a (t.extract 0 n)).isSome = true) : lonS a t n = some (t.extract 0 n) := by
  cases n with
  | zero => omega
  | succ n => simp only [lonS]; rw [if_pos h]
theorem lonS_no {a : List (ByteArray × Snd)} {t : ByteArray} {n : Nat} (hn : 0 < n) (h : (sndOf a (t.extract 0 n)).isSome = false) : lonS a t n = lonS a t (n - 1) := by
  cases n with
  | zero => omega
  | succ n => simp only [lonS]; rw [if_neg (by rw [h]; decide)]; rfl
set_option maxRecDepth 100000 in
set_option maxHeartbeats 8000000 in
theorem longest_any {w : World} {base B : Nat} {l : List ByteArray} {a : List (ByteArray × Snd)} {nv av : Value} {bf bs by_ : Nat} (h : Inv w base B l a nv av bf bs by_) (t : ByteArray) (ht : t.size ≤ 9223372036854775807) : Gives 35 #[.pointer (some ⟨B, 0, none⟩), .string t] w (.tuple #[.string ((lonS a t (min t.size 4)).getD ⟨#[]⟩), .bool (lonS a t (min t.size 4)).isSome]) := by
  unfold Gives
  have HI := Lib.hid h
  have hB := h.lt
  clear h
  obtain ⟨M, hM⟩ : ∃ M, min t.size 4 = M := ⟨_, rfl⟩
  have hM1 : M ≤ t.size := by omega
  have hM4 : M ≤ 4 := by omega
  have hmin : min (t.size : Int) 4 = (M : Int) := by omega
  rw [hM]
  obtain ⟨R, hR⟩ : ∃ R, lonS a t M = R := ⟨_, rfl⟩
  have HR := Lib.hid hR
  rw [hR]
  clear hR hM
  go_enter Try.func35, Try.ntmps35
  go_wp2_with fail
  go_at_call 44
  refine Gives.then (valid_yes B _ HI.out.cells.1) ?_
  intro w1 hb1
  have HI1 := Lib.hid (HI.out.below hb1)
  have HW1 := Lib.hid hb1
  clear hb1 HI
  go_wp2_with fail
  go_loopw [18] (fun i wr => ∃ k : Nat, k ≤ M ∧ i = .int .i64 (k : Int) ∧ lonS a t (M - k) = R ∧ Inv wr base B l a nv av bf bs by_ ∧ Below w.heap.size w wr) (fun i _ => M - (intOf i).toNat)
  case atStart => exact ⟨0, by omega, rfl, HR.out, HI1.out, HW1.out⟩
  case round =>
    obtain ⟨k, hk, rfl, hl, hI, hw⟩ := hrel
    have HL := Lib.hid hl; have HI2 := Lib.hid hI
    clear hl hI
    by_cases hlt : k < M
    · obtain ⟨n, hn⟩ : ∃ n, M - k = n := ⟨_, rfl⟩
      have hn0 : 0 < n := by omega
      have hi : (M : Int) - (k : Int) = (n : Int) := by omega
      have hn1 : n ≤ t.size := by omega
      have HLN : Hid (lonS a t n = R) := Lib.hid (by rw [← hn]; exact HL.out)
      have HN := Lib.hid hn
      clear hn HL
      obtain ⟨x, hx⟩ : ∃ x, t.extract 0 n = x := ⟨_, rfl⟩
      have c4 := HI2.out.cells.2.2.2.2.1
      obtain ⟨s, hs⟩ : ∃ s, (sndOf a x).getD (0#32, 0#32) = s := ⟨_, rfl⟩
      have HG := Lib.hid (snd_get a x s hs)
      have HS := Lib.hid (fnd_snd x a 0).2
      rcases hq : (sndOf a x).isSome with _ | _
      · have HNO := Lib.hid ((lonS_no hn0 (by rw [hx]; exact hq)).symm.trans HLN.out)
        rw [hq] at HS
        clear hs hq
        go_wp2_with (at_lookup; refine wpList_lookup_s rfl (.tmp 30) (.tmp 31) 56 rfl Try.underlying56 Try.underlying9 (z := .agg #[.int .u32 0, .int .u32 0]) (fun _ => by kernel_rfl) bs (a.map fun x => (x.1, snv x.2)) x (.agg #[.int .u32 s.1.toNat, .int .u32 s.2.toNat]) false rfl rfl HI2.out.sounds HG.out HS.out ?_)
        have hb3 := (Below.refl _ wr).alloc (Nat.le_refl _) (.cells #[.int .u32 s.1.toNat, .int .u32 s.2.toNat] 39)
        have HI3 := Lib.hid (HI2.out.below hb3)
        have hw3 := hw.trans (hb3.mono hw.size)
        go_roundw
        case rel => exact ⟨k + 1, by omega, by go_num, by have := HNO.out; rw [← HN.out] at this; rw [← this]; rfl, HI3.out, hw3⟩
        case measure => simp [intOf]; omega
      · have HYES := Lib.hid ((lonS_yes hn0 (by rw [hx]; exact hq)).symm.trans HLN.out)
        rw [hq] at HS
        clear hs hq
        go_wp2_with (at_lookup; refine wpList_lookup_s rfl (.tmp 30) (.tmp 31) 56 rfl Try.underlying56 Try.underlying9 (z := .agg #[.int .u32 0, .int .u32 0]) (fun _ => by kernel_rfl) bs (a.map fun x => (x.1, snv x.2)) x (.agg #[.int .u32 s.1.toNat, .int .u32 s.2.toNat]) true rfl rfl HI2.out.sounds HG.out HS.out ?_)
        have hb3 := (Below.refl _ wr).alloc (Nat.le_refl _) (.cells #[.int .u32 s.1.toNat, .int .u32 s.2.toNat] 39)
        have hw3 := hw.trans (hb3.mono hw.size)
        go_ret2
        exact ⟨by rw [← HYES.out, hx]; rfl, hw3⟩
    · obtain rfl : k = M := by omega
      have HNO : Hid (none = R) := Lib.hid (by have := HL.out; rwa [Nat.sub_self] at this)
      go_wp2_with fail
      go_ret2
      exact ⟨by rw [← HNO.out]; rfl, hw⟩
end Go.Proofs.Ytmgikhldkebjbaa
