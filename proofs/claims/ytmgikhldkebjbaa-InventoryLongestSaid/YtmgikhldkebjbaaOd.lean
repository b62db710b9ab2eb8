/-
  strings.HasPrefix; what the longest symbol is.
-/
import Derived.Test.YtmgikhldkebjbaaOc
namespace Go.Proofs.Ytmgikhldkebjbaa
open Go.RowKit Go.Sort
/-- Whether a text begins with another. -/
def hasP (s p : ByteArray) : Bool := decide (p.size ≤ s.size) && decide (s.extract 0 p.size = p)
set_option maxHeartbeats 1000000 in
theorem slHasP_any (s p : ByteArray) (hs : s.size ≤ 9223372036854775807) (hp : p.size ≤ 9223372036854775807) (w : World) : Gives 66 #[.string s, .string p] w (.bool (hasP s p)) := by
  unfold Gives hasP
  by_cases h1 : p.size ≤ s.size
  · have g1 : decide ((p.size : Int) ≤ (s.size : Int)) = true := decide_eq_true (by omega)
    have g2 : decide (p.size ≤ s.size) = true := decide_eq_true h1
    obtain ⟨x, hx⟩ : ∃ x, s.extract 0 p.size = x := ⟨_, rfl⟩
    rw [hx, g2, Bool.true_and]
    by_cases h2 : x = p
    · have e1 : (x.toList == p.toList) = true := by rw [toList_beq]; exact decide_eq_true h2
      have e2 : decide (x = p) = true := decide_eq_true h2
      rw [e2]
      have HX := Lib.hid hx
      have e3 : ((s.extract 0 p.size).toList == p.toList) = true := by rw [hx]; exact e1
      clear h2 hx e2
      go_enter Try.func66, Try.ntmps66
      go_wp2_with fail
      first
        | (go_returns; exact ⟨by first | rfl | simp, Below.refl _ _⟩)
        | (go_region; go_wp2_with fail; go_returns; exact ⟨by first | rfl | simp, (Below.refl _ w).drew⟩)
    · have e1 : (x.toList == p.toList) = false := by rw [toList_beq]; exact decide_eq_false h2
      have e2 : decide (x = p) = false := decide_eq_false h2
      rw [e2]
      have HX := Lib.hid hx
      have e3 : ((s.extract 0 p.size).toList == p.toList) = false := by rw [hx]; exact e1
      clear h2 hx e2
      go_enter Try.func66, Try.ntmps66
      go_wp2_with fail
      first
        | (go_returns; exact ⟨by first | rfl | simp, Below.refl _ _⟩)
        | (go_region; go_wp2_with fail; go_returns; exact ⟨by first | rfl | simp, (Below.refl _ w).drew⟩)
  · have g1 : decide ((p.size : Int) ≤ (s.size : Int)) = false := decide_eq_false (by omega)
    have g2 : decide (p.size ≤ s.size) = false := decide_eq_false h1
    rw [g2, Bool.false_and]
    clear h1
    go_enter Try.func66, Try.ntmps66
    go_wp2_with fail
    first
      | (go_returns; exact ⟨by first | rfl | simp, Below.refl _ _⟩)
      | (go_region; go_wp2_with fail; go_returns; exact ⟨by first | rfl | simp, (Below.refl _ w).drew⟩)
theorem hasP_any (s p : ByteArray) (hs : s.size ≤ 9223372036854775807) (hp : p.size ≤ 9223372036854775807) (w : World) : Gives 39 #[.string s, .string p] w (.bool (hasP s p)) := by
  have h := fun W => slHasP_any s p hs hp W
  generalize hasP s p = b at *
  have H := Lib.hid h
  clear h
  unfold Gives
  go_enter Try.func39, Try.ntmps39
  go_wp2_with (go_at_call 66; refine Gives.then (H.out _) ?_; intro w1 hb)
  go_returns
  exact ⟨rfl, hb⟩
theorem ext_size (t : ByteArray) (m : Nat) (h : m ≤ t.size) : (t.extract 0 m).size = m := by rw [ByteArray.size_extract]; omega
theorem lon_some {a : List (ByteArray × Snd)} {t x : ByteArray} : ∀ {n : Nat}, lonS a t n = some x → ∃ m, 1 ≤ m ∧ m ≤ n ∧ x = t.extract 0 m ∧ (sndOf a x).isSome = true ∧ ∀ q, m < q → q ≤ n → (sndOf a (t.extract 0 q)).isSome = false
  | 0, h => by cases h
  | n + 1, h => by
    cases hs : (sndOf a (t.extract 0 (n + 1))).isSome
    · simp only [lonS, hs] at h
      obtain ⟨m, h1, h2, h3, h4, h5⟩ := lon_some (n := n) (by simpa using h)
      refine ⟨m, h1, by omega, h3, h4, fun q hq hq2 => ?_⟩
      by_cases e : q = n + 1
      · rw [e]; exact hs
      · exact h5 q hq (by omega)
    · simp only [lonS, hs, if_true, Option.some.injEq] at h
      exact ⟨n + 1, by omega, Nat.le_refl _, h.symm, by rw [← h]; exact hs, fun q h1 h2 => by omega⟩
theorem lon_none {a : List (ByteArray × Snd)} {t : ByteArray} : ∀ {n : Nat}, lonS a t n = none → ∀ q, 1 ≤ q → q ≤ n → (sndOf a (t.extract 0 q)).isSome = false
  | 0, _, q, h1, h2 => by omega
  | n + 1, h, q, h1, h2 => by
    cases hs : (sndOf a (t.extract 0 (n + 1))).isSome
    · simp only [lonS, hs] at h
      by_cases e : q = n + 1
      · rw [e]; exact hs
      · exact lon_none (n := n) (by simpa using h) q h1 (by omega)
    · simp [lonS, hs] at h
theorem isSym_size {t : ByteArray} (h : isSym t = true) : 1 ≤ t.size ∧ t.size ≤ 4 := by
  unfold isSym cons at h
  simp only [Bool.and_eq_true, decide_eq_true_eq] at h
  exact ⟨h.1.1, h.1.2⟩
theorem addE_sym {l : List ByteArray} {a : List (ByteArray × Snd)} {k : ByteArray} {s : Snd} (h : addE l a k s = 0) : isSym k = true := by
  unfold addE at h
  split at h
  · cases h
  · rename_i h1; simpa using h1
theorem grw_sym : ∀ (l a : List (ByteArray × Snd)), (∀ x ∈ a, isSym x.1 = true) → ∀ x ∈ grw a l, isSym x.1 = true
  | [], _, h => h
  | x :: l, a, h => by
    simp only [grw]
    refine grw_sym l _ ?_
    split
    · rename_i h0
      intro y hy
      rcases List.mem_append.1 hy with hy | hy
      · exact h y hy
      · rw [List.mem_singleton.1 hy]; exact addE_sym h0
    · exact h
/-- What Longest's answer is, of a list of symbols. -/
theorem lon_is {a : List (ByteArray × Snd)} (hs : ∀ x ∈ a, isSym x.1 = true) (t : ByteArray) : ∃ (x : ByteArray) (ok : Bool), (lonS a t (min t.size 4)).getD ⟨#[]⟩ = x ∧ (lonS a t (min t.size 4)).isSome = ok ∧
    (sndOf a x).isSome = ok ∧ (ok = false → x.size = 0) ∧ x.size ≤ t.size ∧ hasP t x = true ∧ ∀ y ∈ a, x.size < y.1.size → hasP t y.1 = false := by
  have hno : (sndOf a ⟨#[]⟩).isSome = false := by
    rw [sndOf_none (fun y hy e => ?_)]; rfl
    have := (isSym_size (hs y hy)).1
    rw [← e] at this
    exact absurd this (by decide)
  have hfin : ∀ (n0 : Nat) (y : ByteArray × Snd), y ∈ a → n0 < y.1.size → (∀ q, n0 < q → q ≤ min t.size 4 → (sndOf a (t.extract 0 q)).isSome = false) → hasP t y.1 = false := fun n0 y hy hlt hq => by
    rw [Bool.eq_false_iff]
    intro hp
    unfold hasP at hp
    rw [Bool.and_eq_true, decide_eq_true_iff, decide_eq_true_iff] at hp
    have h4 := (isSym_size (hs y hy)).2
    have := hq y.1.size hlt (by omega)
    rw [hp.2, sndOf_some ⟨y, hy, rfl⟩] at this
    cases this
  cases hl : lonS a t (min t.size 4) with
  | none =>
    refine ⟨⟨#[]⟩, false, rfl, rfl, hno, fun _ => rfl, Nat.zero_le _, ?_, fun y hy hlt => hfin 0 y hy hlt fun q h1 h2 => lon_none hl q h1 h2⟩
    unfold hasP
    rw [Bool.and_eq_true, decide_eq_true_iff, decide_eq_true_iff]
    exact ⟨Nat.zero_le _, bytes_ext (by rw [ext_list]; rfl)⟩
  | some x =>
    obtain ⟨m, h1, h2, h3, h4, h5⟩ := lon_some hl
    have hm : x.size = m := by rw [h3, ext_size _ _ (by omega)]
    refine ⟨x, true, rfl, rfl, h4, (fun h => by cases h), by omega, ?_, fun y hy hlt => hfin m y hy (by omega) h5⟩
    unfold hasP
    rw [Bool.and_eq_true, decide_eq_true_iff, decide_eq_true_iff]
    exact ⟨by omega, by rw [hm]; exact h3.symm⟩
end Go.Proofs.Ytmgikhldkebjbaa
