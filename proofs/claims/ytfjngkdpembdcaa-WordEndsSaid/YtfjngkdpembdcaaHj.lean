/-
  Where a word occurs in another one: Find.
-/
import Derived.Test.YtfjngkdpembdcaaHf
import Derived.Deep.DeepCutAuto
namespace Go.Proofs.Ytfjngkdpembdcaa
open Go.RowKit Go.Sort
/-- The first of n places from k on at which ys stands in xs. -/
def findFrom (xs ys : List Snd) : Nat → Nat → Int
  | 0, _ => -1
  | n + 1, k => if sub xs k (k + ys.length) = ys then (k : Int) else findFrom xs ys n (k + 1)
def findS (xs ys : List Snd) : Int := findFrom xs ys (xs.length + 1 - ys.length) 0
theorem find_step {xs ys : List Snd} {k : Nat} (h : k + ys.length ≤ xs.length) : findFrom xs ys (xs.length + 1 - ys.length - k) k = if sub xs k (k + ys.length) = ys then (k : Int) else findFrom xs ys (xs.length + 1 - ys.length - (k + 1)) (k + 1) := by
  rw [show xs.length + 1 - ys.length - k = xs.length + 1 - ys.length - (k + 1) + 1 from by omega]; rfl
theorem find_end {xs ys : List Snd} {k : Nat} (h : ¬ k + ys.length ≤ xs.length) : findFrom xs ys (xs.length + 1 - ys.length - k) k = -1 := by
  rw [show xs.length + 1 - ys.length - k = 0 from by omega]; rfl
set_option maxHeartbeats 4000000 in
theorem find_any (xs ys : List Snd) (v u : Value) (w : World) (hx : xs.length ≤ 1000000000) (h : Wd w v xs) (hu : Wd w u ys) (hne : xs ≠ [] ∨ v = .slice none 0 0) : Gives 19 #[v, u] w (.int .i64 (findS xs ys)) := by
  unfold Gives
  obtain ⟨uo, ucap, rfl, k1, k2, -⟩ := hu.open
  have l2 := maxLen_lt (Nat.le_trans k1 k2)
  clear k1 k2
  have HU := Lib.hid hu
  generalize ho : findS xs ys = o
  have ho' : findFrom xs ys (xs.length + 1 - ys.length - 0) 0 = o := ho
  have HO := Lib.hid ho'
  clear ho ho' hu
  rcases h with ⟨h0, rfl⟩ | ⟨b, off, cap, rfl, c1, m1, lb, h3⟩
  · obtain rfl : v = .slice none 0 0 := hne.resolve_left (by simp)
    clear h0 hne
    rcases hy : ys with _ | ⟨y, ys'⟩
    · subst hy
      have hres : (0 : Int) = o := (show (0 : Int) = findFrom [] [] (([] : List Snd).length + 1 - ([] : List Snd).length - 0) 0 from rfl).trans HO.out
      have hE := fun W (hb : Below w.heap.size w W) => sEqual_any [] [] (.slice none 0 0) (.slice uo ([] : List Snd).length ucap) W (Wd.nil _) (HU.out.below hb)
      have HE := Lib.hid hE
      clear hE HO HU
      subst hres
      go_enter Try.func19, Try.ntmps19
      go_wp2_with fail
      refine wp_loop_rounds 1 ?_
      rw [rounds_succ]
      go_wp2_with fail
      go_at_call 39
      with_reducible refine Gives.then (HE.out _ (Below.refl _ _)) ?_
      intro w1 hb1
      go_wp2_with fail
      go_returns
      exact ⟨rfl, hb1⟩
    · subst hy
      have hres : (-1 : Int) = o := (find_end (xs := []) (ys := y :: ys') (k := 0) (by simp)).symm.trans HO.out
      have HL := Lib.hid (show (y :: ys').length = ys'.length + 1 from rfl)
      generalize hn : (y :: ys').length = n at *
      have hn1 := HL.out
      clear hn HO HU
      subst hres
      go_enter Try.func19, Try.ntmps19
      go_wp2_with fail
      go_rounds 1
      go_returns
      exact ⟨rfl, Below.refl _ _⟩
  · clear hne
    have m1 := Lib.hid m1; have h3 := Lib.hid h3
    have l1 : cap ≤ 9223372036854775807 := m1.out
    go_enter Try.func19, Try.ntmps19
    go_wp2_with fail
    go_loopw [12] (fun i wr => ∃ k : Nat, i = .int .i64 (k : Int) ∧ findFrom xs ys (xs.length + 1 - ys.length - k) k = o ∧ k ≤ xs.length + 1 ∧ Below w.heap.size w wr ∧ w.heap.size ≤ wr.heap.size) (fun i _ => xs.length + 1 - (intOf i).toNat)
    case atStart => exact ⟨0, rfl, HO.out, by omega, Below.refl _ _, Nat.le_refl _⟩
    case round =>
      clear HO
      obtain ⟨k, rfl, hp, hk, hw, hsz⟩ := hrel
      by_cases hlt : k + ys.length ≤ xs.length
      · rw [find_step hlt] at hp
        have e : k + ys.length - k = ys.length := by omega
        have hs := fun W (hb : Below w.heap.size w W) => (Wd.sub (A := k) (B := k + ys.length) c1 m1.out lb h3.out hlt).below hb
        have hs0 := fun (hc : cap = k) W (hb : Below w.heap.size w W) => (Wd.sub0 (off := off) (A := k) (B := k + ys.length) (by omega) lb hlt).below hb
        rw [e] at hs hs0
        have HS := Lib.hid hs; have HS0 := Lib.hid hs0
        clear hs hs0 e
        by_cases heq : sub xs k (k + ys.length) = ys
        · have HP := Lib.hid (((if_pos heq).symm.trans hp))
          have HQ := Lib.hid (show decide (sub xs k (k + ys.length) = ys) = true from decide_eq_true heq)
          clear hp heq
          go_wp2_with fail
          all_goals go_at_call 39
          all_goals first
            | with_reducible refine Gives.then (Gives.eq (sEqual_any _ _ _ _ _ (HS.out _ hw) (HU.out.below hw)) rfl (by rw [HQ.out])) ?_
            | with_reducible refine Gives.then (Gives.eq (sEqual_any _ _ _ _ _ (HS0.out (by assumption) _ hw) (HU.out.below hw)) rfl (by rw [HQ.out])) ?_
          all_goals intro w1 hb1
          all_goals go_wp2_with fail
          all_goals go_returns
          all_goals exact ⟨ret_num HP.out, hw.trans (hb1.mono hsz)⟩
        · have HP := Lib.hid (((if_neg heq).symm.trans hp))
          have HQ := Lib.hid (show decide (sub xs k (k + ys.length) = ys) = false from decide_eq_false heq)
          have hck : ¬ cap = k := fun hck => heq (by
            have y0 : ys = [] := List.eq_nil_of_length_eq_zero (by omega)
            have s0 : (sub xs k (k + ys.length)).length = 0 := by rw [sub_length hlt]; omega
            rw [List.eq_nil_of_length_eq_zero s0, y0])
          clear hp heq HS0
          go_wp2_with fail
          go_at_call 39
          with_reducible refine Gives.then (Gives.eq (sEqual_any _ _ _ _ _ (HS.out _ hw) (HU.out.below hw)) rfl (by rw [HQ.out])) ?_
          intro w1 hb1
          go_wp2_with fail
          have hw2 := hw.trans (hb1.mono hsz)
          go_roundw
          case rel => exact ⟨k + 1, by go_num, HP.out, by omega, hw2, hw2.size⟩
          case measure => simp [intOf]; omega
      · rw [find_end hlt] at hp
        have HP := Lib.hid hp
        clear hp
        go_wp2_with fail
        go_returns
        exact ⟨ret_num HP.out, hw⟩
end Go.Proofs.Ytfjngkdpembdcaa
