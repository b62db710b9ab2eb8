/-
  WordParts, walked.
-/
import Derived.Test.YthokpgnenlfnjaaHx
import Derived.Test.YthokpgnenlfnjaaZa
namespace Go.Proofs.Ythokpgnenlfnjaa
open Go.RowKit Go.Sort
set_option maxHeartbeats 1000000 in
theorem rcut_any (ss : List Snd) (v : Value) (a b : Int) (w : World) (h : Wd w v ss) : MakesE 18 #[v, .int .i64 a, .int .i64 b] w (cutE ss a b) (cutS ss a b) := by
  unfold MakesE
  have hC := rcheck_any ss v w h
  have HC := Lib.hid hC; clear hC
  by_cases hc : chk ss = 0
  · have hc0 := HC.out; rw [hc] at hc0
    have HC0 := Lib.hid hc0; clear hc0 HC
    have h32 := chk_short hc
    have DH := Lib.hid h
    rcases hp : part ss.length a b with _ | _
    · have eE : cutE ss a b = 3 := by simp [cutE, hc, hp]
      have eS : cutS ss a b = [] := by simp [cutS, hc, hp]
      rw [eE, eS]
      clear eE eS hc
      have hp' : ¬ (0 ≤ a ∧ a ≤ b ∧ b ≤ ss.length) := fun ⟨h1, h2, h3⟩ => by simp [part, h1, h2, h3] at hp
      clear hp
      obtain ⟨ao, cap, rfl, -, -, -⟩ := h.open
      clear h
      by_cases h1 : a < 0
      · clear hp'
        go_enter Try.func18, Try.ntmps18
        go_wp2_with (go_at_call 25; with_reducible refine Gives.then HC0.out ?_; intro w1 hb1)
        go_ret2
        exact ⟨_, rfl, Own.nil _ _, hb1⟩
      · by_cases h2 : b < a
        · clear hp'
          go_enter Try.func18, Try.ntmps18
          go_wp2_with (go_at_call 25; with_reducible refine Gives.then HC0.out ?_; intro w1 hb1)
          go_ret2
          exact ⟨_, rfl, Own.nil _ _, hb1⟩
        · have h3 : (ss.length : Int) < b := by omega
          clear hp'
          go_enter Try.func18, Try.ntmps18
          go_wp2_with (go_at_call 25; with_reducible refine Gives.then HC0.out ?_; intro w1 hb1)
          go_ret2
          exact ⟨_, rfl, Own.nil _ _, hb1⟩
    · have eE : cutE ss a b = 0 := by simp [cutE, hc, hp]
      have eS : cutS ss a b = sub ss a.toNat b.toNat := by simp [cutS, hc, hp]
      rw [eE, eS]
      unfold part at hp
      simp only [Bool.and_eq_true, decide_eq_true_eq] at hp
      obtain ⟨⟨p1, p2⟩, p3⟩ := hp
      clear eE eS hc
      obtain ⟨A, rfl⟩ := Int.eq_ofNat_of_zero_le p1
      obtain ⟨B, rfl⟩ := Int.eq_ofNat_of_zero_le (Int.le_trans p1 p2)
      simp only [Int.toNat_natCast]
      rcases h with ⟨rfl, rfl⟩ | ⟨bb, off, cap, rfl, c1, m1, lb, h3⟩
      · obtain rfl : B = 0 := by simp at p3; omega
        obtain rfl : A = 0 := by omega
        clear p1 p2 p3 h32
        go_enter Try.func18, Try.ntmps18
        go_wp2_with (first | (go_at_call 25; with_reducible refine Gives.then HC0.out ?_; intro w1 hb1) | (go_at_call 16; with_reducible refine Makes.then (copy_any [] _ (by simp) _ (Wd.nil _)) ?_; intro v2 w2 ho2 hb2))
        go_ret2
        exact ⟨_, rfl, own_in ho2 hb1, hb1.trans (hb2.mono hb1.size)⟩
      · have m1 := Lib.hid m1; have h3 := Lib.hid h3
        have l1 : cap ≤ 9223372036854775807 := m1.out
        have hBn : B ≤ ss.length := by omega
        have hsl : (Proofs.Ythokpgnenlfnjaa.sub ss A B).length ≤ 1000000000 := by rw [sub_length hBn]; omega
        have HSL := Lib.hid hsl
        have hs := fun W (hb : Below w.heap.size w W) => (Wd.sub (A := A) (B := B) c1 m1.out lb h3.out hBn).below hb
        have hs0 := fun (hc : cap = A) W (hb : Below w.heap.size w W) => (Wd.sub0 (off := off) (A := A) (B := B) (by omega) lb hBn).below hb
        have HS := Lib.hid hs; have HS0 := Lib.hid hs0
        clear hs hs0 hsl
        go_enter Try.func18, Try.ntmps18
        go_wp2_with (go_at_call 25; with_reducible refine Gives.then HC0.out ?_; intro w1 hb1)
        all_goals go_at_call 16
        all_goals first
          | with_reducible refine Makes.then (copy_any _ _ HSL.out _ (HS.out _ hb1)) ?_
          | with_reducible refine Makes.then (copy_any _ _ HSL.out _ (HS0.out (by assumption) _ hb1)) ?_
        all_goals intro v2 w2 ho2 hb2
        all_goals go_wp2_with fail
        all_goals go_ret2
        all_goals exact ⟨_, rfl, own_in ho2 hb1, hb1.trans (hb2.mono hb1.size)⟩
  · have eE : cutE ss a b = chk ss := by simp [cutE, hc]
    have eS : cutS ss a b = [] := by simp [cutS, hc]
    rw [eE, eS]
    clear eE eS
    obtain ⟨ao, cap, rfl, -, -, -⟩ := h.open
    clear h
    generalize chk ss = c at *
    have hc1 : (c == 0) = false := by simpa using hc
    clear hc
    go_enter Try.func18, Try.ntmps18
    go_wp2_with (go_at_call 25; with_reducible refine Gives.then HC.out ?_; intro w1 hb1)
    go_ret2
    exact ⟨_, rfl, Own.nil _ _, hb1⟩
set_option maxRecDepth 100000 in
set_option maxHeartbeats 4000000 in
theorem parts_any (xs : List Snd) (v : Value) (a b : Int) (w : World) (ha : Wd w v xs) : Gives 4 #[v, .int .i64 a, .int .i64 b] w (.bool true) := by
  unfold Gives
  have DA := Lib.hid ha
  obtain ⟨ao, ac, rfl, ka, ma, -⟩ := ha.open
  have l1 := maxLen_lt (Nat.le_trans ka ma)
  clear ha ka ma
  have hw := Below.refl w.heap.size w
  by_cases h1 : xs.length ≤ 300
  · have h2 : decide (cutS xs a b = cutS xs a b) = true := decide_eq_true rfl
    have HS2 := Lib.hid h2
    clear h2
    have hC := fun W (hb : Below w.heap.size w W) => cut_any xs _ a b W (DA.out.below hb)
    have hR := fun W (hb : Below w.heap.size w W) => rcut_any xs _ a b W (DA.out.below hb)
    generalize cutS xs a b = C at *
    generalize cutE xs a b = E at *
    have HC := Lib.hid hC; have HR := Lib.hid hR
    clear hC hR
    go_enter Try.func4, Try.ntmps4
    go_wp2_with fail
    go_at_call 17
    with_reducible refine MakesE.then (HC.out _ hw) ?_
    intro v1 w1 o1 b1
    have hw1 := hw.trans (b1.mono hw.size)
    have d1 := o1.wd
    obtain ⟨ax, nx, cx, hx⟩ := d1.form
    subst hx
    clear o1 b1 hw
    go_wp2_with fail
    go_at_call 18
    with_reducible refine MakesE.then (HR.out _ hw1) ?_
    intro v2 w2 o2 b2
    have hw2 := hw1.trans (b2.mono hw1.size)
    have d1 := d1.below b2
    have d2 := o2.wd
    obtain ⟨ay, ny, cy, hy⟩ := d2.form
    subst hy
    clear o2 b2 hw1
    go_wp2_with (first | (go_at_call 23; with_reducible refine Gives.then (Gives.eq (rEqual_any _ _ _ _ _ d1 d2) rfl (v' := .bool true) (by simp)) ?_; intro w3 b3; have hw := hw2.trans (b3.mono hw2.size); clear b3 d1 d2) | (go_at_call 15; with_reducible refine Gives.then (works_any _) ?_; intro w4 hb; have hw := hw.trans (hb.mono hw.size); clear hb))
    go_returns
    exact ⟨by first | rfl | (simp; done), hw⟩
  · go_enter Try.func4, Try.ntmps4
    go_wp2_with (go_at_call 15; with_reducible refine Gives.then (works_any _) ?_; intro w1 hb; have hw := hw.trans (hb.mono hw.size); clear hb)
    go_returns
    exact ⟨rfl, hw⟩
end Go.Proofs.Ythokpgnenlfnjaa
