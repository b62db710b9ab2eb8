/-
  WordFinds, walked: a word without memory, and long words.
-/
import Derived.Test.YthokpgnenlfnjaaWf
import Derived.BigQuiet
namespace Go.Proofs.Ythokpgnenlfnjaa
open Go.RowKit Go.Sort
set_option maxRecDepth 100000 in
set_option maxHeartbeats 4000000 in
theorem findsNil_any (ys : List Snd) (u : Value) (p q : Nat) (hp : p < 256) (hq : q < 256) (w : World) (hu : Wd w u ys) (h2 : ys.length ≤ 100) : Gives 10 #[.slice none 0 0, u, .int .u8 p, .int .u8 q] w (.bool true) := by
  unfold Gives
  have hN : ∀ W, Wd W (.slice none 0 0) [] := fun W => Wd.nil W
  have DB := Lib.hid hu
  obtain ⟨bo, bc, rfl, kb, mb, -⟩ := hu.open
  have l2 := maxLen_lt (Nat.le_trans kb mb)
  clear hu kb mb
  have hw := Below.refl w.heap.size w
  have HN := Lib.hid hN
  clear hN
  have f00 : findS ([] : List Snd) [] = 0 := rfl
  have i00 : insS ([] : List Snd) [] = true := rfl
  have F00 := Lib.hid f00; have I00 := Lib.hid i00
  clear f00 i00
  rcases hy : ys with _ | ⟨y, ys'⟩
  · subst hy
    have DB : Hid (Wd w (.slice bo 0 bc) []) := DB
    clear l2 h2
    go_enter Try.func10, Try.ntmps10
    go_wp2_with (go_at_call 31; with_reducible refine Gives.then (Gives.eq (find_any [] [] _ _ _ (by simp) (HN.out _) (DB.out.below hw)) rfl (by rw [F00.out])) ?_; intro w1 hb; have hw := hw.trans (hb.mono hw.size); clear hb)
    go_loopw [10] (fun i wr => (i = .int .i64 0 ∨ i = .int .i64 1) ∧ Below w.heap.size w wr) (fun i _ => 2 - (intOf i).toNat)
    case atStart => exact ⟨.inl rfl, hw⟩
    case round =>
      clear hw
      obtain ⟨hi, hw⟩ := hrel
      rcases hi with rfl | rfl
      · go_wp2_with (go_at_call 42; with_reducible refine Gives.then (Gives.eq (same_any [] [] _ _ _ (HN.out _) (DB.out.below hw)) rfl (v' := .bool true) (by simp)) ?_; intro w1 hb; have hw := hw.trans (hb.mono hw.size); clear hb)
        go_roundw
        case rel => exact ⟨.inr rfl, hw⟩
        case measure => simp [intOf]
      · go_wp2_with fail
        go_quiet (fail)
        have hw1 : Below w.heap.size w (wr.drewN nq) := ⟨hw.os, hw.tape, hw.output, hw.size, hw.block⟩
        clear hw
        generalize wr.drewN nq = wd at *
        have hw := hw1
        clear hw1
        go_wp2_with (first | (go_at_call 31; with_reducible refine Gives.then (Gives.eq (find_any [] [] _ _ _ (by simp) (HN.out _) (HN.out _)) rfl (by rw [F00.out])) ?_; intro w1 hb; have hw := hw.trans (hb.mono hw.size); clear hb) | (go_at_call 33; with_reducible refine Gives.then (Gives.eq (inside_any [] [] _ _ _ (by simp) (HN.out _) (HN.out _)) rfl (by rw [I00.out])) ?_; intro w1 hb; have hw := hw.trans (hb.mono hw.size); clear hb) | (go_at_call 33; with_reducible refine Gives.then (Gives.eq (inside_any [] [] _ _ _ (by simp) (DB.out.below hw) (HN.out _)) rfl (by rw [I00.out])) ?_; intro w1 hb; have hw := hw.trans (hb.mono hw.size); clear hb) | (go_at_call 15; with_reducible refine Gives.then (works_any _) ?_; intro w1 hb; have hw := hw.trans (hb.mono hw.size); clear hb))
        go_returns
        exact ⟨by first | rfl | (simp; done), hw⟩
  · subst hy
    have f01 : findS [] (y :: ys') = -1 := (find_end (xs := []) (ys := y :: ys') (k := 0) (by simp))
    have F01 := Lib.hid f01
    clear f01
    have HL := Lib.hid (show (y :: ys').length = ys'.length + 1 from rfl)
    generalize hn : (y :: ys').length = n at *
    have hn1 : 0 < n := by have := HL.out; omega
    clear hn HL
    go_enter Try.func10, Try.ntmps10
    go_wp2_with (go_at_call 31; with_reducible refine Gives.then (Gives.eq (find_any [] _ _ _ _ (by simp) (HN.out _) (DB.out.below hw)) rfl (by rw [F01.out])) ?_; intro w1 hb; have hw := hw.trans (hb.mono hw.size); clear hb)
    go_loopw [10] (fun i wr => i = .int .i64 0 ∧ Below w.heap.size w wr) (fun _ _ => 0)
    case atStart => exact ⟨rfl, hw⟩
    case round =>
      clear hw
      obtain ⟨rfl, hw⟩ := hrel
      go_wp2_with fail
      go_quiet (fail)
      have hw1 : Below w.heap.size w (wr.drewN nq) := ⟨hw.os, hw.tape, hw.output, hw.size, hw.block⟩
      clear hw
      generalize wr.drewN nq = wd at *
      have hw := hw1
      clear hw1
      go_wp2_with (first | (go_at_call 31; with_reducible refine Gives.then (Gives.eq (find_any [] [] _ _ _ (by simp) (HN.out _) (HN.out _)) rfl (by rw [F00.out])) ?_; intro w1 hb; have hw := hw.trans (hb.mono hw.size); clear hb) | (go_at_call 33; with_reducible refine Gives.then (Gives.eq (inside_any [] [] _ _ _ (by simp) (HN.out _) (HN.out _)) rfl (by rw [I00.out])) ?_; intro w1 hb; have hw := hw.trans (hb.mono hw.size); clear hb) | (go_at_call 15; with_reducible refine Gives.then (works_any _) ?_; intro w1 hb; have hw := hw.trans (hb.mono hw.size); clear hb))
      go_returns
      exact ⟨by first | rfl | (simp; done), hw⟩
set_option maxRecDepth 100000 in
set_option maxHeartbeats 4000000 in
theorem finds_any (xs ys : List Snd) (v u : Value) (p q : Nat) (hp : p < 256) (hq : q < 256) (w : World) (h : Wd w v xs) (hu : Wd w u ys) : Gives 10 #[v, u, .int .u8 p, .int .u8 q] w (.bool true) := by
  by_cases h1 : xs.length ≤ 100
  · by_cases h2 : ys.length ≤ 100
    · rcases h with ⟨rfl, rfl⟩ | ⟨b, off, cap, rfl, c1, m1, lb, h3⟩
      · exact findsNil_any ys u p q hp hq w hu h2
      · exact findsMem_any xs ys b off cap u p q hp hq w c1 m1 lb h3 hu h1 h2
    · unfold Gives
      have hw := Below.refl w.heap.size w
      obtain ⟨ao, ac, rfl, ka, ma, -⟩ := h.open
      obtain ⟨bo, bc, rfl, kb, mb, -⟩ := hu.open
      have l1 := maxLen_lt (Nat.le_trans ka ma)
      have l2 := maxLen_lt (Nat.le_trans kb mb)
      clear h hu ka ma kb mb
      go_enter Try.func10, Try.ntmps10
      go_wp2_with (go_at_call 15; with_reducible refine Gives.then (works_any _) ?_; intro w1 hb; have hw := hw.trans (hb.mono hw.size); clear hb)
      go_returns
      exact ⟨rfl, hw⟩
  · unfold Gives
    have hw := Below.refl w.heap.size w
    obtain ⟨ao, ac, rfl, ka, ma, -⟩ := h.open
    obtain ⟨bo, bc, rfl, kb, mb, -⟩ := hu.open
    have l1 := maxLen_lt (Nat.le_trans ka ma)
    have l2 := maxLen_lt (Nat.le_trans kb mb)
    clear h hu ka ma kb mb
    go_enter Try.func10, Try.ntmps10
    go_wp2_with (go_at_call 15; with_reducible refine Gives.then (works_any _) ?_; intro w1 hb; have hw := hw.trans (hb.mono hw.size); clear hb)
    go_returns
    exact ⟨rfl, hw⟩
end Go.Proofs.Ythokpgnenlfnjaa
