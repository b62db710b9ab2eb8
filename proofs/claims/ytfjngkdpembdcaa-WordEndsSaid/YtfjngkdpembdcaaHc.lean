/-
  The words that the examples are made of: sound and spell.
-/
import Derived.Test.YtfjngkdpembdcaaHb
import Derived.RangeFuncBox
namespace Go.Proofs.Ytfjngkdpembdcaa
open Go.RowKit Go.Sort
/-- The sound that sound(k) returns. -/
def sd : Nat → Snd
  | 0 => (1#32, 16#32)
  | 1 => (2#32, 32#32)
  | _ => (4#32, 64#32)
/-- The sounds of a text. -/
def spellS (l : List UInt8) : List Snd := l.map fun c => if c = 112 then sd 0 else if c = 97 then sd 1 else sd 2
theorem sound0 (w : World) : Gives 36 #[.int .i64 0] w (sn 1 16) := by
  unfold Gives
  go_enter Try.func36, Try.ntmps36
  go_wp2
  go_region
  go_wp2
  refine bodyPost_ret (v := sn 1 16) (by simp [results, Try.results36, go_sem, sn]) rfl ⟨rfl, by go_grown⟩
theorem sound1 (w : World) : Gives 36 #[.int .i64 1] w (sn 2 32) := by
  unfold Gives
  go_enter Try.func36, Try.ntmps36
  go_wp2
  go_region
  go_wp2
  refine bodyPost_ret (v := sn 2 32) (by simp [results, Try.results36, go_sem, sn]) rfl ⟨rfl, by go_grown⟩
theorem sound2 (w : World) : Gives 36 #[.int .i64 2] w (sn 4 64) := by
  unfold Gives
  go_enter Try.func36, Try.ntmps36
  go_wp2
  go_region
  go_wp2
  refine bodyPost_ret (v := sn 4 64) (by simp [results, Try.results36, go_sem, sn]) rfl ⟨rfl, by go_grown⟩
/-- A word of one sound, in a block that was just laid. -/
theorem one_new (w : World) (p m : Int) (a b : BitVec 32) (ha : (a.toNat : Int) = p) (hb : (b.toNat : Int) = m) : Wd (w.alloc (.cells #[.int .u32 p, .int .u32 m] 32 (0, 0))) (.slice (some ⟨w.heap.size, 0, none⟩) 1 1) [(a, b)] := by
  refine .inr ⟨w.heap.size, 0, 1, rfl, by simp, by decide, by rw [World.size_alloc]; omega, fun i hi => ?_⟩
  match i, hi with
  | 0, _ => exact ⟨by rw [← ha]; exact cell_block (World.alloc_heap_new w _) rfl, by rw [← hb]; exact cell_block (World.alloc_heap_new w _) rfl⟩
theorem spell_step {l : List UInt8} {k : Nat} {c : UInt8} (hlt : k < l.length) (hc : l[k] = c) : spellS (l.take (k + 1)) = spellS (l.take k) ++ [if c = 112 then sd 0 else if c = 97 then sd 1 else sd 2] := by
  unfold spellS
  rw [List.take_succ_eq_append_getElem hlt, List.map_append, hc]; rfl
set_option maxHeartbeats 2000000 in
theorem spell_any (l : List UInt8) (hl : l.length ≤ 100) (w : World) : Calls Try.prog 16 #[.string ⟨l.toArray⟩] w fun e w' => ∃ v, e = .returned v ∧ Own w' w.heap.size v (spellS l) ∧ Below w.heap.size w w' := by
  go_enter Try.func16, Try.ntmps16
  go_wp2_with fail
  go_loopw [3, 4] (fun v i wr => ∃ k : Nat, k ≤ l.length ∧ i = .int .i64 (k : Int) ∧ Own wr w.heap.size v (spellS (l.take k)) ∧ Below w.heap.size w wr ∧ w.heap.size ≤ wr.heap.size) (fun _ i _ => l.length - (intOf i).toNat)
  case atStart => exact ⟨0, by omega, rfl, Own.nil _ _, Below.refl _ _, Nat.le_refl _⟩
  case round =>
    obtain ⟨k, hk, rfl, ho, hw, hsz⟩ := hrel
    by_cases hlt : k < l.length
    · have HO := Lib.hid ho; clear ho
      generalize hc : l[k] = c
      have hb : ∀ h, (ByteArray.mk l.toArray)[k]'h = c := by intro h; exact hc
      by_cases h1 : c = 112
      · subst h1
        go_wp2_with fail
        go_at_call 36
        with_reducible refine Gives.then (sound0 _) ?_
        intro w1 hb1
        have ho1 := (HO.out.below hb1).below ((Below.refl _ w1).alloc (Nat.le_refl _) (.cells #[.int .u32 1, .int .u32 16] 32 (0, 0)))
        have hw1 := (hw.trans (hb1.mono hsz)).alloc (by have := hb1.size; omega) (.cells #[.int .u32 1, .int .u32 16] 32 (0, 0))
        have hs1 : w.heap.size ≤ (w1.alloc (.cells #[.int .u32 1, .int .u32 16] 32 (0, 0))).heap.size := by have := hb1.size; rw [World.size_alloc]; omega
        go_wp2_with (at_builtin; refine wpList_app rfl (.tmp 20) (.tmp 22) 24 Try.underlying24 rfl w.heap.size _ _ _ _ rfl rfl ho1 (one_new w1 _ _ 1#32 16#32 rfl rfl) (by simp [spellS]; omega) hs1 ?_; intro v' w2 ho2 hk2 hz2)
        go_roundw
        case rel => exact ⟨k + 1, by omega, by go_num, by rw [spell_step hlt hc]; exact ho2, hk2 _ _ (Nat.le_refl _) hw1, by omega⟩
        case measure => simp [intOf]; omega
      · have n1 : ((c.toNat : Int) == 112) = false := by
          rw [beq_eq_false_iff_ne]; intro e; exact h1 (UInt8.toNat.inj (Int.ofNat.inj e))
        by_cases h2 : c = 97
        · subst h2
          go_wp2_with fail
          go_at_call 36
          with_reducible refine Gives.then (sound1 _) ?_
          intro w1 hb1
          have ho1 := (HO.out.below hb1).below ((Below.refl _ w1).alloc (Nat.le_refl _) (.cells #[.int .u32 2, .int .u32 32] 32 (0, 0)))
          have hw1 := (hw.trans (hb1.mono hsz)).alloc (by have := hb1.size; omega) (.cells #[.int .u32 2, .int .u32 32] 32 (0, 0))
          have hs1 : w.heap.size ≤ (w1.alloc (.cells #[.int .u32 2, .int .u32 32] 32 (0, 0))).heap.size := by have := hb1.size; rw [World.size_alloc]; omega
          go_wp2_with (at_builtin; refine wpList_app rfl (.tmp 26) (.tmp 28) 24 Try.underlying24 rfl w.heap.size _ _ _ _ rfl rfl ho1 (one_new w1 _ _ 2#32 32#32 rfl rfl) (by simp [spellS]; omega) hs1 ?_; intro v' w2 ho2 hk2 hz2)
          go_roundw
          case rel => exact ⟨k + 1, by omega, by go_num, by rw [spell_step hlt hc]; exact ho2, hk2 _ _ (Nat.le_refl _) hw1, by omega⟩
          case measure => simp [intOf]; omega
        · have n2 : ((c.toNat : Int) == 97) = false := by
            rw [beq_eq_false_iff_ne]; intro e; exact h2 (UInt8.toNat.inj (Int.ofNat.inj e))
          go_wp2_with fail
          go_at_call 36
          with_reducible refine Gives.then (sound2 _) ?_
          intro w1 hb1
          have ho1 := (HO.out.below hb1).below ((Below.refl _ w1).alloc (Nat.le_refl _) (.cells #[.int .u32 4, .int .u32 64] 32 (0, 0)))
          have hw1 := (hw.trans (hb1.mono hsz)).alloc (by have := hb1.size; omega) (.cells #[.int .u32 4, .int .u32 64] 32 (0, 0))
          have hs1 : w.heap.size ≤ (w1.alloc (.cells #[.int .u32 4, .int .u32 64] 32 (0, 0))).heap.size := by have := hb1.size; rw [World.size_alloc]; omega
          go_wp2_with (at_builtin; refine wpList_app rfl (.tmp 14) (.tmp 16) 24 Try.underlying24 rfl w.heap.size _ _ _ _ rfl rfl ho1 (one_new w1 _ _ 4#32 64#32 rfl rfl) (by simp [spellS]; omega) hs1 ?_; intro v' w2 ho2 hk2 hz2)
          go_roundw
          case rel => exact ⟨k + 1, by omega, by go_num, by rw [spell_step hlt hc, if_neg h1, if_neg h2]; exact ho2, hk2 _ _ (Nat.le_refl _) hw1, by omega⟩
          case measure => simp [intOf]; omega
    · obtain rfl : k = l.length := by omega
      rw [List.take_length] at ho
      go_wp2_with fail
      go_returns
      exact ⟨_, rfl, ho, hw⟩
end Go.Proofs.Ytfjngkdpembdcaa
