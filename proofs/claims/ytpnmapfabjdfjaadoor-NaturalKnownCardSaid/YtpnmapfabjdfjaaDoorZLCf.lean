/-
  Lemmas that the theorem of this claim rests on: 2 texts, one behind the other.
-/
import Derived.Test.YtpnmapfabjdfjaaDoorM19
import Derived.Test.YtpnmapfabjdfjaaDoorM6
set_option linter.unusedSimpArgs false
set_option linter.unusedVariables false

/-
  NaturalKnown: what its examples answer, computed.
-/
namespace Go.Proofs.YtpnmapfabjdfjaaDoor
open Go.RowKit Go.Sort
/-- The first sounds by their numbers. -/
def mny (k : Nat) : List Snd := (List.range k).map fun i => (BitVec.ofNat 32 i, 0#32)
theorem mny_succ (k : Nat) : mny (k + 1) = mny k ++ [(BitVec.ofNat 32 k, 0#32)] := by unfold mny; rw [List.range_succ, List.map_append]; rfl
theorem mny_len (k : Nat) : (mny k).length = k := by unfold mny; rw [List.length_map, List.length_range]
theorem mny_take (k n : Nat) (h : k ≤ n) : (mny n).take k = mny k := by unfold mny; rw [← List.map_take, List.take_range, Nat.min_eq_left h]
theorem y1 : cloE L3 [(2#32, 5#32), (5#32, 2#32), (2#32, 5#32)] = 0 := by decide +kernel
theorem y2 : cloC L3 [(2#32, 5#32), (5#32, 2#32), (2#32, 5#32)] = (0#32, 0#32) := by decide +kernel
theorem y3 : cloM L3 [(2#32, 5#32), (5#32, 2#32), (2#32, 5#32)] = [0, 1, 2] := by decide +kernel
theorem y4 : cloE L3 [] = 5 := by decide +kernel
theorem y5 : cloC L3 [] = (0#32, 0#32) := by decide +kernel
theorem y6 : cloE L3 [(2#32, 5#32), (0#32, 0#32)] = 5 := by decide +kernel
theorem y7 : cloC L3 [(2#32, 5#32), (0#32, 0#32)] = (0#32, 0#32) := by decide +kernel
/-- The bad inventory. -/
def B3 : List Snd := [(2#32, 5#32), (2#32, 5#32), (1#32, 1#32)]
theorem y8 : cloE B3 [] = 14 := by decide +kernel
theorem y9 : cloC B3 [] = (0#32, 0#32) := by decide +kernel
theorem y10 : isB [(2#32, 5#32), (2#32, 5#32)] [] = false := by decide +kernel
theorem y11 : cloE [(2#32, 5#32), (2#32, 5#32)] [] = 6 := by decide +kernel
theorem y12 : ckE (mny 257) 256 = 12 := ckE_many (by rw [mny_len]; decide)
theorem y13 : cloE (mny 257) [] = 12 := by unfold cloE; rw [y12]; rfl
theorem y14 : isB (mny 257) [] = false := by unfold isB; rw [y13]; rfl
theorem y15 : shoS (mny 257) [] = (0#32, 0#32) := by unfold shoS; rw [y14]; rfl
theorem y16 : isB L3 L3 = true := by decide +kernel
theorem y17 : cloE L3 L3 = 0 := by decide +kernel
theorem y18 : shoS L3 L3 = (0#32, 0#32) := by decide +kernel
theorem y19 : isB L3 [(2#32, 5#32), (5#32, 2#32)] = false := by decide +kernel
theorem y20 : cloE L3 [(2#32, 5#32), (5#32, 2#32)] = 0 := by decide +kernel
theorem y21 : shoS L3 [(2#32, 5#32), (5#32, 2#32)] = (0#32, 0#32) := by decide +kernel
theorem y22 : selE L3 (1#32, 0#32) = 0 := by decide +kernel
theorem y23 : selM L3 (1#32, 0#32) = [1, 2] := by decide +kernel
theorem y24 : selE L3 (16777216#32, 0#32) = 14 := by decide +kernel
theorem y25 : ckE (mny 13) 12 = 12 := ckE_many (by rw [mny_len]; decide)
theorem y26 : cntN [] = 0 := by decide +kernel
theorem y27 : ckE [] 12 = 0 := by decide +kernel
theorem y28 : ckE (mny 256) 256 = 0 := by decide +kernel
/-- A word of three sounds in a block of its own. -/
theorem wd_cells3 {W : World} {B : Nat} {T : TypeId} {a b c d e f : BitVec 32} (h : W.heap[B]? = some (.cells #[.int .u32 (a.toNat : Int), .int .u32 (b.toNat : Int), .int .u32 (c.toNat : Int), .int .u32 (d.toNat : Int), .int .u32 (e.toNat : Int), .int .u32 (f.toNat : Int)] T)) :
    Wd W (.slice (some ⟨B, 0, none⟩) 3 3) [(a, b), (c, d), (e, f)] ∧ Wd W (.slice (some ⟨B, 0, none⟩) 2 3) [(a, b), (c, d)] := by
  have hl := (Array.getElem?_eq_some_iff.1 h).1
  refine ⟨.inr ⟨B, 0, 3, rfl, by simp, by decide, hl, fun i hi => ?_⟩, .inr ⟨B, 0, 3, rfl, by simp, by decide, hl, fun i hi => ?_⟩⟩
  · match i, hi with
    | 0, _ => exact ⟨cell_block h rfl, cell_block h rfl⟩
    | 1, _ => exact ⟨cell_block h rfl, cell_block h rfl⟩
    | 2, _ => exact ⟨cell_block h rfl, cell_block h rfl⟩
    | n + 3, h => exact absurd h (by simp)
  · match i, hi with
    | 0, _ => exact ⟨cell_block h rfl, cell_block h rfl⟩
    | 1, _ => exact ⟨cell_block h rfl, cell_block h rfl⟩
    | n + 2, h => exact absurd h (by simp)
theorem wd_cells2 {W : World} {B : Nat} {T : TypeId} {a b c d : BitVec 32} (h : W.heap[B]? = some (.cells #[.int .u32 (a.toNat : Int), .int .u32 (b.toNat : Int), .int .u32 (c.toNat : Int), .int .u32 (d.toNat : Int)] T)) : Wd W (.slice (some ⟨B, 0, none⟩) 2 2) [(a, b), (c, d)] :=
  .inr ⟨B, 0, 2, rfl, by simp, by decide, (Array.getElem?_eq_some_iff.1 h).1, fun i hi => match i, hi with
    | 0, _ => ⟨cell_block h rfl, cell_block h rfl⟩
    | 1, _ => ⟨cell_block h rfl, cell_block h rfl⟩
    | n + 2, h => absurd h (by simp)⟩
theorem is_cells3 {W : World} {B : Nat} {T : TypeId} {a b c : Nat} (h : W.heap[B]? = some (.cells #[.int .i64 (a : Int), .int .i64 (b : Int), .int .i64 (c : Int)] T)) : Is W (.slice (some ⟨B, 0, none⟩) 3 3) [a, b, c] :=
  .inr ⟨B, 3, rfl, by simp, by decide, (Array.getElem?_eq_some_iff.1 h).1, fun i hi => match i, hi with
    | 0, _ => cell_block h rfl
    | 1, _ => cell_block h rfl
    | 2, _ => cell_block h rfl
    | n + 3, h => absurd h (by simp)⟩
theorem is_cells2 {W : World} {B : Nat} {T : TypeId} {a b : Nat} (h : W.heap[B]? = some (.cells #[.int .i64 (a : Int), .int .i64 (b : Int)] T)) : Is W (.slice (some ⟨B, 0, none⟩) 2 2) [a, b] :=
  .inr ⟨B, 2, rfl, by simp, by decide, (Array.getElem?_eq_some_iff.1 h).1, fun i hi => match i, hi with
    | 0, _ => cell_block h rfl
    | 1, _ => cell_block h rfl
    | n + 2, h => absurd h (by simp)⟩
theorem app_k {W : World} {base k : Nat} {v : Value} (hk : k < 257) (h : Own W base v (mny k)) (hb : base ≤ W.heap.size) :
    Own (W.alloc (.cells #[.int .u32 (k : Int), .int .u32 0] 27)) base v (mny k) ∧ Wd (W.alloc (.cells #[.int .u32 (k : Int), .int .u32 0] 27)) (.slice (some ⟨W.heap.size, 0, none⟩) 1 1) [(BitVec.ofNat 32 k, 0#32)] ∧ base ≤ (W.alloc (.cells #[.int .u32 (k : Int), .int .u32 0] 27)).heap.size := by
  have e : ((BitVec.ofNat 32 k).toNat : Int) = (k : Int) := by rw [BitVec.toNat_ofNat, Nat.mod_eq_of_lt (by omega)]
  have h := app_one h hb (BitVec.ofNat 32 k, 0#32)
  simp only [e] at h
  exact ⟨h.1, h.2.1, h.2.2.1⟩
/-- The many sounds, and their beginnings. -/
theorem many_three {W : World} {base : Nat} {v : Value} (h : Own W base v (mny 257)) : ∃ g off cap, v = .slice (some ⟨g, off, none⟩) 257 cap ∧ 257 ≤ cap ∧ cap ≤ maxLen ∧ Wd W (.slice (some ⟨g, off, none⟩) 257 cap) (mny 257) ∧ Wd W (.slice (some ⟨g, off, none⟩) 256 cap) (mny 256) ∧ Wd W (.slice (some ⟨g, off, none⟩) 13 cap) (mny 13) := by
  have hw := h.wd
  rcases h.wd with ⟨-, h0⟩ | ⟨b, off, cap, rfl, hc, hm, hb, h3⟩
  · have := mny_len 257; rw [h0] at this; simp at this
  · have t1 := Wd.take (A := 256) (by rw [mny_len]; decide) hc hm hb h3
    have t2 := Wd.take (A := 13) (by rw [mny_len]; decide) hc hm hb h3
    rw [mny_take _ _ (by decide)] at t1 t2
    rw [mny_len] at hw hc
    refine ⟨b, off, cap, by rw [mny_len], hc, hm, hw, t1, t2⟩
end Go.Proofs.YtpnmapfabjdfjaaDoor

/-
  NaturalKnown.
-/
namespace Go.Proofs.YtpnmapfabjdfjaaDoor
open Go.RowKit Go.Sort
set_option maxRecDepth 100000 in
set_option maxHeartbeats 8000000 in
theorem known_any (w0 : World) (hT : Tab w0) (lT : 0 < w0.heap.size) : Gives 12 #[] w0 (.bool true) := by
  unfold Gives
  have HT := Lib.hid hT; have LT := Lib.hid lT; have HB0 := Lib.hid (Below.refl w0.heap.size w0)
  clear hT lT
  go_enter Tryd.func12, Tryd.ntmps12
  go_wp2_with fail
  go_at_call 43
  (with_reducible refine Gives.then (p_any _) ?_)
  intro w1 hbw1
  have HBw1 := Lib.hid (HB0.out.trans (hbw1.mono HB0.out.size))
  clear hbw1
  go_wp2_with fail
  go_at_call 44
  (with_reducible refine Gives.then (b_any _) ?_)
  intro w2 hbw2
  have HBw2 := Lib.hid (HBw1.out.trans (hbw2.mono HBw1.out.size))
  clear hbw2
  go_wp2_with fail
  go_at_call 45
  (with_reducible refine Gives.then (a_any _) ?_)
  intro w3 hbw3
  have HBw3 := Lib.hid (HBw2.out.trans (hbw3.mono HBw2.out.size))
  clear hbw3
  have k := World.alloc_heap_new w3 (.cells #[.int .u32 2, .int .u32 5, .int .u32 3, .int .u32 4, .int .u32 5, .int .u32 2] 27)
  have hbw4 : Below w3.heap.size w3 (w3.alloc (.cells #[.int .u32 2, .int .u32 5, .int .u32 3, .int .u32 4, .int .u32 5, .int .u32 2] 27)) := (Below.refl _ _).alloc (Nat.le_refl _) _
  go_wp2_with fail
  generalize w3.alloc (.cells #[.int .u32 2, .int .u32 5, .int .u32 3, .int .u32 4, .int .u32 5, .int .u32 2] 27) = w4 at *
  have HBw4 := Lib.hid (HBw3.out.trans (hbw4.mono HBw3.out.size))
  clear hbw4
  have KA := Lib.hid k
  clear k
  generalize w3.heap.size = BA at *
  go_at_call 43
  (with_reducible refine Gives.then (p_any _) ?_)
  intro w5 hbw5
  have HBw5 := Lib.hid (HBw4.out.trans (hbw5.mono HBw4.out.size))
  have KA := Lib.hid ((hbw5.block _ (Array.getElem?_eq_some_iff.1 KA.out).1).trans KA.out)
  clear hbw5
  go_wp2_with fail
  go_at_call 43
  (with_reducible refine Gives.then (p_any _) ?_)
  intro w6 hbw6
  have HBw6 := Lib.hid (HBw5.out.trans (hbw6.mono HBw5.out.size))
  have KA := Lib.hid ((hbw6.block _ (Array.getElem?_eq_some_iff.1 KA.out).1).trans KA.out)
  clear hbw6
  have k := World.alloc_heap_new w6 (.cells #[.int .u32 2, .int .u32 5, .int .u32 2, .int .u32 5, .int .u32 1, .int .u32 1] 27)
  have hbw7 : Below w6.heap.size w6 (w6.alloc (.cells #[.int .u32 2, .int .u32 5, .int .u32 2, .int .u32 5, .int .u32 1, .int .u32 1] 27)) := (Below.refl _ _).alloc (Nat.le_refl _) _
  go_wp2_with fail
  generalize w6.alloc (.cells #[.int .u32 2, .int .u32 5, .int .u32 2, .int .u32 5, .int .u32 1, .int .u32 1] 27) = w7 at *
  have HBw7 := Lib.hid (HBw6.out.trans (hbw7.mono HBw6.out.size))
  have KA := Lib.hid ((hbw7.block _ (Array.getElem?_eq_some_iff.1 KA.out).1).trans KA.out)
  clear hbw7
  have KD := Lib.hid k
  clear k
  generalize w6.heap.size = BD at *
  go_loopw [3, 48] (fun u i wr => ∃ k : Nat, k ≤ 257 ∧ i = .int .u32 (k : Int) ∧ Own wr w7.heap.size u (mny k) ∧ Below w7.heap.size w7 wr) (fun _ i _ => 257 - (intOf i).toNat)
  case atStart => exact ⟨0, by omega, rfl, Own.nil _ _, Below.refl _ _⟩
  case round =>
  obtain ⟨k, hk, rfl, ho, hw⟩ := hrel
  obtain ⟨oa, oc, hov, -⟩ := ho.wd.open
  rw [mny_len] at hov
  subst hov
  by_cases hlt : k < 257
  · have hap := app_k hlt ho hw.size
    have hw1 : IntKind.u32.wrap ((k : Int) + 1) = (k : Int) + 1 := by rw [IntKind.wrap_u32]; omega
    have hk3 : (k : Int) < 257 := by omega
    have HO3 := Lib.hid hap.1; have HWO := Lib.hid hap.2.1; have HBS := Lib.hid hap.2.2; have HW3 := Lib.hid (hw.alloc hw.size (.cells #[.int .u32 (k : Int), .int .u32 0] 27))
    clear hap ho hw
    go_wp2_with (at_builtin; go_loud (refine wpList_app rfl (.tmp 51) (.tmp 54) 22 Tryd.underlying22 rfl w7.heap.size _ _ _ _ rfl rfl HO3.out HWO.out (by rw [mny_len]; simp; omega) HBS.out ?_; intro v4 w4 ho4 hk4 hz4; have HO4 := Lib.hid ho4; have HW4 := Lib.hid (hk4 _ _ (Nat.le_refl _) HW3.out); clear ho4 hk4 hz4))
    go_roundw
    case rel => exact ⟨k + 1, by omega, by go_num, by rw [mny_succ]; exact HO4.out, HW4.out⟩
    case measure => simp [intOf]; omega
  · obtain rfl : k = 257 := by omega
    obtain ⟨g, off, cap, hv, hc1, hc2, hm1, hm2, hm3⟩ := many_three ho
    obtain ⟨rfl, -, rfl⟩ : oa = some ⟨g, off, none⟩ ∧ 257 = 257 ∧ oc = cap := by injection hv with a b c; exact ⟨a, b, c⟩
    have HV := Lib.hid hm1; have HV2 := Lib.hid hm2; have HV3 := Lib.hid hm3; have HC1 := Lib.hid hc1; have HC2 := Lib.hid hc2
    clear hm1 hm2 hm3 ho hv hc1 hc2 hlt hk
    have hbwr := hw
    clear hw
    have HBR := Lib.hid (HBw7.out.trans (hbwr.mono HBw7.out.size))
    have KA := Lib.hid ((hbwr.block _ (Array.getElem?_eq_some_iff.1 KA.out).1).trans KA.out)
    have KD := Lib.hid ((hbwr.block _ (Array.getElem?_eq_some_iff.1 KD.out).1).trans KD.out)
    clear hbwr
    go_wp2_with fail
    go_at_call 43
    (with_reducible refine Gives.then (p_any _) ?_)
    intro w8 hbw8
    have HBw8 := Lib.hid (HBR.out.trans (hbw8.mono HBR.out.size))
    have KA := Lib.hid ((hbw8.block _ (Array.getElem?_eq_some_iff.1 KA.out).1).trans KA.out)
    have KD := Lib.hid ((hbw8.block _ (Array.getElem?_eq_some_iff.1 KD.out).1).trans KD.out)
    have HV := Lib.hid (HV.out.below hbw8)
    have HV2 := Lib.hid (HV2.out.below hbw8)
    have HV3 := Lib.hid (HV3.out.below hbw8)
    clear hbw8
    go_wp2_with fail
    go_at_call 45
    (with_reducible refine Gives.then (a_any _) ?_)
    intro w9 hbw9
    have HBw9 := Lib.hid (HBw8.out.trans (hbw9.mono HBw8.out.size))
    have KA := Lib.hid ((hbw9.block _ (Array.getElem?_eq_some_iff.1 KA.out).1).trans KA.out)
    have KD := Lib.hid ((hbw9.block _ (Array.getElem?_eq_some_iff.1 KD.out).1).trans KD.out)
    have HV := Lib.hid (HV.out.below hbw9)
    have HV2 := Lib.hid (HV2.out.below hbw9)
    have HV3 := Lib.hid (HV3.out.below hbw9)
    clear hbw9
    go_wp2_with fail
    go_at_call 43
    (with_reducible refine Gives.then (p_any _) ?_)
    intro w10 hbw10
    have HBw10 := Lib.hid (HBw9.out.trans (hbw10.mono HBw9.out.size))
    have KA := Lib.hid ((hbw10.block _ (Array.getElem?_eq_some_iff.1 KA.out).1).trans KA.out)
    have KD := Lib.hid ((hbw10.block _ (Array.getElem?_eq_some_iff.1 KD.out).1).trans KD.out)
    have HV := Lib.hid (HV.out.below hbw10)
    have HV2 := Lib.hid (HV2.out.below hbw10)
    have HV3 := Lib.hid (HV3.out.below hbw10)
    clear hbw10
    have k := World.alloc_heap_new w10 (.cells #[.int .u32 2, .int .u32 5, .int .u32 5, .int .u32 2, .int .u32 2, .int .u32 5] 27)
    have hbw11 : Below w10.heap.size w10 (w10.alloc (.cells #[.int .u32 2, .int .u32 5, .int .u32 5, .int .u32 2, .int .u32 2, .int .u32 5] 27)) := (Below.refl _ _).alloc (Nat.le_refl _) _
    go_wp2_with fail
    generalize w10.alloc (.cells #[.int .u32 2, .int .u32 5, .int .u32 5, .int .u32 2, .int .u32 2, .int .u32 5] 27) = w11 at *
    have HBw11 := Lib.hid (HBw10.out.trans (hbw11.mono HBw10.out.size))
    have KA := Lib.hid ((hbw11.block _ (Array.getElem?_eq_some_iff.1 KA.out).1).trans KA.out)
    have KD := Lib.hid ((hbw11.block _ (Array.getElem?_eq_some_iff.1 KD.out).1).trans KD.out)
    have HV := Lib.hid (HV.out.below hbw11)
    have HV2 := Lib.hid (HV2.out.below hbw11)
    have HV3 := Lib.hid (HV3.out.below hbw11)
    clear hbw11
    have K9 := Lib.hid k
    clear k
    generalize w10.heap.size = B9 at *
    have hc : Calls Tryd.prog 15 #[.slice (some ⟨BA, 0, none⟩) 3 3, .slice (some ⟨B9, 0, none⟩) 3 3] w11 fun e w' => ∃ m, e = .returned (.tuple #[.agg #[.int .u32 0, .int .u32 0], m, .int .i64 0]) ∧ OwnI w' w11.heap.size m ([0, 1, 2]) ∧ Below w11.heap.size w11 w' := by
      have h := closure_any L3 [(2#32, 5#32), (5#32, 2#32), (2#32, 5#32)] _ _ w11 (wd_three KA.out).1 (wd_cells3 (a := 2#32) (b := 5#32) (c := 5#32) (d := 2#32) (e := 2#32) (f := 5#32) K9.out).1
      rw [y1, y2, y3] at h
      exact h
    have HC := Lib.hid hc
    clear hc
    go_at_call 15
    refine HC.out.mono ?_
    rintro e w12 ⟨mw12, rfl, how12, hbw12⟩
    clear HC
    obtain ⟨a6, c6, hm⟩ : ∃ a c, mw12 = .slice a 3 c := how12.slice
    subst hm
    have I6 := Lib.hid how12.is
    clear how12
    have HBw12 := Lib.hid (HBw11.out.trans (hbw12.mono HBw11.out.size))
    have KA := Lib.hid ((hbw12.block _ (Array.getElem?_eq_some_iff.1 KA.out).1).trans KA.out)
    have KD := Lib.hid ((hbw12.block _ (Array.getElem?_eq_some_iff.1 KD.out).1).trans KD.out)
    have HV := Lib.hid (HV.out.below hbw12)
    have HV2 := Lib.hid (HV2.out.below hbw12)
    have HV3 := Lib.hid (HV3.out.below hbw12)
    have K9 := Lib.hid ((hbw12.block _ (Array.getElem?_eq_some_iff.1 K9.out).1).trans K9.out)
    clear hbw12
    clear K9
    have k := World.alloc_heap_new w12 (.cells #[.int .u32 0, .int .u32 0] 27)
    have hbw13 : Below w12.heap.size w12 (w12.alloc (.cells #[.int .u32 0, .int .u32 0] 27)) := (Below.refl _ _).alloc (Nat.le_refl _) _
    go_wp2_with fail
    generalize w12.alloc (.cells #[.int .u32 0, .int .u32 0] 27) = w13 at *
    have HBw13 := Lib.hid (HBw12.out.trans (hbw13.mono HBw12.out.size))
    have KA := Lib.hid ((hbw13.block _ (Array.getElem?_eq_some_iff.1 KA.out).1).trans KA.out)
    have KD := Lib.hid ((hbw13.block _ (Array.getElem?_eq_some_iff.1 KD.out).1).trans KD.out)
    have HV := Lib.hid (HV.out.below hbw13)
    have HV2 := Lib.hid (HV2.out.below hbw13)
    have HV3 := Lib.hid (HV3.out.below hbw13)
    have I6 := Lib.hid (I6.out.below hbw13)
    clear hbw13
    have K5 := Lib.hid k
    clear k
    generalize w12.heap.size = B5 at *
    have hc : Calls Tryd.prog 15 #[.slice (some ⟨BA, 0, none⟩) 3 3, .slice none 0 0] w13 fun e w' => ∃ m, e = .returned (.tuple #[.agg #[.int .u32 0, .int .u32 0], m, .int .i64 5]) ∧ OwnI w' w13.heap.size m (cloM L3 []) ∧ Below w13.heap.size w13 w' := by
      have h := closure_any L3 [] _ _ w13 (wd_three KA.out).1 (Wd.nil _)
      rw [y4, y5] at h
      exact h
    have HC := Lib.hid hc
    clear hc
    go_at_call 15
    refine HC.out.mono ?_
    rintro e w14 ⟨mw14, rfl, how14, hbw14⟩
    clear HC
    clear how14
    have HBw14 := Lib.hid (HBw13.out.trans (hbw14.mono HBw13.out.size))
    have KA := Lib.hid ((hbw14.block _ (Array.getElem?_eq_some_iff.1 KA.out).1).trans KA.out)
    have KD := Lib.hid ((hbw14.block _ (Array.getElem?_eq_some_iff.1 KD.out).1).trans KD.out)
    have HV := Lib.hid (HV.out.below hbw14)
    have HV2 := Lib.hid (HV2.out.below hbw14)
    have HV3 := Lib.hid (HV3.out.below hbw14)
    have I6 := Lib.hid (I6.out.below hbw14)
    have K5 := Lib.hid ((hbw14.block _ (Array.getElem?_eq_some_iff.1 K5.out).1).trans K5.out)
    clear hbw14
    have k := World.alloc_heap_new w14 (.cells #[.int .u32 0, .int .u32 0] 27)
    have hbw15 : Below w14.heap.size w14 (w14.alloc (.cells #[.int .u32 0, .int .u32 0] 27)) := (Below.refl _ _).alloc (Nat.le_refl _) _
    go_wp2_with fail
    generalize w14.alloc (.cells #[.int .u32 0, .int .u32 0] 27) = w15 at *
    have HBw15 := Lib.hid (HBw14.out.trans (hbw15.mono HBw14.out.size))
    have KA := Lib.hid ((hbw15.block _ (Array.getElem?_eq_some_iff.1 KA.out).1).trans KA.out)
    have KD := Lib.hid ((hbw15.block _ (Array.getElem?_eq_some_iff.1 KD.out).1).trans KD.out)
    have HV := Lib.hid (HV.out.below hbw15)
    have HV2 := Lib.hid (HV2.out.below hbw15)
    have HV3 := Lib.hid (HV3.out.below hbw15)
    have I6 := Lib.hid (I6.out.below hbw15)
    have K5 := Lib.hid ((hbw15.block _ (Array.getElem?_eq_some_iff.1 K5.out).1).trans K5.out)
    clear hbw15
    clear k
    go_at_call 43
    (with_reducible refine Gives.then (p_any _) ?_)
    intro w16 hbw16
    have HBw16 := Lib.hid (HBw15.out.trans (hbw16.mono HBw15.out.size))
    have KA := Lib.hid ((hbw16.block _ (Array.getElem?_eq_some_iff.1 KA.out).1).trans KA.out)
    have KD := Lib.hid ((hbw16.block _ (Array.getElem?_eq_some_iff.1 KD.out).1).trans KD.out)
    have HV := Lib.hid (HV.out.below hbw16)
    have HV2 := Lib.hid (HV2.out.below hbw16)
    have HV3 := Lib.hid (HV3.out.below hbw16)
    have I6 := Lib.hid (I6.out.below hbw16)
    have K5 := Lib.hid ((hbw16.block _ (Array.getElem?_eq_some_iff.1 K5.out).1).trans K5.out)
    clear hbw16
    have k := World.alloc_heap_new w16 (.cells #[.int .u32 2, .int .u32 5, .int .u32 0, .int .u32 0] 27)
    have hbw17 : Below w16.heap.size w16 (w16.alloc (.cells #[.int .u32 2, .int .u32 5, .int .u32 0, .int .u32 0] 27)) := (Below.refl _ _).alloc (Nat.le_refl _) _
    go_wp2_with fail
    generalize w16.alloc (.cells #[.int .u32 2, .int .u32 5, .int .u32 0, .int .u32 0] 27) = w17 at *
    have HBw17 := Lib.hid (HBw16.out.trans (hbw17.mono HBw16.out.size))
    have KA := Lib.hid ((hbw17.block _ (Array.getElem?_eq_some_iff.1 KA.out).1).trans KA.out)
    have KD := Lib.hid ((hbw17.block _ (Array.getElem?_eq_some_iff.1 KD.out).1).trans KD.out)
    have HV := Lib.hid (HV.out.below hbw17)
    have HV2 := Lib.hid (HV2.out.below hbw17)
    have HV3 := Lib.hid (HV3.out.below hbw17)
    have I6 := Lib.hid (I6.out.below hbw17)
    have K5 := Lib.hid ((hbw17.block _ (Array.getElem?_eq_some_iff.1 K5.out).1).trans K5.out)
    clear hbw17
    have K11 := Lib.hid k
    clear k
    generalize w16.heap.size = B11 at *
    have hc : Calls Tryd.prog 15 #[.slice (some ⟨BA, 0, none⟩) 3 3, .slice (some ⟨B11, 0, none⟩) 2 2] w17 fun e w' => ∃ m, e = .returned (.tuple #[.agg #[.int .u32 0, .int .u32 0], m, .int .i64 5]) ∧ OwnI w' w17.heap.size m (cloM L3 [(2#32, 5#32), (0#32, 0#32)]) ∧ Below w17.heap.size w17 w' := by
      have h := closure_any L3 [(2#32, 5#32), (0#32, 0#32)] _ _ w17 (wd_three KA.out).1 (wd_cells2 (a := 2#32) (b := 5#32) (c := 0#32) (d := 0#32) K11.out)
      rw [y6, y7] at h
      exact h
    have HC := Lib.hid hc
    clear hc
    go_at_call 15
    refine HC.out.mono ?_
    rintro e w18 ⟨mw18, rfl, how18, hbw18⟩
    clear HC
    clear how18
    have HBw18 := Lib.hid (HBw17.out.trans (hbw18.mono HBw17.out.size))
    have KA := Lib.hid ((hbw18.block _ (Array.getElem?_eq_some_iff.1 KA.out).1).trans KA.out)
    have KD := Lib.hid ((hbw18.block _ (Array.getElem?_eq_some_iff.1 KD.out).1).trans KD.out)
    have HV := Lib.hid (HV.out.below hbw18)
    have HV2 := Lib.hid (HV2.out.below hbw18)
    have HV3 := Lib.hid (HV3.out.below hbw18)
    have I6 := Lib.hid (I6.out.below hbw18)
    have K5 := Lib.hid ((hbw18.block _ (Array.getElem?_eq_some_iff.1 K5.out).1).trans K5.out)
    have K11 := Lib.hid ((hbw18.block _ (Array.getElem?_eq_some_iff.1 K11.out).1).trans K11.out)
    clear hbw18
    clear K11
    have k := World.alloc_heap_new w18 (.cells #[.int .u32 0, .int .u32 0] 27)
    have hbw19 : Below w18.heap.size w18 (w18.alloc (.cells #[.int .u32 0, .int .u32 0] 27)) := (Below.refl _ _).alloc (Nat.le_refl _) _
    go_wp2_with fail
    generalize w18.alloc (.cells #[.int .u32 0, .int .u32 0] 27) = w19 at *
    have HBw19 := Lib.hid (HBw18.out.trans (hbw19.mono HBw18.out.size))
    have KA := Lib.hid ((hbw19.block _ (Array.getElem?_eq_some_iff.1 KA.out).1).trans KA.out)
    have KD := Lib.hid ((hbw19.block _ (Array.getElem?_eq_some_iff.1 KD.out).1).trans KD.out)
    have HV := Lib.hid (HV.out.below hbw19)
    have HV2 := Lib.hid (HV2.out.below hbw19)
    have HV3 := Lib.hid (HV3.out.below hbw19)
    have I6 := Lib.hid (I6.out.below hbw19)
    have K5 := Lib.hid ((hbw19.block _ (Array.getElem?_eq_some_iff.1 K5.out).1).trans K5.out)
    clear hbw19
    clear k
    have hc : Calls Tryd.prog 15 #[.slice (some ⟨BD, 0, none⟩) 3 3, .slice none 0 0] w19 fun e w' => ∃ m, e = .returned (.tuple #[.agg #[.int .u32 0, .int .u32 0], m, .int .i64 14]) ∧ OwnI w' w19.heap.size m (cloM B3 []) ∧ Below w19.heap.size w19 w' := by
      have h := closure_any B3 [] _ _ w19 (wd_cells3 (a := 2#32) (b := 5#32) (c := 2#32) (d := 5#32) (e := 1#32) (f := 1#32) KD.out).1 (Wd.nil _)
      rw [y8, y9] at h
      exact h
    have HC := Lib.hid hc
    clear hc
    go_at_call 15
    refine HC.out.mono ?_
    rintro e w20 ⟨mw20, rfl, how20, hbw20⟩
    clear HC
    clear how20
    have HBw20 := Lib.hid (HBw19.out.trans (hbw20.mono HBw19.out.size))
    have KA := Lib.hid ((hbw20.block _ (Array.getElem?_eq_some_iff.1 KA.out).1).trans KA.out)
    have KD := Lib.hid ((hbw20.block _ (Array.getElem?_eq_some_iff.1 KD.out).1).trans KD.out)
    have HV := Lib.hid (HV.out.below hbw20)
    have HV2 := Lib.hid (HV2.out.below hbw20)
    have HV3 := Lib.hid (HV3.out.below hbw20)
    have I6 := Lib.hid (I6.out.below hbw20)
    have K5 := Lib.hid ((hbw20.block _ (Array.getElem?_eq_some_iff.1 K5.out).1).trans K5.out)
    clear hbw20
    have k := World.alloc_heap_new w20 (.cells #[.int .u32 0, .int .u32 0] 27)
    have hbw21 : Below w20.heap.size w20 (w20.alloc (.cells #[.int .u32 0, .int .u32 0] 27)) := (Below.refl _ _).alloc (Nat.le_refl _) _
    go_wp2_with fail
    generalize w20.alloc (.cells #[.int .u32 0, .int .u32 0] 27) = w21 at *
    have HBw21 := Lib.hid (HBw20.out.trans (hbw21.mono HBw20.out.size))
    have KA := Lib.hid ((hbw21.block _ (Array.getElem?_eq_some_iff.1 KA.out).1).trans KA.out)
    have KD := Lib.hid ((hbw21.block _ (Array.getElem?_eq_some_iff.1 KD.out).1).trans KD.out)
    have HV := Lib.hid (HV.out.below hbw21)
    have HV2 := Lib.hid (HV2.out.below hbw21)
    have HV3 := Lib.hid (HV3.out.below hbw21)
    have I6 := Lib.hid (I6.out.below hbw21)
    have K5 := Lib.hid ((hbw21.block _ (Array.getElem?_eq_some_iff.1 K5.out).1).trans K5.out)
    clear hbw21
    clear k
    have hc : Gives 17 #[.slice (some ⟨BD, 0, none⟩) 2 3, .slice none 0 0] w21 (.tuple #[.bool false, .int .i64 6]) := by
      have h := is_any [(2#32, 5#32), (2#32, 5#32)] [] _ _ w21 (wd_cells3 (a := 2#32) (b := 5#32) (c := 2#32) (d := 5#32) (e := 1#32) (f := 1#32) KD.out).2 (Wd.nil _)
      rw [y10, y11] at h
      exact h
    have HC := Lib.hid hc
    clear hc
    go_at_call 17
    (with_reducible refine Gives.then HC.out ?_)
    intro w22 hbw22
    clear HC
    have HBw22 := Lib.hid (HBw21.out.trans (hbw22.mono HBw21.out.size))
    have KA := Lib.hid ((hbw22.block _ (Array.getElem?_eq_some_iff.1 KA.out).1).trans KA.out)
    have KD := Lib.hid ((hbw22.block _ (Array.getElem?_eq_some_iff.1 KD.out).1).trans KD.out)
    have HV := Lib.hid (HV.out.below hbw22)
    have HV2 := Lib.hid (HV2.out.below hbw22)
    have HV3 := Lib.hid (HV3.out.below hbw22)
    have I6 := Lib.hid (I6.out.below hbw22)
    have K5 := Lib.hid ((hbw22.block _ (Array.getElem?_eq_some_iff.1 K5.out).1).trans K5.out)
    clear hbw22
    clear KD
    go_wp2_with fail
    have hc : Gives 19 #[.slice (some ⟨g, off, none⟩) 257 oc, .slice none 0 0] w22 (.tuple #[.agg #[.int .u32 0, .int .u32 0], .bool false, .int .i64 12]) := by
      have h := shortestE_any (mny 257) [] _ _ w22 HV.out (Wd.nil _)
      rw [y13, y14, y15] at h
      exact h
    have HC := Lib.hid hc
    clear hc
    go_at_call 19
    (with_reducible refine Gives.then HC.out ?_)
    intro w23 hbw23
    clear HC
    have HBw23 := Lib.hid (HBw22.out.trans (hbw23.mono HBw22.out.size))
    have KA := Lib.hid ((hbw23.block _ (Array.getElem?_eq_some_iff.1 KA.out).1).trans KA.out)
    have HV := Lib.hid (HV.out.below hbw23)
    have HV2 := Lib.hid (HV2.out.below hbw23)
    have HV3 := Lib.hid (HV3.out.below hbw23)
    have I6 := Lib.hid (I6.out.below hbw23)
    have K5 := Lib.hid ((hbw23.block _ (Array.getElem?_eq_some_iff.1 K5.out).1).trans K5.out)
    clear hbw23
    have k := World.alloc_heap_new w23 (.cells #[.int .u32 0, .int .u32 0] 27)
    have hbw24 : Below w23.heap.size w23 (w23.alloc (.cells #[.int .u32 0, .int .u32 0] 27)) := (Below.refl _ _).alloc (Nat.le_refl _) _
    go_wp2_with fail
    generalize w23.alloc (.cells #[.int .u32 0, .int .u32 0] 27) = w24 at *
    have HBw24 := Lib.hid (HBw23.out.trans (hbw24.mono HBw23.out.size))
    have KA := Lib.hid ((hbw24.block _ (Array.getElem?_eq_some_iff.1 KA.out).1).trans KA.out)
    have HV := Lib.hid (HV.out.below hbw24)
    have HV2 := Lib.hid (HV2.out.below hbw24)
    have HV3 := Lib.hid (HV3.out.below hbw24)
    have I6 := Lib.hid (I6.out.below hbw24)
    have K5 := Lib.hid ((hbw24.block _ (Array.getElem?_eq_some_iff.1 K5.out).1).trans K5.out)
    clear hbw24
    clear k
    have hc : Gives 19 #[.slice (some ⟨BA, 0, none⟩) 3 3, .slice (some ⟨BA, 0, none⟩) 3 3] w24 (.tuple #[.agg #[.int .u32 0, .int .u32 0], .bool true, .int .i64 0]) := by
      have h := shortestE_any L3 L3 _ _ w24 (wd_three KA.out).1 (wd_three KA.out).1
      rw [y16, y17, y18] at h
      exact h
    have HC := Lib.hid hc
    clear hc
    go_at_call 19
    (with_reducible refine Gives.then HC.out ?_)
    intro w25 hbw25
    clear HC
    have HBw25 := Lib.hid (HBw24.out.trans (hbw25.mono HBw24.out.size))
    have KA := Lib.hid ((hbw25.block _ (Array.getElem?_eq_some_iff.1 KA.out).1).trans KA.out)
    have HV := Lib.hid (HV.out.below hbw25)
    have HV2 := Lib.hid (HV2.out.below hbw25)
    have HV3 := Lib.hid (HV3.out.below hbw25)
    have I6 := Lib.hid (I6.out.below hbw25)
    have K5 := Lib.hid ((hbw25.block _ (Array.getElem?_eq_some_iff.1 K5.out).1).trans K5.out)
    clear hbw25
    have k := World.alloc_heap_new w25 (.cells #[.int .u32 0, .int .u32 0] 27)
    have hbw26 : Below w25.heap.size w25 (w25.alloc (.cells #[.int .u32 0, .int .u32 0] 27)) := (Below.refl _ _).alloc (Nat.le_refl _) _
    go_wp2_with fail
    generalize w25.alloc (.cells #[.int .u32 0, .int .u32 0] 27) = w26 at *
    have HBw26 := Lib.hid (HBw25.out.trans (hbw26.mono HBw25.out.size))
    have KA := Lib.hid ((hbw26.block _ (Array.getElem?_eq_some_iff.1 KA.out).1).trans KA.out)
    have HV := Lib.hid (HV.out.below hbw26)
    have HV2 := Lib.hid (HV2.out.below hbw26)
    have HV3 := Lib.hid (HV3.out.below hbw26)
    have I6 := Lib.hid (I6.out.below hbw26)
    have K5 := Lib.hid ((hbw26.block _ (Array.getElem?_eq_some_iff.1 K5.out).1).trans K5.out)
    clear hbw26
    have K22 := Lib.hid k
    clear k
    generalize w25.heap.size = B22 at *
    go_at_call 43
    (with_reducible refine Gives.then (p_any _) ?_)
    intro w27 hbw27
    have HBw27 := Lib.hid (HBw26.out.trans (hbw27.mono HBw26.out.size))
    have KA := Lib.hid ((hbw27.block _ (Array.getElem?_eq_some_iff.1 KA.out).1).trans KA.out)
    have HV := Lib.hid (HV.out.below hbw27)
    have HV2 := Lib.hid (HV2.out.below hbw27)
    have HV3 := Lib.hid (HV3.out.below hbw27)
    have I6 := Lib.hid (I6.out.below hbw27)
    have K5 := Lib.hid ((hbw27.block _ (Array.getElem?_eq_some_iff.1 K5.out).1).trans K5.out)
    have K22 := Lib.hid ((hbw27.block _ (Array.getElem?_eq_some_iff.1 K22.out).1).trans K22.out)
    clear hbw27
    go_wp2_with fail
    go_at_call 45
    (with_reducible refine Gives.then (a_any _) ?_)
    intro w28 hbw28
    have HBw28 := Lib.hid (HBw27.out.trans (hbw28.mono HBw27.out.size))
    have KA := Lib.hid ((hbw28.block _ (Array.getElem?_eq_some_iff.1 KA.out).1).trans KA.out)
    have HV := Lib.hid (HV.out.below hbw28)
    have HV2 := Lib.hid (HV2.out.below hbw28)
    have HV3 := Lib.hid (HV3.out.below hbw28)
    have I6 := Lib.hid (I6.out.below hbw28)
    have K5 := Lib.hid ((hbw28.block _ (Array.getElem?_eq_some_iff.1 K5.out).1).trans K5.out)
    have K22 := Lib.hid ((hbw28.block _ (Array.getElem?_eq_some_iff.1 K22.out).1).trans K22.out)
    clear hbw28
    have k := World.alloc_heap_new w28 (.cells #[.int .u32 2, .int .u32 5, .int .u32 5, .int .u32 2] 27)
    have hbw29 : Below w28.heap.size w28 (w28.alloc (.cells #[.int .u32 2, .int .u32 5, .int .u32 5, .int .u32 2] 27)) := (Below.refl _ _).alloc (Nat.le_refl _) _
    go_wp2_with fail
    generalize w28.alloc (.cells #[.int .u32 2, .int .u32 5, .int .u32 5, .int .u32 2] 27) = w29 at *
    have HBw29 := Lib.hid (HBw28.out.trans (hbw29.mono HBw28.out.size))
    have KA := Lib.hid ((hbw29.block _ (Array.getElem?_eq_some_iff.1 KA.out).1).trans KA.out)
    have HV := Lib.hid (HV.out.below hbw29)
    have HV2 := Lib.hid (HV2.out.below hbw29)
    have HV3 := Lib.hid (HV3.out.below hbw29)
    have I6 := Lib.hid (I6.out.below hbw29)
    have K5 := Lib.hid ((hbw29.block _ (Array.getElem?_eq_some_iff.1 K5.out).1).trans K5.out)
    have K22 := Lib.hid ((hbw29.block _ (Array.getElem?_eq_some_iff.1 K22.out).1).trans K22.out)
    clear hbw29
    have K16 := Lib.hid k
    clear k
    generalize w28.heap.size = B16 at *
    have hc : Gives 19 #[.slice (some ⟨BA, 0, none⟩) 3 3, .slice (some ⟨B16, 0, none⟩) 2 2] w29 (.tuple #[.agg #[.int .u32 0, .int .u32 0], .bool false, .int .i64 0]) := by
      have h := shortestE_any L3 [(2#32, 5#32), (5#32, 2#32)] _ _ w29 (wd_three KA.out).1 (wd_cells2 (a := 2#32) (b := 5#32) (c := 5#32) (d := 2#32) K16.out)
      rw [y19, y20, y21] at h
      exact h
    have HC := Lib.hid hc
    clear hc
    go_at_call 19
    (with_reducible refine Gives.then HC.out ?_)
    intro w30 hbw30
    clear HC
    have HBw30 := Lib.hid (HBw29.out.trans (hbw30.mono HBw29.out.size))
    have KA := Lib.hid ((hbw30.block _ (Array.getElem?_eq_some_iff.1 KA.out).1).trans KA.out)
    have HV := Lib.hid (HV.out.below hbw30)
    have HV2 := Lib.hid (HV2.out.below hbw30)
    have HV3 := Lib.hid (HV3.out.below hbw30)
    have I6 := Lib.hid (I6.out.below hbw30)
    have K5 := Lib.hid ((hbw30.block _ (Array.getElem?_eq_some_iff.1 K5.out).1).trans K5.out)
    have K22 := Lib.hid ((hbw30.block _ (Array.getElem?_eq_some_iff.1 K22.out).1).trans K22.out)
    have K16 := Lib.hid ((hbw30.block _ (Array.getElem?_eq_some_iff.1 K16.out).1).trans K16.out)
    clear hbw30
    clear K16
    have k := World.alloc_heap_new w30 (.cells #[.int .u32 0, .int .u32 0] 27)
    have hbw31 : Below w30.heap.size w30 (w30.alloc (.cells #[.int .u32 0, .int .u32 0] 27)) := (Below.refl _ _).alloc (Nat.le_refl _) _
    go_wp2_with fail
    generalize w30.alloc (.cells #[.int .u32 0, .int .u32 0] 27) = w31 at *
    have HBw31 := Lib.hid (HBw30.out.trans (hbw31.mono HBw30.out.size))
    have KA := Lib.hid ((hbw31.block _ (Array.getElem?_eq_some_iff.1 KA.out).1).trans KA.out)
    have HV := Lib.hid (HV.out.below hbw31)
    have HV2 := Lib.hid (HV2.out.below hbw31)
    have HV3 := Lib.hid (HV3.out.below hbw31)
    have I6 := Lib.hid (I6.out.below hbw31)
    have K5 := Lib.hid ((hbw31.block _ (Array.getElem?_eq_some_iff.1 K5.out).1).trans K5.out)
    have K22 := Lib.hid ((hbw31.block _ (Array.getElem?_eq_some_iff.1 K22.out).1).trans K22.out)
    clear hbw31
    have K25 := Lib.hid k
    clear k
    generalize w30.heap.size = B25 at *
    have hc : Calls Tryd.prog 23 #[.slice (some ⟨BA, 0, none⟩) 3 3, .agg #[.int .u32 1, .int .u32 0]] w31 fun e w' => ∃ m, e = .returned (.tuple #[m, .int .i64 0]) ∧ OwnI w' w31.heap.size m [1, 2] ∧ Below w31.heap.size w31 w' := by
      have h := select_any L3 (1#32, 0#32) _ w31 (wd_three KA.out).1
      rw [y22, y23] at h
      exact h
    have HC := Lib.hid hc
    clear hc
    go_at_call 23
    refine HC.out.mono ?_
    rintro e w32 ⟨mw32, rfl, how32, hbw32⟩
    clear HC
    obtain ⟨a28, c28, hm⟩ : ∃ a c, mw32 = .slice a 2 c := how32.slice
    subst hm
    have I28 := Lib.hid how32.is
    clear how32
    have HBw32 := Lib.hid (HBw31.out.trans (hbw32.mono HBw31.out.size))
    have KA := Lib.hid ((hbw32.block _ (Array.getElem?_eq_some_iff.1 KA.out).1).trans KA.out)
    have HV := Lib.hid (HV.out.below hbw32)
    have HV2 := Lib.hid (HV2.out.below hbw32)
    have HV3 := Lib.hid (HV3.out.below hbw32)
    have I6 := Lib.hid (I6.out.below hbw32)
    have K5 := Lib.hid ((hbw32.block _ (Array.getElem?_eq_some_iff.1 K5.out).1).trans K5.out)
    have K22 := Lib.hid ((hbw32.block _ (Array.getElem?_eq_some_iff.1 K22.out).1).trans K22.out)
    have K25 := Lib.hid ((hbw32.block _ (Array.getElem?_eq_some_iff.1 K25.out).1).trans K25.out)
    clear hbw32
    go_wp2_with fail
    have b1 : (256 : Int) ≤ (oc : Int) := by have := HC1.out; omega
    have b2 : (13 : Int) ≤ (oc : Int) := by have := HC1.out; omega
    have b3 : (oc = 0) = False := by have := HC1.out; simp; omega
    have b4 : 256 ≤ oc := by have := HC1.out; omega
    have b5 : 13 ≤ oc := by have := HC1.out; omega
    have hc : Calls Tryd.prog 23 #[.slice (some ⟨BA, 0, none⟩) 3 3, .agg #[.int .u32 16777216, .int .u32 0]] w32 fun e w' => ∃ m, e = .returned (.tuple #[m, .int .i64 14]) ∧ OwnI w' w32.heap.size m (selM L3 (16777216#32, 0#32)) ∧ Below w32.heap.size w32 w' := by
      have h := select_any L3 (16777216#32, 0#32) _ w32 (wd_three KA.out).1
      rw [y24] at h
      exact h
    have HC := Lib.hid hc
    clear hc
    go_at_call 23
    refine HC.out.mono ?_
    rintro e w33 ⟨mw33, rfl, how33, hbw33⟩
    clear HC
    clear how33
    have HBw33 := Lib.hid (HBw32.out.trans (hbw33.mono HBw32.out.size))
    have KA := Lib.hid ((hbw33.block _ (Array.getElem?_eq_some_iff.1 KA.out).1).trans KA.out)
    have HV := Lib.hid (HV.out.below hbw33)
    have HV2 := Lib.hid (HV2.out.below hbw33)
    have HV3 := Lib.hid (HV3.out.below hbw33)
    have I6 := Lib.hid (I6.out.below hbw33)
    have K5 := Lib.hid ((hbw33.block _ (Array.getElem?_eq_some_iff.1 K5.out).1).trans K5.out)
    have K22 := Lib.hid ((hbw33.block _ (Array.getElem?_eq_some_iff.1 K22.out).1).trans K22.out)
    have K25 := Lib.hid ((hbw33.block _ (Array.getElem?_eq_some_iff.1 K25.out).1).trans K25.out)
    have I28 := Lib.hid (I28.out.below hbw33)
    clear hbw33
    go_wp2_with fail
    obtain ⟨z13, hz13⟩ : ∃ z, cntN (mny 13) = z := ⟨_, rfl⟩
    have hc : Gives 31 #[.slice (some ⟨g, off, none⟩) 13 oc] w33 (.tuple #[.int .i64 z13, .int .i64 12]) := by
      have h := count_any (mny 13) _ w33 HV3.out
      rw [hz13, y25] at h
      exact h
    have HC := Lib.hid hc
    clear hc
    go_at_call 31
    (with_reducible refine Gives.then HC.out ?_)
    intro w34 hbw34
    clear HC
    have HBw34 := Lib.hid (HBw33.out.trans (hbw34.mono HBw33.out.size))
    have KA := Lib.hid ((hbw34.block _ (Array.getElem?_eq_some_iff.1 KA.out).1).trans KA.out)
    have HV := Lib.hid (HV.out.below hbw34)
    have HV2 := Lib.hid (HV2.out.below hbw34)
    have HV3 := Lib.hid (HV3.out.below hbw34)
    have I6 := Lib.hid (I6.out.below hbw34)
    have K5 := Lib.hid ((hbw34.block _ (Array.getElem?_eq_some_iff.1 K5.out).1).trans K5.out)
    have K22 := Lib.hid ((hbw34.block _ (Array.getElem?_eq_some_iff.1 K22.out).1).trans K22.out)
    have K25 := Lib.hid ((hbw34.block _ (Array.getElem?_eq_some_iff.1 K25.out).1).trans K25.out)
    have I28 := Lib.hid (I28.out.below hbw34)
    clear hbw34
    clear hz13
    go_wp2_with fail
    have hc : Gives 31 #[.slice none 0 0] w34 (.tuple #[.int .i64 0, .int .i64 0]) := by
      have h := count_any [] _ w34 (Wd.nil _)
      rw [y26, y27] at h
      exact h
    have HC := Lib.hid hc
    clear hc
    go_at_call 31
    (with_reducible refine Gives.then HC.out ?_)
    intro w35 hbw35
    clear HC
    have HBw35 := Lib.hid (HBw34.out.trans (hbw35.mono HBw34.out.size))
    have KA := Lib.hid ((hbw35.block _ (Array.getElem?_eq_some_iff.1 KA.out).1).trans KA.out)
    have HV := Lib.hid (HV.out.below hbw35)
    have HV2 := Lib.hid (HV2.out.below hbw35)
    have HV3 := Lib.hid (HV3.out.below hbw35)
    have I6 := Lib.hid (I6.out.below hbw35)
    have K5 := Lib.hid ((hbw35.block _ (Array.getElem?_eq_some_iff.1 K5.out).1).trans K5.out)
    have K22 := Lib.hid ((hbw35.block _ (Array.getElem?_eq_some_iff.1 K22.out).1).trans K22.out)
    have K25 := Lib.hid ((hbw35.block _ (Array.getElem?_eq_some_iff.1 K25.out).1).trans K25.out)
    have I28 := Lib.hid (I28.out.below hbw35)
    clear hbw35
    go_wp2_with fail
    go_at_call 29
    refine (gaps_any (mny 257) _ w35 HV.out (HT.out.below HBw35.out LT.out) (Nat.lt_of_lt_of_le LT.out HBw35.out.size)).mono ?_
    rintro e w36 ⟨mw36, Y, he, hwd, -, -, hbw36⟩
    rw [y12] at he
    subst he
    clear hwd
    have HBw36 := Lib.hid (HBw35.out.trans (hbw36.mono HBw35.out.size))
    have KA := Lib.hid ((hbw36.block _ (Array.getElem?_eq_some_iff.1 KA.out).1).trans KA.out)
    have HV := Lib.hid (HV.out.below hbw36)
    have HV2 := Lib.hid (HV2.out.below hbw36)
    have HV3 := Lib.hid (HV3.out.below hbw36)
    have I6 := Lib.hid (I6.out.below hbw36)
    have K5 := Lib.hid ((hbw36.block _ (Array.getElem?_eq_some_iff.1 K5.out).1).trans K5.out)
    have K22 := Lib.hid ((hbw36.block _ (Array.getElem?_eq_some_iff.1 K22.out).1).trans K22.out)
    have K25 := Lib.hid ((hbw36.block _ (Array.getElem?_eq_some_iff.1 K25.out).1).trans K25.out)
    have I28 := Lib.hid (I28.out.below hbw36)
    clear hbw36
    go_wp2_with fail
    have hc : Calls Tryd.prog 25 #[.slice (some ⟨g, off, none⟩) 256 oc] w36 fun e w' => ∃ m, e = .returned (.tuple #[m, .int .i64 0]) ∧ OwnP w' w36.heap.size m (prsM (mny 256)) ∧ Below w36.heap.size w36 w' := by
      have h := pairs_any (mny 256) _ w36 HV2.out
      rw [y28] at h
      exact h
    have HC := Lib.hid hc
    clear hc
    go_at_call 25
    refine HC.out.mono ?_
    rintro e w37 ⟨mw37, rfl, how37, hbw37⟩
    clear HC
    clear how37
    have HBw37 := Lib.hid (HBw36.out.trans (hbw37.mono HBw36.out.size))
    have KA := Lib.hid ((hbw37.block _ (Array.getElem?_eq_some_iff.1 KA.out).1).trans KA.out)
    have HV := Lib.hid (HV.out.below hbw37)
    have HV2 := Lib.hid (HV2.out.below hbw37)
    have HV3 := Lib.hid (HV3.out.below hbw37)
    have I6 := Lib.hid (I6.out.below hbw37)
    have K5 := Lib.hid ((hbw37.block _ (Array.getElem?_eq_some_iff.1 K5.out).1).trans K5.out)
    have K22 := Lib.hid ((hbw37.block _ (Array.getElem?_eq_some_iff.1 K22.out).1).trans K22.out)
    have K25 := Lib.hid ((hbw37.block _ (Array.getElem?_eq_some_iff.1 K25.out).1).trans K25.out)
    have I28 := Lib.hid (I28.out.below hbw37)
    clear hbw37
    clear HV HV2 HV3
    have e0 : w37.cell? ⟨B5, 0, none⟩ = some (.int .u32 0) := cell_block K5.out rfl
    have e1 : w37.cell? ⟨B5, 1, none⟩ = some (.int .u32 0) := cell_block K5.out rfl
    have k := World.alloc_heap_new w37 (.cells #[.int .i64 0, .int .i64 1, .int .i64 2] 3)
    have hbw38 : Below w37.heap.size w37 (w37.alloc (.cells #[.int .i64 0, .int .i64 1, .int .i64 2] 3)) := (Below.refl _ _).alloc (Nat.le_refl _) _
    go_wp2_with fail
    generalize w37.alloc (.cells #[.int .i64 0, .int .i64 1, .int .i64 2] 3) = w38 at *
    have HBw38 := Lib.hid (HBw37.out.trans (hbw38.mono HBw37.out.size))
    have KA := Lib.hid ((hbw38.block _ (Array.getElem?_eq_some_iff.1 KA.out).1).trans KA.out)
    have I6 := Lib.hid (I6.out.below hbw38)
    have K5 := Lib.hid ((hbw38.block _ (Array.getElem?_eq_some_iff.1 K5.out).1).trans K5.out)
    have K22 := Lib.hid ((hbw38.block _ (Array.getElem?_eq_some_iff.1 K22.out).1).trans K22.out)
    have K25 := Lib.hid ((hbw38.block _ (Array.getElem?_eq_some_iff.1 K25.out).1).trans K25.out)
    have I28 := Lib.hid (I28.out.below hbw38)
    clear hbw38
    have KI := Lib.hid k
    clear k
    generalize w37.heap.size = BI at *
    clear e0 e1
    have hc : Gives 21 #[.slice a6 3 c6, .slice (some ⟨BI, 0, none⟩) 3 3] w38 (.bool true) := by
      have h := equal_any [0, 1, 2] [0, 1, 2] _ _ w38 I6.out (is_cells3 (a := 0) (b := 1) (c := 2) KI.out)
      rw [decide_eq_true rfl] at h
      exact h
    have HC := Lib.hid hc
    clear hc
    go_at_call 21
    (with_reducible refine Gives.then HC.out ?_)
    intro w39 hbw39
    clear HC
    have HBw39 := Lib.hid (HBw38.out.trans (hbw39.mono HBw38.out.size))
    have KA := Lib.hid ((hbw39.block _ (Array.getElem?_eq_some_iff.1 KA.out).1).trans KA.out)
    have I6 := Lib.hid (I6.out.below hbw39)
    have K5 := Lib.hid ((hbw39.block _ (Array.getElem?_eq_some_iff.1 K5.out).1).trans K5.out)
    have K22 := Lib.hid ((hbw39.block _ (Array.getElem?_eq_some_iff.1 K22.out).1).trans K22.out)
    have K25 := Lib.hid ((hbw39.block _ (Array.getElem?_eq_some_iff.1 K25.out).1).trans K25.out)
    have I28 := Lib.hid (I28.out.below hbw39)
    have KI := Lib.hid ((hbw39.block _ (Array.getElem?_eq_some_iff.1 KI.out).1).trans KI.out)
    clear hbw39
    clear KI
    have e0 : w39.cell? ⟨B22, 0, none⟩ = some (.int .u32 0) := cell_block K22.out rfl
    have e1 : w39.cell? ⟨B22, 1, none⟩ = some (.int .u32 0) := cell_block K22.out rfl
    have e2 : w39.cell? ⟨B25, 0, none⟩ = some (.int .u32 0) := cell_block K25.out rfl
    have e3 : w39.cell? ⟨B25, 1, none⟩ = some (.int .u32 0) := cell_block K25.out rfl
    have k := World.alloc_heap_new w39 (.cells #[.int .i64 1, .int .i64 2] 3)
    have hbw40 : Below w39.heap.size w39 (w39.alloc (.cells #[.int .i64 1, .int .i64 2] 3)) := (Below.refl _ _).alloc (Nat.le_refl _) _
    go_wp2_with fail
    generalize w39.alloc (.cells #[.int .i64 1, .int .i64 2] 3) = w40 at *
    have HBw40 := Lib.hid (HBw39.out.trans (hbw40.mono HBw39.out.size))
    have KA := Lib.hid ((hbw40.block _ (Array.getElem?_eq_some_iff.1 KA.out).1).trans KA.out)
    have K22 := Lib.hid ((hbw40.block _ (Array.getElem?_eq_some_iff.1 K22.out).1).trans K22.out)
    have K25 := Lib.hid ((hbw40.block _ (Array.getElem?_eq_some_iff.1 K25.out).1).trans K25.out)
    have I28 := Lib.hid (I28.out.below hbw40)
    clear hbw40
    have KJ := Lib.hid k
    clear k
    generalize w39.heap.size = BJ at *
    clear e0 e1 e2 e3
    have hc : Gives 21 #[.slice a28 2 c28, .slice (some ⟨BJ, 0, none⟩) 2 2] w40 (.bool true) := by
      have h := equal_any [1, 2] [1, 2] _ _ w40 I28.out (is_cells2 (a := 1) (b := 2) KJ.out)
      rw [decide_eq_true rfl] at h
      exact h
    have HC := Lib.hid hc
    clear hc
    go_at_call 21
    (with_reducible refine Gives.then HC.out ?_)
    intro w41 hbw41
    clear HC
    have HBw41 := Lib.hid (HBw40.out.trans (hbw41.mono HBw40.out.size))
    have KA := Lib.hid ((hbw41.block _ (Array.getElem?_eq_some_iff.1 KA.out).1).trans KA.out)
    have K22 := Lib.hid ((hbw41.block _ (Array.getElem?_eq_some_iff.1 K22.out).1).trans K22.out)
    have K25 := Lib.hid ((hbw41.block _ (Array.getElem?_eq_some_iff.1 K25.out).1).trans K25.out)
    have I28 := Lib.hid (I28.out.below hbw41)
    have KJ := Lib.hid ((hbw41.block _ (Array.getElem?_eq_some_iff.1 KJ.out).1).trans KJ.out)
    clear hbw41
    go_wp2_with fail
    go_at_call 14
    refine Gives.then (works_any _ (HT.out.below HBw41.out LT.out) (Nat.lt_of_lt_of_le LT.out HBw41.out.size)) ?_
    intro w42 hbw42
    have HBw42 := Lib.hid (HBw41.out.trans (hbw42.mono HBw41.out.size))
    have KA := Lib.hid ((hbw42.block _ (Array.getElem?_eq_some_iff.1 KA.out).1).trans KA.out)
    have K22 := Lib.hid ((hbw42.block _ (Array.getElem?_eq_some_iff.1 K22.out).1).trans K22.out)
    have K25 := Lib.hid ((hbw42.block _ (Array.getElem?_eq_some_iff.1 K25.out).1).trans K25.out)
    have I28 := Lib.hid (I28.out.below hbw42)
    have KJ := Lib.hid ((hbw42.block _ (Array.getElem?_eq_some_iff.1 KJ.out).1).trans KJ.out)
    clear hbw42
    go_wp2_with fail
    go_returns
    exact ⟨rfl, HBw42.out⟩
end Go.Proofs.YtpnmapfabjdfjaaDoor
