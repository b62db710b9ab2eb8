/-
  Lemmas that the theorem of this claim rests on: 17 texts, one behind the other.
-/
import Derived.Test.YtpnmapfabjdfjaaDoorM5
import Derived.Test.YtpnmapfabjdfjaaDoorM7
import Derived.BigQuiet
import Derived.Test.YtpnmapfabjdfjaaDoorM9
import Derived.Test.YtpnmapfabjdfjaaDoorM15
import Derived.Test.YtpnmapfabjdfjaaDoorM8
import Derived.Test.YtpnmapfabjdfjaaDoorM19
import Derived.Test.YtpnmapfabjdfjaaDoorM2
import Derived.Deep.AppendLies
import Derived.Test.YtpnmapfabjdfjaaDoorM6
import Derived.Deep.RegionHeld3
import Derived.Test.YtpnmapfabjdfjaaDoorM13
set_option linter.unusedSimpArgs false
set_option linter.unusedVariables false

/-
  The sounds whose bit is 1, and the sounds with some indexes.
-/
namespace Go.Proofs.YtpnmapfabjdfjaaDoor
open Go.RowKit Go.Sort
def ptL (l : List Snd) (b : Nat) : List Snd := if pk b l 0 = [] then l.drop (l.length - 1) else pk b l 0
theorem and_pk32 (c k : Nat) (hc : c < 4294967296) : bits .and .u32 ((c : Int) / 2 ^ k) 1 = if c.testBit k then 1 else 0 := by
  have e : ((c : Int) / 2 ^ k) = ((c / 2 ^ k : Nat) : Int) := by simp
  have hy : c / 2 ^ k < 4294967296 := Nat.lt_of_le_of_lt (Nat.div_le_self _ _) hc
  have ht : c.testBit k = decide (c / 2 ^ k % 2 = 1) := Nat.testBit_eq_decide_div_mod_eq
  rw [e, ht]
  generalize c / 2 ^ k = y at *
  have key : bits .and .u32 (y : Int) 1 = ((y % 2 : Nat) : Int) := by
    have h1 : (1 : Int) = ((1 : Nat) : Int) := rfl
    rw [bv_and, h1, BitVec.ofInt_natCast, BitVec.ofInt_natCast, BitVec.toNat_and, BitVec.toNat_ofNat, BitVec.toNat_ofNat, Nat.mod_eq_of_lt (show y < 2 ^ 32 by omega), show 1 % 2 ^ 32 = 2 ^ 1 - 1 by decide, Nat.and_two_pow_sub_one_eq_mod]
  rw [key]
  rcases Nat.mod_two_eq_zero_or_one y with h | h
  · rw [h]; simp
  · rw [h]; simp
/-- The choice so far. -/
def ptK (l : List Snd) (b k : Nat) : List Snd := if k < l.length then pk b (l.take k) 0 else ptL l b
theorem ptK_zero (l : List Snd) (b : Nat) : ptK l b 0 = [] := by
  unfold ptK ptL
  split
  · simp [pk]
  · rename_i h
    have : l = [] := List.eq_nil_of_length_eq_zero (by omega)
    subst this
    simp [pk]
theorem ptK_end (l : List Snd) (b : Nat) : ptK l b l.length = ptL l b := if_neg (by omega)
theorem ptK_succ {l : List Snd} {b k : Nat} (hk : k < l.length) : ptK l b (k + 1) = ptK l b k ++ (if b.testBit k then [l[k]] else if k + 1 = l.length ∧ ptK l b k = [] then [l[k]] else []) := by
  have hsn := pk_snoc b l[k] (l.take k) 0
  rw [← List.take_succ_eq_append_getElem hk, List.length_take, Nat.min_eq_left (by omega), Nat.zero_add] at hsn
  have h1 : ptK l b k = pk b (l.take k) 0 := if_pos hk
  rw [h1]
  by_cases h2 : k + 1 < l.length
  · have h3 : ptK l b (k + 1) = pk b (l.take (k + 1)) 0 := if_pos h2
    rw [h3, hsn]
    congr 1
    rw [if_neg (c := k + 1 = l.length ∧ _) (by omega)]
  · have h4 : k + 1 = l.length := by omega
    have h3 : ptK l b (k + 1) = ptL l b := if_neg (by omega)
    have h5 : l.take (k + 1) = l := List.take_of_length_le (by omega)
    have h6 : l.drop (l.length - 1) = [l[k]] := by
      rw [show l.length - 1 = k from by omega, List.drop_eq_getElem_cons hk, List.drop_of_length_le (by omega)]
    rw [h5] at hsn
    rw [h3, ptL, h6, hsn]
    by_cases hb : b.testBit k = true
    · rw [if_pos hb, if_pos hb, if_neg (by simp)]
    · rw [if_neg hb, if_neg hb, List.append_nil]
      by_cases hp : pk b (l.take k) 0 = []
      · rw [if_pos hp, if_pos ⟨h4, hp⟩, hp]; rfl
      · rw [if_neg hp, if_neg (fun h => hp h.2), List.append_nil]
theorem ptK_len (l : List Snd) (b : Nat) : ∀ k, k ≤ l.length → (ptK l b k).length ≤ k
  | 0, _ => by rw [ptK_zero]; exact Nat.le_refl _
  | k + 1, h => by
    have ih := ptK_len l b k (by omega)
    rw [ptK_succ (by omega), List.length_append]
    split
    · simp; omega
    · split
      · simp; omega
      · simp; omega
set_option maxRecDepth 100000 in
set_option maxHeartbeats 8000000 in
theorem part_any (l : List Snd) (b : Nat) (v : Value) (w : World) (hb : b < 4294967296) (hl : l.length ≤ 24) (h : Wd w v l) : Calls Tryd.prog 34 #[v, .int .u32 (b : Int)] w fun e w' => ∃ m, e = .returned m ∧ Own w' w.heap.size m (ptL l b) ∧ Below w.heap.size w w' := by
  obtain ⟨ao, cap, rfl, c1, m1, hc⟩ := h.open
  obtain ⟨N, hN⟩ : ∃ N, l.length = N := ⟨_, rfl⟩
  have HC := Lib.hid hc; have HN := Lib.hid hN
  rw [hN] at c1 hl ⊢
  have l1 : N ≤ 9223372036854775807 := by omega
  have hend := ptK_end l b
  rw [hN] at hend
  have HE := Lib.hid hend
  clear hc h hN m1 hend
  go_enter Tryd.func34, Tryd.ntmps34
  go_wp2_with fail
  go_loopw [5, 6] (fun u i wr => ∃ k : Nat, k ≤ N ∧ i = .int .i64 (k : Int) ∧ Own wr w.heap.size u (ptK l b k) ∧ Below w.heap.size w wr) (fun _ i _ => N - (intOf i).toNat)
  case atStart => exact ⟨0, by omega, rfl, by rw [ptK_zero]; exact Own.nil _ _, Below.refl _ _⟩
  case round =>
    obtain ⟨k, hk, rfl, ho, hw⟩ := hrel
    obtain ⟨oa, oc, hov, -, -, -⟩ := ho.wd.open
    obtain ⟨n, hn⟩ : ∃ n, (ptK l b k).length = n := ⟨_, rfl⟩
    rw [hn] at hov
    subst hov
    have hn2 := ptK_len l b k (by rw [HN.out]; exact hk)
    rw [hn] at hn2
    have HNn := Lib.hid hn
    by_cases hlt : k < N
    · have hkl : k < l.length := by rw [HN.out]; exact hlt
      obtain ⟨g, off, hao, lg, d0, d1⟩ := HC.out k hkl
      subst hao
      have d0 := (hw.cell (p := ⟨g, _, none⟩) lg).trans d0
      have d1 := (hw.cell (p := ⟨g, _, none⟩) lg).trans d1
      have hsn := ptK_succ (b := b) hkl
      rw [HN.out] at hsn
      have hnil : (ptK l b k = []) ↔ n = 0 := by rw [← hn]; exact List.length_eq_zero_iff.symm
      have HSN := Lib.hid hsn; have HNI := Lib.hid hnil
      clear hsn HC hnil hn
      generalize l[k] = x at *
      obtain ⟨p, m⟩ := x
      simp only at d0 d1 HSN
      have hab := and_pk32 b k hb
      have hbo := (Below.refl wr.heap.size wr).alloc (Nat.le_refl _) (.cells #[.int .u32 (p.toNat : Int), .int .u32 (m.toNat : Int)] 27)
      have HWO := Lib.hid (wd_one wr p m); have HZ := Lib.hid hw.size
      have HO := Lib.hid ho; have HW := Lib.hid hw; have HO3 := Lib.hid (ho.below hbo); have HW3 := Lib.hid (hw.trans (hbo.mono hw.size))
      have hk3 : (k : Int) < (N : Int) := by omega
      have hk0 : (0 : Int) ≤ (k : Int) := by omega
      have hw8 : IntKind.i64.wrap ((N : Int) - 1) = (N : Int) - 1 := by rw [IntKind.wrap_i64]; omega
      clear ho hw hbo
      rcases ht : b.testBit k with _ | _
      · rw [ht] at hab HSN
        have hab : bits .and .u32 ((b : Int) / 2 ^ k) 1 = 0 := hab
        rw [if_neg (by decide)] at HSN
        by_cases hlast : k + 1 = N
        · have g1 : ((k : Int) == (N : Int) - 1) = true := by rw [beq_iff_eq]; omega
          by_cases hz : n = 0
          · have g2 : ((n : Int) == 0) = true := by rw [hz]; rfl
            rw [if_pos ⟨hlast, HNI.out.2 hz⟩] at HSN
            clear hz hlast ht
            go_wp2_with (at_builtin; refine wpList_app rfl (.tmp 30) (.tmp 35) 22 Tryd.underlying22 rfl w.heap.size (.slice oa n oc) (.slice (some ⟨wr.heap.size, 0, none⟩) 1 1) (ptK l b k) [(p, m)] rfl rfl HO3.out HWO.out (by rw [HNn.out]; simp; omega) (by have := HZ.out; simp only [World.size_alloc]; omega) ?_; intro v4 w4 ho4 hk4 hz4; have HO4 := Lib.hid ho4; have HW4 := Lib.hid (hk4 _ _ (Nat.le_refl _) HW3.out); clear ho4 hk4 hz4)
            go_roundw
            case rel => exact ⟨k + 1, by omega, by go_num, by rw [HSN.out]; exact HO4.out, HW4.out⟩
            case measure => simp [intOf]; omega
          · have g2 : ((n : Int) == 0) = false := by rw [beq_eq_false_iff_ne]; omega
            rw [if_neg (fun h => hz (HNI.out.1 h.2)), List.append_nil] at HSN
            clear hz hlast ht
            go_wp2_with fail
            go_roundw
            case rel => exact ⟨k + 1, by omega, by go_num, by rw [HSN.out]; exact HO.out, HW.out⟩
            case measure => simp [intOf]; omega
        · have g1 : ((k : Int) == (N : Int) - 1) = false := by rw [beq_eq_false_iff_ne]; omega
          rw [if_neg (fun h => hlast h.1), List.append_nil] at HSN
          clear hlast ht
          go_wp2_with fail
          go_roundw
          case rel => exact ⟨k + 1, by omega, by go_num, by rw [HSN.out]; exact HO.out, HW.out⟩
          case measure => simp [intOf]; omega
      · rw [ht] at hab HSN
        have hab : bits .and .u32 ((b : Int) / 2 ^ k) 1 = 1 := hab
        rw [if_pos rfl] at HSN
        clear ht
        go_wp2_with (at_builtin; refine wpList_app rfl (.tmp 30) (.tmp 35) 22 Tryd.underlying22 rfl w.heap.size (.slice oa n oc) (.slice (some ⟨wr.heap.size, 0, none⟩) 1 1) (ptK l b k) [(p, m)] rfl rfl HO3.out HWO.out (by rw [HNn.out]; simp; omega) (by have := HZ.out; simp only [World.size_alloc]; omega) ?_; intro v4 w4 ho4 hk4 hz4; have HO4 := Lib.hid ho4; have HW4 := Lib.hid (hk4 _ _ (Nat.le_refl _) HW3.out); clear ho4 hk4 hz4)
        go_roundw
        case rel => exact ⟨k + 1, by omega, by go_num, by rw [HSN.out]; exact HO4.out, HW4.out⟩
        case measure => simp [intOf]; omega
    · obtain rfl : k = N := by omega
      rw [HE.out] at ho
      have HO := Lib.hid ho; have HW := Lib.hid hw
      clear ho hw hlt HC
      go_wp2_with fail
      go_returns
      exact ⟨_, rfl, HO.out, HW.out⟩
end Go.Proofs.YtpnmapfabjdfjaaDoor

/-
  The sounds with some indexes.
-/
namespace Go.Proofs.YtpnmapfabjdfjaaDoor
open Go.RowKit Go.Sort
/-- Indexes that increase and exist. -/
def Inc (N : Nat) (xs : List Nat) : Prop := (∀ i (h : i < xs.length), xs[i] < N) ∧ ∀ i (h : i + 1 < xs.length), xs[i] < xs[i + 1]
theorem below_drewN {B : Nat} {a w : World} (h : Below B a w) (q : Nat) : Below B a (w.drewN q) := ⟨h.os, h.tape, h.output, h.size, h.block⟩
set_option maxRecDepth 100000 in
set_option maxHeartbeats 8000000 in
theorem at_any (l : List Snd) (xs : List Nat) (v u : Value) (w : World) (hl : l.length ≤ 1000000) (h : Wd w v l) (hu : Is w u xs) (hi : Inc l.length xs) (hx : xs.length ≤ 1000000) : Calls Tryd.prog 35 #[v, u] w fun e w' => ∃ m, e = .returned (.tuple #[m, .bool true]) ∧ Own w' w.heap.size m (xs.map fun i => l.getD i (0#32, 0#32)) ∧ Below w.heap.size w w' := by
  obtain ⟨ao, cap, rfl, c1, m1, hc⟩ := h.open
  obtain ⟨bo, bap, rfl, c2, m2, hd⟩ := hu.open
  obtain ⟨N, hN⟩ : ∃ N, l.length = N := ⟨_, rfl⟩
  obtain ⟨M, hM⟩ : ∃ M, xs.length = M := ⟨_, rfl⟩
  have HC := Lib.hid hc; have HN := Lib.hid hN; have HD := Lib.hid hd; have HM := Lib.hid hM
  rw [hN] at c1 hl hi ⊢
  rw [hM] at c2 hx ⊢
  have l1 : N ≤ 9223372036854775807 := by omega
  have l2 : M ≤ 9223372036854775807 := by omega
  have HI := Lib.hid hi
  clear hc h hN m1 hd hM hi hu m2
  go_enter Tryd.func35, Tryd.ntmps35
  go_wp2_with fail
  go_loopw [6, 7] (fun u i wr => ∃ k : Nat, k ≤ M ∧ i = .int .i64 (k : Int) ∧ Own wr w.heap.size u ((xs.take k).map fun i => l.getD i (0#32, 0#32)) ∧ Below w.heap.size w wr) (fun _ i _ => M - (intOf i).toNat)
  case atStart => exact ⟨0, by omega, rfl, Own.nil _ _, Below.refl _ _⟩
  case round =>
    obtain ⟨k, hk, rfl, ho, hw⟩ := hrel
    obtain ⟨oa, oc, hov, -, -, -⟩ := ho.wd.open
    rw [List.length_map, List.length_take, HM.out, Nat.min_eq_left hk] at hov
    subst hov
    by_cases hlt : k < M
    · have hkl : k < xs.length := by rw [HM.out]; exact hlt
      obtain ⟨g, hbo, lg, d0⟩ := HD.out k hkl
      subst hbo
      have d0 := (hw.cell (p := ⟨g, _, none⟩) lg).trans d0
      have hq := HI.out.1 k hkl
      have hsn : (xs.take (k + 1)).map (fun i => l.getD i (0#32, 0#32)) = (xs.take k).map (fun i => l.getD i (0#32, 0#32)) ++ [l.getD xs[k] (0#32, 0#32)] := by
        rw [List.take_succ_eq_append_getElem hkl, List.map_append]; rfl
      have hpr : 0 < k → ∃ q, wr.cell? ⟨g, k - 1, none⟩ = some (.int .i64 (q : Int)) ∧ (q : Int) < (xs[k] : Int) := fun h0 => by
        obtain ⟨g', hbo', lg', e0⟩ := HD.out (k - 1) (by omega)
        cases hbo'
        refine ⟨xs[k - 1], (hw.cell (p := ⟨g, _, none⟩) lg).trans e0, ?_⟩
        have := HI.out.2 (k - 1) (by omega)
        simp only [show k - 1 + 1 = k from by omega] at this
        exact_mod_cast this
      generalize xs[k] = q at *
      have hql : q < l.length := by rw [HN.out]; exact hq
      have hqd : l.getD q (0#32, 0#32) = l[q] := by simp [List.getD, List.getElem?_eq_getElem hql]
      rw [hqd] at hsn
      obtain ⟨b, off, hao, lb, c0, c1'⟩ := HC.out q hql
      subst hao
      have c0 := (hw.cell (p := ⟨b, _, none⟩) lb).trans c0
      have c1' := (hw.cell (p := ⟨b, _, none⟩) lb).trans c1'
      generalize l[q] = x at *
      obtain ⟨p, m⟩ := x
      simp only at c0 c1'
      have HSN := Lib.hid hsn
      have HO := Lib.hid ho; have HW := Lib.hid hw
      have hk3 : (k : Int) < (M : Int) := by omega
      have hk0 : (0 : Int) ≤ (k : Int) := by omega
      have hq3 : (q : Int) < (N : Int) := by omega
      have hq0 : (0 : Int) ≤ (q : Int) := by omega
      have g1 : decide ((q : Int) < 0) = false := decide_eq_false (by omega)
      have g2 : decide ((N : Int) ≤ (q : Int)) = false := decide_eq_false (by omega)
      have g2' : decide (N ≤ q) = false := decide_eq_false (by omega)
      have hwk : IntKind.i64.wrap ((k : Int) - 1) = (k : Int) - 1 := by rw [IntKind.wrap_i64]; omega
      have HPR := Lib.hid hpr
      have D0 := Lib.hid d0; have C0 := Lib.hid c0; have C1 := Lib.hid c1'
      clear hsn hqd hql hpr HC HD ho hw
      by_cases hk8 : 0 < k
      · obtain ⟨q', e0, hq'⟩ := HPR.out hk8
        have g3 : decide ((0 : Int) < (k : Int)) = true := decide_eq_true (by omega)
        have g3' : decide (0 < k) = true := decide_eq_true hk8
        have g4 : decide ((q : Int) ≤ (q' : Int)) = false := decide_eq_false (by omega)
        have g4' : decide (q ≤ q') = false := decide_eq_false (by omega)
        have hk5 : (k : Int) - 1 < (M : Int) := by omega
        have hk6 : (0 : Int) ≤ (k : Int) - 1 := by omega
        have hk7 : ((k : Int) - 1).toNat = k - 1 := by omega
        clear HPR
        go_wp2_with fail
        go_quiet (fail)
        have hbd : Below wr.heap.size wr (wr.drewN nq) := below_drewN (Below.refl _ _) nq
        have HO2 := Lib.hid (HO.out.below hbd); have HW2 := Lib.hid (HW.out.trans (hbd.mono HW.out.size))
        have D02 : (wr.drewN nq).cell? ⟨g, k, none⟩ = some (.int .i64 (q : Int)) := D0.out
        have C02 : (wr.drewN nq).cell? ⟨b, off + q * 2, none⟩ = some (.int .u32 (p.toNat : Int)) := C0.out
        have C12 : (wr.drewN nq).cell? ⟨b, off + q * 2 + 1, none⟩ = some (.int .u32 (m.toNat : Int)) := C1.out
        clear d0 c0 c1' hbd
        generalize (wr.drewN nq) = w3 at *
        have hbo := (Below.refl w3.heap.size w3).alloc (Nat.le_refl _) (.cells #[.int .u32 (p.toNat : Int), .int .u32 (m.toNat : Int)] 27)
        have HWO := Lib.hid (wd_one w3 p m); have HZ := Lib.hid HW2.out.size
        have HO3 := Lib.hid (HO2.out.below hbo); have HW3 := Lib.hid (HW2.out.trans (hbo.mono HW2.out.size))
        clear hbo
        go_wp2_with (at_builtin; refine wpList_app rfl (.tmp 44) (.tmp 52) 22 Tryd.underlying22 rfl w.heap.size (.slice oa k oc) (.slice (some ⟨w3.heap.size, 0, none⟩) 1 1) _ [(p, m)] rfl rfl HO3.out HWO.out (by rw [List.length_map, List.length_take]; simp; omega) (by have := HZ.out; simp only [World.size_alloc]; omega) ?_; intro v4 w4 ho4 hk4 hz4; have HO4 := Lib.hid ho4; have HW4 := Lib.hid (hk4 _ _ (Nat.le_refl _) HW3.out); clear ho4 hk4 hz4)
        go_roundw
        case rel => exact ⟨k + 1, by omega, by go_num, by rw [HSN.out]; exact HO4.out, HW4.out⟩
        case measure => simp [intOf]; omega
      · have g3 : decide ((0 : Int) < (k : Int)) = false := decide_eq_false (by omega)
        have g3' : decide (0 < k) = false := decide_eq_false hk8
        clear HPR
        go_wp2_with fail
        go_quiet (fail)
        have hbd : Below wr.heap.size wr (wr.drewN nq) := below_drewN (Below.refl _ _) nq
        have HO2 := Lib.hid (HO.out.below hbd); have HW2 := Lib.hid (HW.out.trans (hbd.mono HW.out.size))
        have D02 : (wr.drewN nq).cell? ⟨g, k, none⟩ = some (.int .i64 (q : Int)) := D0.out
        have C02 : (wr.drewN nq).cell? ⟨b, off + q * 2, none⟩ = some (.int .u32 (p.toNat : Int)) := C0.out
        have C12 : (wr.drewN nq).cell? ⟨b, off + q * 2 + 1, none⟩ = some (.int .u32 (m.toNat : Int)) := C1.out
        clear d0 c0 c1' hbd
        generalize (wr.drewN nq) = w3 at *
        have hbo := (Below.refl w3.heap.size w3).alloc (Nat.le_refl _) (.cells #[.int .u32 (p.toNat : Int), .int .u32 (m.toNat : Int)] 27)
        have HWO := Lib.hid (wd_one w3 p m); have HZ := Lib.hid HW2.out.size
        have HO3 := Lib.hid (HO2.out.below hbo); have HW3 := Lib.hid (HW2.out.trans (hbo.mono HW2.out.size))
        clear hbo
        go_wp2_with (at_builtin; refine wpList_app rfl (.tmp 44) (.tmp 52) 22 Tryd.underlying22 rfl w.heap.size (.slice oa k oc) (.slice (some ⟨w3.heap.size, 0, none⟩) 1 1) _ [(p, m)] rfl rfl HO3.out HWO.out (by rw [List.length_map, List.length_take]; simp; omega) (by have := HZ.out; simp only [World.size_alloc]; omega) ?_; intro v4 w4 ho4 hk4 hz4; have HO4 := Lib.hid ho4; have HW4 := Lib.hid (hk4 _ _ (Nat.le_refl _) HW3.out); clear ho4 hk4 hz4)
        go_roundw
        case rel => exact ⟨k + 1, by omega, by go_num, by rw [HSN.out]; exact HO4.out, HW4.out⟩
        case measure => simp [intOf]; omega
    · obtain rfl : k = M := by omega
      have hall : xs.take k = xs := List.take_of_length_le (by rw [HM.out]; exact Nat.le_refl _)
      rw [hall] at ho
      have HO := Lib.hid ho; have HW := Lib.hid hw
      clear ho hw hlt HC HD
      go_wp2_with fail
      go_ret2
      exact ⟨_, rfl, HO.out, HW.out⟩
end Go.Proofs.YtpnmapfabjdfjaaDoor

/-
  Closures, pure: what is common, what satisfies it, and the members.
-/
namespace Go.Proofs.YtpnmapfabjdfjaaDoor
open Go.RowKit Go.Sort
/-- The sounds that satisfy a condition. -/
def flt (c : Snd) (l : List Snd) : List Snd := l.filter fun x => sat x c
theorem msL_at (c : Snd) : ∀ (l pre : List Snd), ((msL c l pre.length).map fun i => (pre ++ l).getD i (0#32, 0#32)) = flt c l
  | [], _ => rfl
  | x :: l, pre => by
    have ih := msL_at c l (pre ++ [x])
    rw [List.append_assoc, List.singleton_append, List.length_append, List.length_singleton] at ih
    have hx : (pre ++ x :: l).getD pre.length (0#32, 0#32) = x := by simp [List.getD]
    unfold msL flt
    by_cases h : sat x c = true
    · rw [if_pos h, List.map_cons, hx, List.filter_cons_of_pos (p := fun x => sat x c) h, ih]; rfl
    · rw [if_neg h, List.filter_cons_of_neg (p := fun x => sat x c) h, ih]; rfl
theorem msL_flt (c : Snd) (l : List Snd) : ((msL c l 0).map fun i => l.getD i (0#32, 0#32)) = flt c l := msL_at c l []
theorem msL_fl_len (c : Snd) (l : List Snd) : (msL c l 0).length = (flt c l).length := by rw [← msL_flt, List.length_map]
theorem msL_ge (c : Snd) : ∀ (l : List Snd) (i : Nat), ∀ x ∈ msL c l i, i ≤ x
  | [], _, _, h => by simp [msL] at h
  | x :: l, i, y, h => by
    unfold msL at h
    split at h
    · rcases List.mem_cons.1 h with rfl | h
      · exact Nat.le_refl _
      · have := msL_ge c l (i + 1) y h; omega
    · have := msL_ge c l (i + 1) y h; omega
theorem msL_pw (c : Snd) : ∀ (l : List Snd) (i : Nat), (msL c l i).Pairwise (· < ·)
  | [], _ => by simp [msL]
  | x :: l, i => by
    unfold msL
    split
    · exact List.pairwise_cons.2 ⟨fun y hy => by have := msL_ge c l (i + 1) y hy; omega, msL_pw c l (i + 1)⟩
    · exact msL_pw c l (i + 1)
theorem msL_inc (c : Snd) (l : List Snd) : Inc l.length (msL c l 0) := by
  refine ⟨fun i h => ?_, fun i h => ?_⟩
  · have := msL_lt c l 0 _ (List.getElem_mem h); omega
  · exact (List.pairwise_iff_getElem.1 (msL_pw c l 0)) i (i + 1) (by omega) h (by omega)
theorem sat_iff (x c : Snd) : sat x c = true ↔ x.1 &&& c.1 = c.1 ∧ x.2 &&& c.2 = c.2 := by unfold sat; rw [Bool.and_eq_true, beq_iff_eq, beq_iff_eq]
theorem sat_refl (x : Snd) : sat x x = true := (sat_iff x x).2 ⟨by simp, by simp⟩
theorem sat_trans {x c d : Snd} (h1 : sat x c = true) (h2 : sat c d = true) : sat x d = true := by
  rw [sat_iff] at *
  exact ⟨by rw [← h2.1, ← BitVec.and_assoc, h1.1], by rw [← h2.2, ← BitVec.and_assoc, h1.2]⟩
theorem sat_anti {c d : Snd} (h1 : sat c d = true) (h2 : sat d c = true) : c = d := by
  rw [sat_iff] at *
  exact Prod.ext (by rw [← h2.1, BitVec.and_comm]; exact h1.1) (by rw [← h2.2, BitVec.and_comm]; exact h1.2)
theorem sat_me {a b c : Snd} (h1 : sat a c = true) (h2 : sat b c = true) : sat (meS a b) c = true := by
  rw [sat_iff] at *
  unfold meS
  exact ⟨by rw [BitVec.and_assoc, h2.1, h1.1], by rw [BitVec.and_assoc, h2.2, h1.2]⟩
theorem sat_fld (c : Snd) : ∀ (l : List Snd) (a : Snd), sat a c = true → (∀ x ∈ l, sat x c = true) → sat (l.foldl meS a) c = true
  | [], _, h, _ => h
  | x :: l, a, h, hl => sat_fld c l _ (sat_me h (hl x (by simp))) (fun y hy => hl y (by simp [hy]))
/-- What all sounds satisfy, their common values do. -/
theorem cm_sat {s : List Snd} {c : Snd} (hn : s ≠ []) (h : ∀ x ∈ s, sat x c = true) : sat (cmS s) c = true := by
  cases s with
  | nil => exact absurd rfl hn
  | cons x l => exact sat_fld c (x :: l) x (h x (by simp)) h
/-- More sounds have fewer values in common. -/
theorem cm_mono {s t : List Snd} (hn : s ≠ []) (h : ∀ x ∈ s, x ∈ t) : sat (cmS s) (cmS t) = true := cm_sat hn (fun x hx => sat_cmS x (h x hx))
theorem mem_flt {c x : Snd} {l : List Snd} : x ∈ flt c l ↔ x ∈ l ∧ sat x c = true := by unfold flt; rw [List.mem_filter]
/-- The closure of a closure is the same. -/
theorem cm_flt {l s : List Snd} (hn : s ≠ []) (h : ∀ x ∈ s, x ∈ l) : cmS (flt (cmS s) l) = cmS s := by
  have hin : ∀ x ∈ s, x ∈ flt (cmS s) l := fun x hx => mem_flt.2 ⟨h x hx, sat_cmS x hx⟩
  have hne : flt (cmS s) l ≠ [] := by
    cases s with
    | nil => exact absurd rfl hn
    | cons a t => intro e; have := hin a (by simp); rw [e] at this; simp at this
  exact sat_anti (cm_sat hne fun x hx => (mem_flt.1 hx).2) (cm_mono hn hin)
theorem flt_ne {l s : List Snd} (hn : s ≠ []) (h : ∀ x ∈ s, x ∈ l) : flt (cmS s) l ≠ [] := by
  cases s with
  | nil => exact absurd rfl hn
  | cons a t => intro e; have : a ∈ flt (cmS (a :: t)) l := mem_flt.2 ⟨h a (by simp), sat_cmS a (by simp)⟩; rw [e] at this; simp at this
theorem set_len' {l : List Snd} (h : l.Nodup) : (setS l).length = l.length := by
  refine Nat.le_antisymm (len_of_sub _ _ (setS_nodup l) (fun x hx => (mem_setS l x).1 hx)) (len_of_sub _ _ h (fun x hx => (mem_setS l x).2 hx))
theorem clo_zero {l s : List Snd} (hc : ckE l 256 = 0) (hn : s ≠ []) (h : ∀ x ∈ s, x ∈ l) : cloE l s = 0 := by
  unfold cloE
  rw [if_neg (fun e => e hc), if_neg (fun e => e.elim hn (fun e => e h))]
theorem clo_C {l s : List Snd} (h : cloE l s = 0) : cloC l s = cmS s := if_pos h
theorem clo_M {l s : List Snd} (h : cloE l s = 0) : cloM l s = msL (cmS s) l 0 := if_pos h
/-- The members of a closure are a natural class. -/
theorem is_flt {l s : List Snd} (hl : l.Nodup) (hc : ckE l 256 = 0) (hn : s ≠ []) (h : ∀ x ∈ s, x ∈ l) : isB l (flt (cmS s) l) = true := by
  have h0 := clo_zero hc (flt_ne hn h) (fun x hx => (mem_flt.1 hx).1)
  unfold isB
  rw [h0, clo_M h0, cm_flt hn h, msL_fl_len, set_len' (show (flt (cmS s) l).Nodup from hl.filter _)]
  simp
theorem isB_len {l s : List Snd} (h : cloE l s = 0) (hs : s.Nodup) : isB l s = decide ((cloM l s).length = s.length) := by
  unfold isB
  rw [h, set_len' hs]
  simp
theorem pk_sub (c : Nat) : ∀ (l : List Snd) (i : Nat), (pk c l i).Sublist l
  | [], _ => by simp [pk]
  | x :: l, i => by
    unfold pk
    split
    · exact (pk_sub c l (i + 1)).cons_cons x
    · exact (pk_sub c l (i + 1)).cons x
theorem pk_more {c d : Nat} (h : ∀ i, c.testBit i = true → d.testBit i = true) : ∀ (l : List Snd) (i : Nat), ∀ x ∈ pk c l i, x ∈ pk d l i
  | [], _, _, h => by simp [pk] at h
  | y :: l, i, x, hx => by
    unfold pk at hx ⊢
    by_cases hc : c.testBit i = true
    · rw [if_pos hc] at hx
      rw [if_pos (h i hc)]
      rcases List.mem_cons.1 hx with rfl | hx
      · simp
      · exact List.mem_cons_of_mem _ (pk_more h l (i + 1) x hx)
    · rw [if_neg hc] at hx
      have := pk_more h l (i + 1) x hx
      split
      · exact List.mem_cons_of_mem _ this
      · exact this
theorem ptL_ne {l : List Snd} (b : Nat) (h : l ≠ []) : ptL l b ≠ [] := by
  unfold ptL
  split
  · intro e
    have := congrArg List.length e
    rw [List.length_drop] at this
    have := List.length_pos_iff.2 h
    simp at *
    omega
  · assumption
theorem ptL_sub (l : List Snd) (b : Nat) : (ptL l b).Sublist l := by
  unfold ptL
  split
  · exact List.drop_sublist _ _
  · exact pk_sub b l 0
theorem ptL_mem {l : List Snd} {b : Nat} : ∀ x ∈ ptL l b, x ∈ l := fun _ h => (ptL_sub l b).subset h
theorem ptL_len (l : List Snd) (b : Nat) : (ptL l b).length ≤ l.length := (ptL_sub l b).length_le
theorem ptL_more {l : List Snd} {c d : Nat} (h0 : c ≠ 0) (hc : c < 2 ^ l.length) (h : ∀ i, c.testBit i = true → d.testBit i = true) : ∀ x ∈ ptL l c, x ∈ ptL l d := by
  have h1 := pk_ne h0 hc
  have h2 : pk d l 0 ≠ [] := by
    obtain ⟨x, hx⟩ := List.exists_mem_of_ne_nil _ h1
    intro e
    have := pk_more h l 0 x hx
    rw [e] at this
    simp at this
  unfold ptL
  rw [if_neg h1, if_neg h2]
  exact pk_more h l 0
end Go.Proofs.YtpnmapfabjdfjaaDoor

/-
  The search for the shortest condition: what it finds, and when (pure).
-/
namespace Go.Proofs.YtpnmapfabjdfjaaDoor
open Go.RowKit Go.Sort
/-- The bit of a crowd. -/
def bitC (c : Cr) (i : Nat) : Bool := if i < 64 then c.1.getLsbD i else if i < 128 then c.2.1.getLsbD (i - 64) else if i < 192 then c.2.2.1.getLsbD (i - 128) else c.2.2.2.getLsbD (i - 192)
theorem bitC_ext {c d : Cr} (h : ∀ i, i < 256 → bitC c i = bitC d i) : c = d := by
  obtain ⟨a0, a1, a2, a3⟩ := c
  obtain ⟨b0, b1, b2, b3⟩ := d
  have e0 : a0 = b0 := BitVec.eq_of_getLsbD_eq fun i hi => by have := h i (by omega); simpa [bitC, hi] using this
  have e1 : a1 = b1 := BitVec.eq_of_getLsbD_eq fun i hi => by
    have := h (64 + i) (by omega)
    simpa [bitC, show ¬ 64 + i < 64 by omega, show 64 + i < 128 by omega] using this
  have e2 : a2 = b2 := BitVec.eq_of_getLsbD_eq fun i hi => by
    have := h (128 + i) (by omega)
    simpa [bitC, show ¬ 128 + i < 64 by omega, show ¬ 128 + i < 128 by omega, show 128 + i < 192 by omega] using this
  have e3 : a3 = b3 := BitVec.eq_of_getLsbD_eq fun i hi => by
    have := h (192 + i) (by omega)
    simpa [bitC, show ¬ 192 + i < 64 by omega, show ¬ 192 + i < 128 by omega, show ¬ 192 + i < 192 by omega] using this
  rw [e0, e1, e2, e3]
theorem bitC_me (c d : Cr) (i : Nat) : bitC (meC c d) i = (bitC c i && bitC d i) := by
  unfold bitC meC
  simp only
  split
  · rw [BitVec.getLsbD_and]
  · split
    · rw [BitVec.getLsbD_and]
    · split
      · rw [BitVec.getLsbD_and]
      · rw [BitVec.getLsbD_and]
theorem bitC_z (i : Nat) : bitC zC i = false := by unfold bitC zC; simp
theorem crC_fold (q j : Nat) (hj : j < 64) : ∀ (xs : List Nat) (s : BitVec 64), (xs.foldl (fun s i => if i / 64 = q then s ||| (1#64 <<< (i % 64)) else s) s).getLsbD j = (s.getLsbD j || decide (q * 64 + j ∈ xs))
  | [], s => by simp
  | x :: xs, s => by
    rw [List.foldl_cons, crC_fold q j hj xs]
    by_cases hq : x / 64 = q
    · rw [if_pos hq, BitVec.getLsbD_or, Bool.or_assoc]
      congr 1
      have e : (1#64 <<< (x % 64)).getLsbD j = decide (j = x % 64) := by
        rw [BitVec.getLsbD_shiftLeft]
        by_cases h1 : j < x % 64
        · rw [decide_eq_true h1, decide_eq_false (show ¬ j = x % 64 by omega)]; simp
        · rw [decide_eq_false h1]
          by_cases h2 : j = x % 64
          · subst h2; simp; omega
          · have : j - x % 64 ≠ 0 := by omega
            rw [decide_eq_false h2]
            simp [BitVec.getLsbD_one, this]
      rw [e, ← Bool.decide_or]
      apply decide_eq_decide.2
      rw [List.mem_cons]
      constructor
      · rintro (h | h)
        · exact .inl (by omega)
        · exact .inr h
      · rintro (h | h)
        · exact .inl (by omega)
        · exact .inr h
    · rw [if_neg hq]
      congr 1
      apply decide_eq_decide.2
      rw [List.mem_cons]
      exact ⟨.inr, fun h => h.elim (fun h => absurd (by omega) hq) id⟩
theorem crC_bit (q : Nat) (xs : List Nat) (j : Nat) (hj : j < 64) : (crC q xs).getLsbD j = decide (q * 64 + j ∈ xs) := by
  unfold crC
  rw [crC_fold q j hj]
  simp
theorem bitC_crT (xs : List Nat) (i : Nat) (hi : i < 256) : bitC (crT xs) i = decide (i ∈ xs) := by
  unfold bitC crT
  simp only
  split
  · rw [crC_bit 0 xs i (by omega)]; simp
  · split
    · rw [crC_bit 1 xs (i - 64) (by omega)]; rw [show 1 * 64 + (i - 64) = i from by omega]
    · split
      · rw [crC_bit 2 xs (i - 128) (by omega)]; rw [show 2 * 64 + (i - 128) = i from by omega]
      · rw [crC_bit 3 xs (i - 192) (by omega)]; rw [show 3 * 64 + (i - 192) = i from by omega]
/-- Crowds tell lists of indexes apart. -/
theorem crT_mem {xs ys : List Nat} (h : crT xs = crT ys) (i : Nat) (hi : i < 256) : i ∈ xs ↔ i ∈ ys := by
  have := congrArg (fun c => bitC c i) h
  simp only [bitC_crT _ i hi] at this
  exact decide_eq_decide.1 this
/-- The crowd is that of the sounds with a property. -/
def Rep (o : List Snd) (p : Snd → Bool) (c : Cr) : Prop := ∀ i, i < 256 → bitC c i = (decide (i < o.length) && p (o.getD i (0#32, 0#32)))
theorem mem_msL (c : Snd) : ∀ (l pre : List Snd) (j : Nat), j ∈ msL c l pre.length ↔ pre.length ≤ j ∧ j < pre.length + l.length ∧ sat ((pre ++ l).getD j (0#32, 0#32)) c = true
  | [], pre, j => by simp [msL]; omega
  | x :: l, pre, j => by
    have ih := mem_msL c l (pre ++ [x]) j
    rw [List.append_assoc, List.singleton_append, List.length_append, List.length_singleton] at ih
    have hx : (pre ++ x :: l).getD pre.length (0#32, 0#32) = x := by simp [List.getD]
    unfold msL
    rw [List.length_cons]
    by_cases h : sat x c = true
    · rw [if_pos h, List.mem_cons, ih]
      constructor
      · rintro (rfl | h2)
        · exact ⟨Nat.le_refl _, by omega, by rw [hx]; exact h⟩
        · exact ⟨by omega, by omega, h2.2.2⟩
      · intro h2
        by_cases hj : j = pre.length
        · exact .inl hj
        · exact .inr ⟨by omega, by omega, h2.2.2⟩
    · rw [if_neg h, ih]
      constructor
      · intro h2; exact ⟨by omega, by omega, h2.2.2⟩
      · intro h2
        have hj : j ≠ pre.length := fun e => h (by have := h2.2.2; rw [e, hx] at this; exact this)
        exact ⟨by omega, by omega, h2.2.2⟩
theorem mem_msL0 (c : Snd) (l : List Snd) (j : Nat) : j ∈ msL c l 0 ↔ j < l.length ∧ sat (l.getD j (0#32, 0#32)) c = true := by
  have := mem_msL c l [] j
  simpa using this
theorem rep_thr (o : List Snd) (v : Snd) : Rep o (fun x => sat x v) (thr o v) := fun i hi => by
  unfold thr
  rw [bitC_crT _ i hi, Bool.eq_iff_iff, decide_eq_true_iff, Bool.and_eq_true, decide_eq_true_iff]
  exact mem_msL0 v o i
theorem sat_zero (x : Snd) : sat x (0#32, 0#32) = true := by unfold sat; simp
theorem Rep.me {o : List Snd} {p q : Snd → Bool} {c d : Cr} (h1 : Rep o p c) (h2 : Rep o q d) : Rep o (fun x => p x && q x) (meC c d) := fun i hi => by
  rw [bitC_me, h1 i hi, h2 i hi]
  cases decide (i < o.length) <;> simp
theorem Rep.congr {o : List Snd} {p q : Snd → Bool} {c : Cr} (h1 : Rep o p c) (h : ∀ x, p x = q x) : Rep o q c := fun i hi => by rw [h1 i hi, h]
theorem rep_bhd (o : List Snd) : ∀ vs, Rep o (fun x => vs.all fun v => sat x v) (bhd o vs)
  | [] => (rep_thr o (0#32, 0#32)).congr fun x => by rw [sat_zero]; rfl
  | v :: vs => ((rep_thr o v).me (rep_bhd o vs)).congr fun x => by rw [List.all_cons]
theorem Rep.zero {o : List Snd} {p : Snd → Bool} {c : Cr} (h : Rep o p c) (hl : o.length ≤ 256) : c = zC ↔ ∀ x ∈ o, p x = false := by
  constructor
  · intro e x hx
    obtain ⟨i, hi, rfl⟩ := List.getElem_of_mem hx
    have := h i (by omega)
    rw [e, bitC_z, decide_eq_true hi, Bool.true_and] at this
    simpa [List.getD, List.getElem?_eq_getElem hi] using this.symm
  · intro hp
    refine bitC_ext fun i hi => ?_
    rw [h i hi, bitC_z]
    by_cases hl : i < o.length
    · rw [decide_eq_true hl, Bool.true_and]
      have := hp _ (List.getElem_mem hl)
      simpa [List.getD, List.getElem?_eq_getElem hl] using this
    · rw [decide_eq_false hl, Bool.false_and]
/-- The values t keep out all others of the crowd. -/
def Kills (o : List Snd) (p : Snd → Bool) (t : List Snd) : Prop := ∀ x ∈ o, p x = true → (t.all fun v => sat x v) = false
theorem srch_some {o : List Snd} (hl : o.length ≤ 256) : ∀ (vs : List Snd) (m : Nat) (p : Snd → Bool) (left : Cr) (t : List Snd), Rep o p left → t.Sublist vs → t.length ≤ m → Kills o p t → (srch o vs m left).isSome = true := by
  intro vs
  induction vs with
  | nil =>
    intro m p left t hr ht _ hk
    have : t = [] := by simpa using ht
    subst this
    have hz : left = zC := (hr.zero hl).2 fun x hx => by
      by_cases h : p x = true
      · have := hk x hx h; simp at this
      · simpa using h
    unfold srch
    rw [if_pos hz]; rfl
  | cons v vs ih =>
    intro m p left t hr ht hm hk
    by_cases hz : left = zC
    · unfold srch; rw [if_pos hz]; rfl
    have hne : ¬ ∀ x ∈ o, p x = false := fun h => hz ((hr.zero hl).2 h)
    have ht0 : t ≠ [] := fun e => hne fun x hx => by
      by_cases h : p x = true
      · have := hk x hx h; rw [e] at this; simp at this
      · simpa using h
    have hm0 : m ≠ 0 := fun e => ht0 (List.eq_nil_of_length_eq_zero (by omega))
    have hs : srch o (v :: vs) m left = srL o (v :: vs) m left := by unfold srch; rw [if_neg hz, if_neg hm0]
    have hs2 : srch o vs m left = srL o vs m left := by unfold srch; rw [if_neg hz, if_neg hm0]
    rw [hs, srL_cons]
    have hb : meC left (bhd o (v :: vs)) = zC := ((hr.me (rep_bhd o (v :: vs))).zero hl).2 fun x hx => by
      by_cases h : p x = true
      · have h2 := hk x hx h
        rw [h, Bool.true_and]
        rw [List.all_eq_false] at h2 ⊢
        obtain ⟨y, hy, h3⟩ := h2
        exact ⟨y, ht.subset hy, h3⟩
      · simp [h]
    rw [if_pos hb]
    by_cases hin : ∃ t', t = v :: t' ∧ t'.Sublist vs
    · obtain ⟨t', rfl, ht'⟩ := hin
      have h1 := ih (m - 1) _ _ t' (hr.me (rep_thr o v)) ht' (by simp at hm; omega) (fun x hx h => by
        rw [Bool.and_eq_true] at h
        have := hk x hx h.1
        rw [List.all_cons, h.2, Bool.true_and] at this
        exact this)
      cases hq : srch o vs (m - 1) (meC left (thr o v)) with
      | some r => rfl
      | none => rw [hq] at h1; cases h1
    · have ht2 : t.Sublist vs := by
        cases ht with
        | cons _ h => exact h
        | cons_cons _ h => exact absurd ⟨_, rfl, h⟩ hin
      have h1 := ih m p left t hr ht2 hm hk
      cases hq : srch o vs (m - 1) (meC left (thr o v)) with
      | some r => rfl
      | none => rw [← hs2]; exact h1
/-- The condition that has just these values. -/
def unL (t : List Snd) : Snd := t.foldr uniS (0#32, 0#32)
theorem srch_found {o : List Snd} (hl : o.length ≤ 256) : ∀ (vs : List Snd) (m : Nat) (p : Snd → Bool) (left : Cr) (r : Snd), Rep o p left → srch o vs m left = some r → ∃ t, t.Sublist vs ∧ t.length ≤ m ∧ r = unL t ∧ Kills o p t := by
  have hzc : ∀ (p : Snd → Bool) (left : Cr), Rep o p left → left = zC → Kills o p [] := fun p left hr hz x hx h => by
    have := (hr.zero hl).1 hz x hx
    rw [h] at this; cases this
  intro vs
  induction vs with
  | nil =>
    intro m p left r hr h
    unfold srch at h
    by_cases hz : left = zC
    · rw [if_pos hz] at h
      obtain rfl := Option.some.inj h
      exact ⟨[], List.Sublist.refl _, Nat.zero_le _, rfl, hzc p left hr hz⟩
    · rw [if_neg hz] at h
      split at h
      · cases h
      · simp [srL] at h
  | cons v vs ih =>
    intro m p left r hr h
    by_cases hz : left = zC
    · unfold srch at h
      rw [if_pos hz] at h
      obtain rfl := Option.some.inj h
      exact ⟨[], List.nil_sublist _, Nat.zero_le _, rfl, hzc p left hr hz⟩
    by_cases hm0 : m = 0
    · unfold srch at h
      rw [if_neg hz, if_pos hm0] at h
      cases h
    have hs : srch o (v :: vs) m left = srL o (v :: vs) m left := by unfold srch; rw [if_neg hz, if_neg hm0]
    have hs2 : srch o vs m left = srL o vs m left := by unfold srch; rw [if_neg hz, if_neg hm0]
    rw [hs, srL_cons] at h
    split at h
    · cases hq : srch o vs (m - 1) (meC left (thr o v)) with
      | some r' =>
        rw [hq] at h
        obtain rfl := Option.some.inj h
        obtain ⟨t, h1, h2, h3, h4⟩ := ih _ _ _ _ (hr.me (rep_thr o v)) hq
        refine ⟨v :: t, h1.cons_cons v, by simp; omega, by rw [h3]; rfl, fun x hx hp => ?_⟩
        rw [List.all_cons]
        by_cases hv : sat x v = true
        · rw [hv, Bool.true_and]; exact h4 x hx (by simp only []; rw [hp, hv]; rfl)
        · simp [hv]
      | none =>
        rw [hq] at h
        simp only at h
        rw [← hs2] at h
        obtain ⟨t, h1, h2, h3, h4⟩ := ih _ _ _ _ hr h
        exact ⟨t, h1.cons v, h2, h3, h4⟩
    · cases h
end Go.Proofs.YtpnmapfabjdfjaaDoor

/-
  What does not depend on the order of an inventory: its classes, its needed features, its gaps (pure).
-/
namespace Go.Proofs.YtpnmapfabjdfjaaDoor
open Go.RowKit Go.Sort
theorem cm_same {s t : List Snd} (h : ∀ x, x ∈ s ↔ x ∈ t) : cmS s = cmS t := by
  by_cases hs : s = []
  · subst hs
    have : t = [] := List.eq_nil_iff_forall_not_mem.2 fun x hx => by have := (h x).2 hx; simp at this
    rw [this]
  · have ht : t ≠ [] := fun e => by
      obtain ⟨x, hx⟩ := List.exists_mem_of_ne_nil _ hs
      have := (h x).1 hx
      rw [e] at this
      simp at this
    exact sat_anti (cm_mono hs fun x hx => (h x).1 hx) (cm_mono ht fun x hx => (h x).2 hx)
theorem pk_half (c : Nat) : ∀ (l : List Snd) (i : Nat), pk c l (i + 1) = pk (c / 2) l i
  | [], _ => rfl
  | x :: l, i => by
    unfold pk
    rw [Nat.testBit_succ, pk_half c l (i + 1)]
/-- The choice of the sounds with a property. -/
def bitsP (p : Snd → Bool) : List Snd → Nat
  | [] => 0
  | x :: l => 2 * bitsP p l + (if p x then 1 else 0)
theorem bitsP_cons (p : Snd → Bool) (x : Snd) (l : List Snd) : bitsP p (x :: l) = 2 * bitsP p l + (if p x then 1 else 0) := rfl
theorem bitsP_lt (p : Snd → Bool) : ∀ l : List Snd, bitsP p l < 2 ^ l.length
  | [] => by simp [bitsP]
  | x :: l => by
    have := bitsP_lt p l
    unfold bitsP
    rw [List.length_cons, Nat.pow_succ]
    split <;> omega
theorem pk_bitsP (p : Snd → Bool) : ∀ l : List Snd, pk (bitsP p l) l 0 = l.filter p
  | [] => rfl
  | x :: l => by
    have ih := pk_bitsP p l
    have e : bitsP p (x :: l) / 2 = bitsP p l := by rw [bitsP_cons]; split <;> omega
    have hb : (bitsP p (x :: l)).testBit 0 = p x := by
      rw [Nat.testBit_zero]
      rw [bitsP_cons]
      cases p x
      · simp
      · simp
    unfold pk
    rw [hb, pk_half, e, ih]
    cases hp : p x
    · rw [List.filter_cons_of_neg (by simp [hp])]; rfl
    · rw [List.filter_cons_of_pos hp]; rfl
/-- The conditions of closures, each once, in the order in which they come up. -/
def dd (l : List Snd) : Nat → List Snd
  | 0 => []
  | c + 1 => if c = 0 then [] else addK (dd l c) (cmS (pk c l 0))
theorem dd_nodup (l : List Snd) : ∀ m, (dd l m).Nodup
  | 0 => by simp [dd]
  | c + 1 => by
    unfold dd
    split
    · simp
    · exact addK_nodup (dd_nodup l c)
theorem dd_len (l : List Snd) : ∀ m, (dd l m).length ≤ m - 1
  | 0 => by simp [dd]
  | c + 1 => by
    have := dd_len l c
    unfold dd
    split
    · simp
    · have h2 := addK_len (dd l c) (cmS (pk c l 0))
      omega
theorem dd_mem (l : List Snd) (C : Snd) : ∀ m, C ∈ dd l m ↔ ∃ c, c ≠ 0 ∧ c < m ∧ C = cmS (pk c l 0)
  | 0 => by simp [dd]
  | m + 1 => by
    have ih := dd_mem l C m
    unfold dd
    by_cases h : m = 0
    · rw [if_pos h]
      constructor
      · intro h2; simp at h2
      · rintro ⟨c, h1, h2, _⟩; omega
    · rw [if_neg h, addK_mem, ih]
      constructor
      · rintro (⟨c, h1, h2, h3⟩ | rfl)
        · exact ⟨c, h1, by omega, h3⟩
        · exact ⟨m, h, by omega, rfl⟩
      · rintro ⟨c, h1, h2, h3⟩
        by_cases hc : c = m
        · subst hc; exact .inr h3
        · exact .inl ⟨c, h1, by omega, h3⟩
theorem dd_all (l : List Snd) (C : Snd) : C ∈ dd l (2 ^ l.length) ↔ ∃ P : List Snd, P ≠ [] ∧ (∀ x ∈ P, x ∈ l) ∧ C = cmS P := by
  rw [dd_mem]
  constructor
  · rintro ⟨c, h1, h2, rfl⟩
    exact ⟨pk c l 0, pk_ne h1 h2, fun x hx => pk_mem hx, rfl⟩
  · rintro ⟨P, h1, h2, rfl⟩
    have hf : ∀ x, x ∈ pk (bitsP (fun x => decide (x ∈ P)) l) l 0 ↔ x ∈ P := fun x => by
      rw [pk_bitsP, List.mem_filter, decide_eq_true_iff]
      exact ⟨fun h => h.2, fun h => ⟨h2 x h, h⟩⟩
    refine ⟨bitsP (fun x => decide (x ∈ P)) l, fun e => ?_, bitsP_lt _ _, (cm_same hf).symm⟩
    obtain ⟨x, hx⟩ := List.exists_mem_of_ne_nil _ h1
    have := (hf x).2 hx
    rw [e] at this
    have hz : ∀ (l : List Snd) (i : Nat), pk 0 l i = [] := by
      intro l
      induction l with
      | nil => intro i; rfl
      | cons y l ih => intro i; unfold pk; rw [Nat.zero_testBit, ih]; rfl
    rw [hz] at this
    simp at this
theorem len_of_sub' {α : Type} [DecidableEq α] : ∀ (a b : List α), a.Nodup → (∀ x ∈ a, x ∈ b) → a.length ≤ b.length
  | [], _, _, _ => Nat.zero_le _
  | x :: a, b, hn, hs => by
    rw [List.nodup_cons] at hn
    have hx := hs x (by simp)
    have h := len_of_sub' a (b.erase x) hn.2 (fun y hy => by
      have hne : y ≠ x := fun e => hn.1 (e ▸ hy)
      exact (List.mem_erase_of_ne hne).2 (hs y (by simp [hy])))
    rw [List.length_erase_of_mem hx] at h
    have := List.length_pos_of_mem hx
    simp
    omega
/-- The number of classes hangs on the sounds alone. -/
theorem dd_same {l l' : List Snd} (h : ∀ x, x ∈ l ↔ x ∈ l') : (dd l (2 ^ l.length)).length = (dd l' (2 ^ l'.length)).length := by
  have hm : ∀ C, C ∈ dd l (2 ^ l.length) ↔ C ∈ dd l' (2 ^ l'.length) := fun C => by
    rw [dd_all, dd_all]
    constructor
    · rintro ⟨P, h1, h2, h3⟩; exact ⟨P, h1, fun x hx => (h x).1 (h2 x hx), h3⟩
    · rintro ⟨P, h1, h2, h3⟩; exact ⟨P, h1, fun x hx => (h x).2 (h2 x hx), h3⟩
  exact Nat.le_antisymm (len_of_sub _ _ (dd_nodup _ _) fun C hC => (hm C).1 hC) (len_of_sub _ _ (dd_nodup _ _) fun C hC => (hm C).2 hC)
theorem addK_map {K L : Type} [DecidableEq K] [DecidableEq L] {g : K → L} {ks : List K} {k : K} (h : ∀ a ∈ ks, g a = g k → a = k) : addK (ks.map g) (g k) = (addK ks k).map g := by
  unfold addK
  by_cases hk : k ∈ ks
  · rw [if_pos hk, if_pos (List.mem_map.2 ⟨k, hk, rfl⟩)]
  · rw [if_neg hk, if_neg (fun hm => by
      obtain ⟨a, ha, e⟩ := List.mem_map.1 hm
      exact hk (h a ha e ▸ ha)), List.map_append]
    rfl
/-- A condition that a closure has. -/
def Clo (l : List Snd) (C : Snd) : Prop := cmS (flt C l) = C
theorem clo_pk {l : List Snd} {c : Nat} (h : pk c l 0 ≠ []) : Clo l (cmS (pk c l 0)) := cm_flt h fun x hx => pk_mem hx
theorem ms_inj {l : List Snd} {C D : Snd} (hc : Clo l C) (hd : Clo l D) (h : ∀ i, i ∈ msL C l 0 ↔ i ∈ msL D l 0) : C = D := by
  rw [← hc, ← hd]
  refine cm_same fun x => ?_
  rw [← msL_flt, ← msL_flt, List.mem_map, List.mem_map]
  exact ⟨fun ⟨i, hi, e⟩ => ⟨i, (h i).1 hi, e⟩, fun ⟨i, hi, e⟩ => ⟨i, (h i).2 hi, e⟩⟩
theorem kk_dd {l : List Snd} (hl : l.length ≤ 256) : ∀ m, m ≤ 2 ^ l.length → kk l m = (dd l m).map fun C => crT (msL C l 0)
  | 0, _ => rfl
  | c + 1, h => by
    have ih := kk_dd hl c (by omega)
    unfold kk dd
    by_cases hc : c = 0
    · rw [if_pos hc, if_pos hc]; rfl
    · rw [if_neg hc, if_neg hc, ih]
      have e : crAt l c = (fun C => crT (msL C l 0)) (cmS (pk c l 0)) := rfl
      rw [e]
      refine addK_map fun a ha hag => ?_
      obtain ⟨d, h1, h2, rfl⟩ := (dd_mem l a c).1 ha
      have hlt : ∀ C : Snd, ∀ i ∈ msL C l 0, i < 256 := fun C i hi => by have := msL_lt C l 0 i hi; omega
      refine ms_inj (clo_pk (pk_ne h1 (by omega))) (clo_pk (pk_ne hc (by omega))) fun i => ?_
      constructor
      · intro hi; exact (crT_mem hag i (hlt _ i hi)).1 hi
      · intro hi; exact (crT_mem hag i (hlt _ i hi)).2 hi
theorem cnt_dd {l : List Snd} (h : ckE l 12 = 0) : cntN l = ((dd l (2 ^ l.length)).length : Int) := by
  have hl := ckE_len h
  unfold cntN
  rw [if_pos h, kk_dd (by omega) _ (Nat.le_refl _), List.length_map]
theorem cnt_same {l l' : List Snd} (h : ckE l 12 = 0) (h' : ckE l' 12 = 0) (hm : ∀ x, x ∈ l ↔ x ∈ l') : cntN l = cntN l' := by rw [cnt_dd h, cnt_dd h', dd_same hm]
theorem cnt_bounds {l : List Snd} (h : ckE l 12 = 0) : (min l.length 1 : Nat) ≤ cntN l ∧ cntN l ≤ ((2 ^ l.length : Nat) : Int) - 1 := by
  rw [cnt_dd h]
  have h1 := dd_len l (2 ^ l.length)
  have h0 := Nat.two_pow_pos l.length
  refine ⟨?_, by omega⟩
  by_cases hn : l = []
  · subst hn; simp
  · have h2 : cmS l ∈ dd l (2 ^ l.length) := (dd_all l _).2 ⟨l, hn, fun _ h => h, rfl⟩
    have := List.length_pos_of_mem h2
    have h3 : min l.length 1 ≤ 1 := Nat.min_le_right _ _
    omega
end Go.Proofs.YtpnmapfabjdfjaaDoor

/-
  A list of pairs of bytes: how it is read.
-/
namespace Go.Proofs.YtpnmapfabjdfjaaDoor
set_option maxRecDepth 100000
open Go.ChangeShapes Go.WideShapes Go.ChangeAt Go.RowKit Go.Joins
/-- A slice of pairs of bytes (an empty one may have any address). -/
def Pz (w : World) (v : Value) (l : List (Nat × Nat)) : Prop :=
  ((v = .slice none 0 0 ∨ ∃ aa, v = .slice (some aa) 0 0) ∧ l = []) ∨ ∃ b off cap, v = .slice (some ⟨b, off, none⟩) l.length cap ∧ l.length ≤ cap ∧ cap ≤ maxLen ∧ b < w.heap.size ∧ ∀ i (h : i < l.length), (w.cell? ⟨b, off + i * 2, none⟩ = some (.int .u8 (l[i].1 : Int)) ∧ w.cell? ⟨b, off + i * 2 + 1, none⟩ = some (.int .u8 (l[i].2 : Int))) ∧ l[i].1 ≤ 255 ∧ l[i].2 ≤ 255
theorem Pz.nil (w : World) : Pz w (.slice none 0 0) [] := .inl ⟨.inl rfl, rfl⟩
theorem Pz.below {w w' : World} {v : Value} {l : List (Nat × Nat)} (h : Pz w v l) (hb : Below w.heap.size w w') : Pz w' v l := by
  rcases h with h | ⟨b, off, cap, h1, hc, hm, h2, h3⟩
  · exact .inl h
  · exact .inr ⟨b, off, cap, h1, hc, hm, by have := hb.size; omega, fun i hi => ⟨⟨(hb.cell (p := ⟨b, off + i * 2, none⟩) h2).trans (h3 i hi).1.1, (hb.cell (p := ⟨b, off + i * 2 + 1, none⟩) h2).trans (h3 i hi).1.2⟩, (h3 i hi).2⟩⟩
theorem Pz.open {w : World} {v : Value} {l : List (Nat × Nat)} (h : Pz w v l) : ∃ ao cap, v = .slice ao l.length cap ∧ l.length ≤ cap ∧ cap ≤ maxLen ∧ (∀ i (_ : i < l.length), ∃ b off, ao = some ⟨b, off, none⟩ ∧ b < w.heap.size ∧ (w.cell? ⟨b, off + i * 2, none⟩ = some (.int .u8 (l[i].1 : Int)) ∧ w.cell? ⟨b, off + i * 2 + 1, none⟩ = some (.int .u8 (l[i].2 : Int))) ∧ l[i].1 ≤ 255 ∧ l[i].2 ≤ 255) := by
  rcases h with ⟨rfl | ⟨aa, rfl⟩, rfl⟩ | ⟨b, off, cap, rfl, hc, hm, hb, h3⟩
  · exact ⟨none, 0, rfl, by simp, by simp, fun i hi => by simp at hi⟩
  · exact ⟨some aa, 0, rfl, by simp, by simp, fun i hi => by simp at hi⟩
  · exact ⟨some ⟨b, off, none⟩, cap, rfl, hc, hm, fun i hi => ⟨b, off, rfl, hb, h3 i hi⟩⟩
/-- The two cells of a pair of bytes in memory. -/
theorem byte_cells {H : Type} {enc : TypeId × Value → H} {w : World} {base n : Nat} {spare : Nat → Bool} {held : Bool} {a : Addr} {y : DataW H × List MemPlace}
    (h : (w.cells? base a 2).bind (DataW.trod enc Tryd.prog w base spare held n 99) = some y) : ∃ s : Nat × Nat, (w.cell? a = some (.int .u8 (s.1 : Int)) ∧ w.cell? (a.add 1) = some (.int .u8 (s.2 : Int))) ∧ s.1 ≤ 255 ∧ s.2 ≤ 255 := by
  rw [Option.bind_eq_some_iff] at h
  obtain ⟨cs, hc, ht⟩ := h
  unfold World.cells? at hc
  split at hc
  · rw [show List.range 2 = [0, 1] from rfl] at hc
    simp only [List.mapM_cons, List.mapM_nil, Option.bind_eq_bind, Option.pure_def, Option.bind_eq_some_iff, Option.some.injEq] at hc
    obtain ⟨c0, h0, l1, ⟨c1, h1, l2, rfl, rfl⟩, rfl⟩ := hc
    obtain ⟨xs, m, _, _, _, hl, he⟩ := DataW.trod_array Tryd.underlying99 ht
    have k1 : Tryd.prog.cellsOf 5 = 1 := by kernel_rfl
    have t0 := he 0 (by decide)
    have t1 := he 1 (by decide)
    rw [k1, List.getElem?_eq_getElem (by omega)] at t0 t1
    simp at t0 t1
    obtain ⟨z0, e0, _, w0⟩ := DataW.trod_int Tryd.underlying5 t0
    obtain ⟨z1, e1, _, w1⟩ := DataW.trod_int Tryd.underlying5 t1
    have b0 := bounds_u8 w0
    have b1 := bounds_u8 w1
    simp at e0 e1
    subst e0; subst e1
    refine ⟨(z0.toNat, z1.toNat), ⟨?_, ?_⟩, by simp only []; omega, by simp only []; omega⟩
    · rw [show ((z0.toNat : Nat) : Int) = z0 from by omega]; simpa [Addr.add] using h0
    · rw [show ((z1.toNat : Nat) : Int) = z1 from by omega]; exact h1
  · cases hc
/-- How a list of pairs of bytes is read. -/
theorem open_pz {H : Type} {enc : TypeId × Value → H} {w : World} {base : Nat} {spare : Nat → Bool} {held : Bool} {r : Reach} {b0 : Nat} {v : Value} {d : DataW H} {p : List MemPlace}
    (hv : Value.okWide Tryd.prog w r b0 51 v) (h : DataW.Trod enc Tryd.prog w base spare held 51 v d p) : ∃ l : List (Nat × Nat), Pz w v l := by
  obtain ⟨fuel, hf⟩ := h
  have hk : Tryd.prog.cellsOf 99 = 2 := by kernel_rfl
  rcases DataW.trod_slice Tryd.underlying51 hf with ⟨h0, _⟩ | ⟨a, len, cap, elems, rest, n, _, hcs, _, _, hl, hm, hlen, hel, _, _⟩
  · simp [Value.cells] at h0
    obtain ⟨ao, ln, cp, rfl⟩ := okWide_slice Tryd.underlying51 hv
    simp at h0
    obtain ⟨rfl, rfl, rfl⟩ := h0
    exact ⟨[], Pz.nil w⟩
  · obtain ⟨ao, ln, cp, rfl⟩ := okWide_slice Tryd.underlying51 hv
    simp [Value.cells] at hcs
    obtain ⟨rfl, rfl, rfl⟩ := hcs
    have hok : Cell.ok Tryd.prog w r b0 51 (.slice (some a) ln cp) := by
      simpa [Value.okWide, Cell.okWide, Tryd.underlying51] using hv
    have hhas : ln ≤ cp ∧ (cp : Int) ≤ IntKind.i64.max ∧ w.has Tryd.prog r b0 a 99 cp := by
      simpa [Cell.ok, Tryd.underlying51] using hok
    obtain ⟨_, hsp, row, cells, hsh, _⟩ := hhas.2.2
    obtain ⟨ab, aoff, asp⟩ := a
    simp only at hsp
    subst hsp
    have hblk : ab < w.heap.size := by
      unfold World.shape? at hsh
      simp only at hsh
      rcases Nat.lt_or_ge ab w.heap.size with h1 | h1
      · exact h1
      · rw [Array.getElem?_eq_none h1] at hsh; cases hsh
    have each : ∀ i, i < ln → ∃ s : Nat × Nat, (w.cell? ⟨ab, aoff + i * 2, none⟩ = some (.int .u8 (s.1 : Int)) ∧ w.cell? ⟨ab, aoff + i * 2 + 1, none⟩ = some (.int .u8 (s.2 : Int))) ∧ s.1 ≤ 255 ∧ s.2 ≤ 255 := fun i hi => by
      have h1 := hel i hi
      rw [hk, List.getElem?_eq_getElem (by omega)] at h1
      obtain ⟨s, ⟨c0, c1⟩, b0, b1⟩ := byte_cells h1
      refine ⟨s, ⟨?_, ?_⟩, b0, b1⟩
      · rw [addr_add] at c0; exact c0
      · rw [addr_add, addr_add] at c1; exact c1
    obtain ⟨f, hf2⟩ : ∃ f : Nat → Nat × Nat, ∀ i, i < ln → (w.cell? ⟨ab, aoff + i * 2, none⟩ = some (.int .u8 ((f i).1 : Int)) ∧ w.cell? ⟨ab, aoff + i * 2 + 1, none⟩ = some (.int .u8 ((f i).2 : Int))) ∧ (f i).1 ≤ 255 ∧ (f i).2 ≤ 255 :=
      ⟨fun i => if h : i < ln then Classical.choose (each i h) else (0, 0), fun i hi => by simp only [dif_pos hi]; exact Classical.choose_spec (each i hi)⟩
    refine ⟨(List.range ln).map f, .inr ⟨ab, aoff, cp, by simp, by simpa using hl, hm, hblk, fun i hi => ?_⟩⟩
    have hi' : i < ln := by simpa using hi
    simpa using hf2 i hi'
end Go.Proofs.YtpnmapfabjdfjaaDoor

/-
  NaturalCubes: its inventories, and what they answer.
-/
namespace Go.Proofs.YtpnmapfabjdfjaaDoor
open Go.RowKit Go.Sort
/-- The corner x of the cube of K features. -/
def mkS (K x : Nat) : Snd := (BitVec.ofNat 32 x &&& 16777215#32, (BitVec.ofNat 32 (2 ^ K - 1) &&& 16777215#32) &&& ~~~(BitVec.ofNat 32 x))
def cubA (K x : Nat) : List Snd := (List.range x).map (mkS K)
def cubB (K j x : Nat) : List Snd := ((List.range x).filter fun i => i != j).map (mkS K)
theorem cubA_succ (K x : Nat) : cubA K (x + 1) = cubA K x ++ [mkS K x] := by unfold cubA; rw [List.range_succ, List.map_append]; rfl
theorem cubB_eq (K j : Nat) : cubB K j (j + 1) = cubB K j j := by unfold cubB; rw [List.range_succ, List.filter_append]; simp
theorem cubB_ne (K j x : Nat) (h : x ≠ j) : cubB K j (x + 1) = cubB K j x ++ [mkS K x] := by
  unfold cubB
  rw [List.range_succ, List.filter_append, List.map_append]
  have e : [x].filter (fun i => i != j) = [x] := by simp [h]
  rw [e]; rfl
theorem cubA_len (K x : Nat) : (cubA K x).length = x := by unfold cubA; rw [List.length_map, List.length_range]
theorem cubB_len (K j x : Nat) : (cubB K j x).length ≤ x := by
  unfold cubB
  rw [List.length_map]
  exact Nat.le_trans (List.length_filter_le _ _) (by rw [List.length_range]; exact Nat.le_refl _)
theorem made_k (K x : Nat) (hK : K ≤ 3) (hx : x < 8) (w : World) : Gives 42 #[.int .u32 (x : Int), .int .u32 ((2 ^ K - 1 : Nat) : Int)] w (.agg #[.int .u32 ((mkS K x).1.toNat : Int), .int .u32 ((mkS K x).2.toNat : Int)]) := by
  have h := made_any (BitVec.ofNat 32 x) (BitVec.ofNat 32 (2 ^ K - 1)) w
  have e1 : (BitVec.ofNat 32 x).toNat = x := by rw [BitVec.toNat_ofNat, Nat.mod_eq_of_lt (by omega)]
  have e2 : (BitVec.ofNat 32 (2 ^ K - 1)).toNat = 2 ^ K - 1 := by
    rw [BitVec.toNat_ofNat, Nat.mod_eq_of_lt]
    have : 2 ^ K ≤ 2 ^ 3 := Nat.pow_le_pow_right (by decide) hK
    omega
  rw [e1, e2] at h
  exact h
theorem q1 : ∀ K, K < 4 → 0 < K → ckE (cubA K (2 ^ K)) 12 = 0 ∧ cntN (cubA K (2 ^ K)) = ((3 ^ K : Nat) : Int) ∧ ckE (cubA K (2 ^ K)) 256 = 0 ∧ gapG (cubA K (2 ^ K)) = [] := by decide +kernel
theorem q2 : ∀ K, K < 4 → ∀ j, j < 2 ^ K → ckE (cubB K j (2 ^ K)) 256 = 0 := by decide +kernel
theorem q3 : ∀ j, j < 2 → gapG (cubB 1 j 2) = [] := by decide +kernel
theorem q42 : ∀ j, j < 4 → ((gapG (cubB 2 j 4)).all fun g => decide (g = mkS 2 j)) = true ∧ mkS 2 j ∈ gapG (cubB 2 j 4) := by decide +kernel
theorem q43 : ∀ j, j < 8 → ((gapG (cubB 3 j 8)).all fun g => decide (g = mkS 3 j)) = true ∧ mkS 3 j ∈ gapG (cubB 3 j 8) := by decide +kernel
theorem gaps_none {l Y : List Snd} (h : gapG l = []) (hm : ∀ g, g ∈ Y ↔ gapP l g) : Y = [] := by
  cases Y with
  | nil => rfl
  | cons g t =>
    have := (hm g).1 (by simp)
    rw [← mem_gapG, h] at this
    simp at this
theorem gaps_one {l Y : List Snd} {a : Snd} (h1 : ((gapG l).all fun g => decide (g = a)) = true) (h2 : a ∈ gapG l) (hi : IncS Y) (hm : ∀ g, g ∈ Y ↔ gapP l g) : Y = [a] := inc_one hi (fun g => by
  rw [hm g, ← mem_gapG]
  exact ⟨fun h => of_decide_eq_true (List.all_eq_true.1 h1 g h), fun h => h ▸ h2⟩)
/-- A word that is not empty lies in memory, and so does each of its sounds. -/
theorem wd_mem {W : World} {v : Value} {ss : List Snd} (h : Wd W v ss) (hn : 0 < ss.length) : ∃ g off cap, v = .slice (some ⟨g, off, none⟩) ss.length cap ∧ ss.length ≤ cap ∧ cap ≤ maxLen ∧ ∀ j (hj : j < ss.length), Wd W (.slice (some ⟨g, off + j * 2, none⟩) 1 (cap - j)) [ss[j]] := by
  rcases h with ⟨-, rfl⟩ | ⟨b, off, cap, rfl, hc, hm, hb, h3⟩
  · simp at hn
  · refine ⟨b, off, cap, rfl, hc, hm, fun j hj => .inr ⟨b, off + j * 2, cap - j, rfl, by simp; omega, by omega, hb, fun i hi => ?_⟩⟩
    obtain rfl : i = 0 := by simpa using hi
    have := h3 j hj
    simpa using this
/-- Two rows lie apart. -/
def Dj (u v : Value) : Prop := ∀ k, u.ownBlock = some k → v.ownBlock = some k → False
theorem Own.lies {W : World} {b : Nat} {v : Value} {ss : List Snd} (h : Own W b v ss) (k : Nat) (hk : v.ownBlock = some k) : k < W.heap.size := by
  obtain ⟨_, ⟨rfl, _⟩ | ⟨g, cap, cur, rfl, _, hh, _⟩⟩ := h
  · cases hk
  · cases hk; exact (Array.getElem?_eq_some_iff.1 hh).1
theorem Dj.kept {W W' : World} {b : Nat} {u v : Value} {ss : List Snd} (h : Dj u v) (hv : Own W b v ss) (hg : W.grownBy W' u.ownBlock) : Own W' b v ss := World.ownsRow.kept hv hg (by
  cases e : v.ownBlock with
  | none => exact .inl rfl
  | some k => exact .inr (fun e2 => h k e2.symm e))
theorem Dj.left {W : World} {b g m cap : Nat} {u v : Value} {ss : List Snd} (h : Dj u v) (hv : Own W b v ss) (hg : u.ownBlock = some g ∨ g = W.heap.size) : Dj (.slice (some ⟨g, 0, none⟩) m cap) v := fun k h1 h2 => by
  have e : g = k := by simpa [Value.ownBlock] using h1
  subst e
  rcases hg with hg | hg
  · exact h g hg h2
  · have := hv.lies g h2; omega
theorem Dj.symm {u v : Value} (h : Dj u v) : Dj v u := fun k a b => h k b a
/-- append of one sound to a row of the call's own: where it lies then. -/
theorem wpList_appL {ops : Array Oper} {rest : List Oper} {o : Oper} {a : Act} {w : World} {Q : Exit → Act → World → Prop} (hgd : o.guard = none) (s x : Operand)
    (ho : o.op = .call { callee := .builtin .append, args := #[s, x], argTypes := #[22, 22] })
    (base B : Nat) (v : Value) (ss : List Snd) (p : Snd) (hs : a.eval s = v) (hx : a.eval x = .slice (some ⟨B, 0, none⟩) 1 1) (hB : w.heap[B]? = some (.cells #[.int .u32 (p.1.toNat : Int), .int .u32 (p.2.toNat : Int)] 27 (0, 0))) (hown : Own w base v ss) (hlen : ss.length + 1 ≤ 1000000000000) (hbase : base ≤ w.heap.size)
    (h : ∀ g cap w', Own w' base (.slice (some ⟨g, 0, none⟩) (ss.length + 1) cap) (ss ++ [p]) → w.grownBy w' v.ownBlock → (v.ownBlock = some g ∨ g = w.heap.size) → wpList Tryd.prog ops Q rest (a.put o.dst (.slice (some ⟨g, 0, none⟩) (ss.length + 1) cap)) w') : wpList Tryd.prog ops Q (o :: rest) a w := by
  obtain ⟨i, hi, hz, hs1, hb1⟩ := info_parts infoSound
  refine wpList_append_lies w hgd s x 22 ho base 27 i _ 2 8 Tryd.underlying22 hi hz hs1 hb1 rfl (by decide) v ss.length (flat ss) hs hown ⟨B, 0, none⟩ 1 1 [.int .u32 (p.1.toNat : Int), .int .u32 (p.2.toNat : Int)] hx rfl (World.news_of_block (cs := #[.int .u32 (p.1.toNat : Int), .int .u32 (p.2.toNat : Int)]) hB) (by simp [Value.oneCell']) (by decide) (Nat.le_trans hlen (by decide)) (by omega) hbase w.heap.size rfl ?_
  intro g cap w' h1 hg hat _
  refine h g cap w' ?_ hg hat
  unfold Own
  rw [flat_append, List.length_append]
  exact h1
end Go.Proofs.YtpnmapfabjdfjaaDoor

/-
  Different: the first different sounds of pairs of bytes.
-/
namespace Go.Proofs.YtpnmapfabjdfjaaDoor
open Go.RowKit Go.Sort
def mkB (p : Nat × Nat) : Snd := (BitVec.ofNat 32 p.1 &&& 16777215#32, (BitVec.ofNat 32 p.2 &&& 16777215#32) &&& ~~~(BitVec.ofNat 32 p.1))
/-- Different valid sounds of 8 features. -/
def Good (S : List Snd) : Prop := S.Nodup ∧ ∀ s ∈ S, vld s.1 s.2 = true ∧ s.1.toNat < 256 ∧ s.2.toNat < 256
theorem mkB_good (p : Nat × Nat) (h1 : p.1 ≤ 255) (h2 : p.2 ≤ 255) : vld (mkB p).1 (mkB p).2 = true ∧ (mkB p).1.toNat < 256 ∧ (mkB p).2.toNat < 256 := by
  refine ⟨vld_made _ _, ?_, ?_⟩
  · show (BitVec.ofNat 32 p.1 &&& 16777215#32).toNat < 256
    rw [BitVec.toNat_and, BitVec.toNat_ofNat, Nat.mod_eq_of_lt (by omega)]
    exact Nat.lt_of_le_of_lt Nat.and_le_left (by omega)
  · show ((BitVec.ofNat 32 p.2 &&& 16777215#32) &&& ~~~(BitVec.ofNat 32 p.1)).toNat < 256
    rw [BitVec.toNat_and, BitVec.toNat_and, BitVec.toNat_ofNat, Nat.mod_eq_of_lt (by omega)]
    exact Nat.lt_of_le_of_lt (Nat.le_trans Nat.and_le_left Nat.and_le_left) (by omega)
theorem made_b (p : Nat × Nat) (h1 : p.1 ≤ 255) (h2 : p.2 ≤ 255) (w : World) : Gives 42 #[.int .u32 (p.1 : Int), .int .u32 (p.2 : Int)] w (.agg #[.int .u32 ((mkB p).1.toNat : Int), .int .u32 ((mkB p).2.toNat : Int)]) := by
  have h := made_any (BitVec.ofNat 32 p.1) (BitVec.ofNat 32 p.2) w
  have e1 : (BitVec.ofNat 32 p.1).toNat = p.1 := by rw [BitVec.toNat_ofNat, Nat.mod_eq_of_lt (by omega)]
  have e2 : (BitVec.ofNat 32 p.2).toNat = p.2 := by rw [BitVec.toNat_ofNat, Nat.mod_eq_of_lt (by omega)]
  rw [e1, e2] at h
  exact h
theorem Good.snoc {S : List Snd} {x : Snd} (h : Good S) (hx : x ∉ S) (hv : vld x.1 x.2 = true ∧ x.1.toNat < 256 ∧ x.2.toNat < 256) : Good (S ++ [x]) := by
  refine ⟨?_, fun s hs => ?_⟩
  · rw [List.nodup_append]
    refine ⟨h.1, by simp, fun a ha b hb => ?_⟩
    rw [List.mem_singleton] at hb
    subst hb
    exact fun e => hx (e ▸ ha)
  · rcases List.mem_append.1 hs with hs | hs
    · exact h.2 s hs
    · rw [List.mem_singleton] at hs; subst hs; exact hv
theorem mem_take_more {S : List Snd} {x : Snd} {j : Nat} (hj : j < S.length) : x ∈ S.take (j + 1) ↔ x ∈ S.take j ∨ S[j] = x := by
  rw [List.take_succ_eq_append_getElem hj, List.mem_append, List.mem_singleton]
  exact ⟨fun h => h.elim .inl (fun h => .inr h.symm), fun h => h.elim .inl (fun h => .inr h.symm)⟩
set_option maxRecDepth 100000 in
set_option maxHeartbeats 8000000 in
theorem different_any (l : List (Nat × Nat)) (v : Value) (w : World) (h : Pz w v l) : Calls Tryd.prog 33 #[v] w fun e w' => ∃ m S, e = .returned m ∧ Own w' w.heap.size m S ∧ Good S ∧ S.length ≤ 24 ∧ Below w.heap.size w w' := by
  obtain ⟨ao, cap, rfl, c1, m1, hc⟩ := h.open
  obtain ⟨N, hN⟩ : ∃ N, l.length = N := ⟨_, rfl⟩
  have HC := Lib.hid hc; have HN := Lib.hid hN
  rw [hN] at c1 ⊢
  have l1 : N ≤ 9223372036854775807 := by unfold maxLen at m1; omega
  clear hc hN h m1
  go_enter Tryd.func33, Tryd.ntmps33
  go_wp2_with fail
  go_loopw [3, 4] (fun u i wr => ∃ (k : Nat) (S : List Snd), k ≤ N ∧ i = .int .i64 (k : Int) ∧ Own wr w.heap.size u S ∧ Good S ∧ S.length ≤ 24 ∧ Below w.heap.size w wr) (fun _ i _ => N - (intOf i).toNat)
  case atStart => exact ⟨0, [], by omega, rfl, Own.nil _ _, ⟨by simp, by simp⟩, by simp, Below.refl _ _⟩
  case round =>
  obtain ⟨k, S, hk, rfl, ho, hg, hs, hw⟩ := hrel
  obtain ⟨oa, oc, hov, hoc, hom, hcell⟩ := ho.wd.open
  obtain ⟨n, hn⟩ : ∃ n, S.length = n := ⟨_, rfl⟩
  rw [hn] at hov hs hoc
  subst hov
  have HO := Lib.hid ho; have HG := Lib.hid hg; have HW := Lib.hid hw; have HNn := Lib.hid hn; have HCELL := Lib.hid hcell
  have l2 : n ≤ 9223372036854775807 := by omega
  clear ho hg hw hn hcell hom
  by_cases hlt : k < N
  · have e1 : decide ((k : Int) < (N : Int)) = true := decide_eq_true (by omega)
    have e1' : decide (k < N) = true := decide_eq_true hlt
    by_cases hfull : n < 24
    · have e2 : decide ((n : Int) < 24) = true := decide_eq_true (by omega)
      have e2' : decide (n < 24) = true := decide_eq_true hfull
      have hkl : k < l.length := by rw [HN.out]; exact hlt
      obtain ⟨b, off, hao, lb, ⟨d0, d1⟩, q0, q1⟩ := HC.out k hkl
      subst hao
      have hmk := made_b l[k] q0 q1
      have hgd := mkB_good l[k] q0 q1
      generalize mkB l[k] = x at *
      generalize l[k] = p at *
      obtain ⟨pa, pb⟩ := p
      simp only at d0 d1 q0 q1 hmk
      have hw3 : IntKind.u32.wrap (pa : Int) = (pa : Int) := by rw [IntKind.wrap_u32]; omega
      have hw4 : IntKind.u32.wrap (pb : Int) = (pb : Int) := by rw [IntKind.wrap_u32]; omega
      have hk3 : (k : Int) < (N : Int) := by omega
      have hk0 : (0 : Int) ≤ (k : Int) := by omega
      have KK : Hid (∀ W2 : World, Below wr.heap.size wr W2 → W2.cell? ⟨b, off + k * 2, none⟩ = some (.int .u8 (pa : Int)) ∧ W2.cell? ⟨b, off + k * 2 + 1, none⟩ = some (.int .u8 (pb : Int))) := Lib.hid (fun W2 hW => by
        have lb2 := Nat.lt_of_lt_of_le lb HW.out.size
        exact ⟨((hW.cell (p := ⟨b, _, none⟩) lb2).trans (HW.out.cell (p := ⟨b, _, none⟩) lb)).trans d0, ((hW.cell (p := ⟨b, _, none⟩) lb2).trans (HW.out.cell (p := ⟨b, _, none⟩) lb)).trans d1⟩)
      obtain ⟨xp, xm⟩ := x
      have HMK := Lib.hid hmk; have HGD := Lib.hid hgd
      clear d0 d1 hmk hgd HC
      go_wp2_with fail
      refine wp_region_makers 14 [(13, (.cells #[.int .u32 0, .int .u32 0] 27))] [0, 1, 2, 3, 4, 5, 6, 7, 8, 9, 10, 11, 12, 13] ?A5 _ (by kernel_rfl) (by kernel_rfl) ?hrun5 (by simp [quiets, mkOf]; rfl) ?walk5 ?fin5
      case hrun5 =>
        intro x hx
        simp only [List.mem_cons, List.not_mem_nil, or_false] at hx
        rcases hx with rfl
        exact ⟨_, rfl, rfl, fun a w => by simp [go_sem, ptr]⟩
      case walk5 =>
        intro W2 hW2
        obtain ⟨a0, a1⟩ := KK.out W2 hW2
        have p0 := cell_regrown a0
        have p1 := cell_regrown a1
        repeat (go_big_quiet_step (first
          | (go_at_call 42; with_reducible exact Calls.regrown_of (HMK.out _))))
        refine wpQuiet_nil ?_
        rfl
      intro bs w5 hb hF hN'
      obtain ⟨hq, hqb⟩ := hF (13, (.cells #[.int .u32 0, .int .u32 0] 27)) (by simp)
      simp only [List.map_cons, List.map_nil, List.foldr_cons, List.foldr_nil] at *
      generalize bs 13 = q at *
      have HB5 := Lib.hid (hb.setCell2 hq (.int .u32 (xp.toNat : Int)) (.int .u32 (xm.toNat : Int)))
      have R3 := Lib.hid (two_set (x' := .int .u32 (xp.toNat : Int)) (y' := .int .u32 (xm.toNat : Int)) hqb)
      have c0 := cell_block hqb (o := 0) rfl
      have c1 := cell_block hqb (o := 1) rfl
      have f0 := frozen_block hqb (o := 0)
      have f1 := frozen_block hqb (o := 1)
      have HQ := Lib.hid hq
      clear bs hF hN' hb hqb KK HMK hq
      simp only [dstOf, ptr, Act.put, List.getElem?_toArray, List.getElem?_cons_succ, List.getElem?_cons_zero, Option.bind_some, List.setIfInBounds_toArray, List.set_cons_zero, List.set_cons_succ, List.drop_succ_cons, List.drop_zero]
      go_wp2_with fail
      generalize ((w5.setCell ⟨q, 0, none⟩ (.int .u32 (xp.toNat : Int))).setCell ⟨q, 1, none⟩ (.int .u32 (xm.toNat : Int))) = w6 at *
      clear c0 c1 f0 f1
      have HO6 := Lib.hid (HO.out.below HB5.out); have HW6 := Lib.hid (HW.out.trans (HB5.out.mono HW.out.size))
      have lq := (Array.getElem?_eq_some_iff.1 R3.out).1
      go_loopw [6, 7] (fun c i wi => ∃ j : Nat, j ≤ n ∧ i = .int .i64 (j : Int) ∧ c = .bool (decide ((xp, xm) ∈ S.take j)) ∧ Below w6.heap.size w6 wi) (fun _ i _ => n - (intOf i).toNat)
      case atStart => exact ⟨0, by omega, rfl, by simp, Below.refl _ _⟩
      case round =>
      obtain ⟨j, hj, rfl, rfl, hwi⟩ := hrel
      by_cases hlt2 : j < n
      · have hjl : j < S.length := by rw [HNn.out]; exact hlt2
        have hmt := mem_take_more (x := (xp, xm)) hjl
        obtain ⟨g, go, hao2, lg, d0, d1⟩ := HCELL.out j hjl
        subst hao2
        have lg6 : g < w6.heap.size := Nat.lt_of_lt_of_le lg HB5.out.size
        have d0 := ((hwi.cell (p := ⟨g, _, none⟩) lg6).trans (HB5.out.cell (p := ⟨g, _, none⟩) lg)).trans d0
        have d1 := ((hwi.cell (p := ⟨g, _, none⟩) lg6).trans (HB5.out.cell (p := ⟨g, _, none⟩) lg)).trans d1
        have rq := (hwi.block q lq).trans R3.out
        have r0 := cell_block rq (o := 0) rfl
        have r1 := cell_block rq (o := 1) rfl
        have heq := fun W => snd_eql (S[j].1.toNat : Int) (S[j].2.toNat : Int) ((xp, xm) : Snd).1.toNat ((xp, xm) : Snd).2.toNat W
        rw [snd_beq] at heq
        generalize S[j] = y at *
        obtain ⟨yp, ym⟩ := y
        simp only at d0 d1 heq
        have hj0 : (0 : Int) ≤ (j : Int) := by omega
        have hj3 : (j : Int) < (n : Int) := by omega
        have HWI := Lib.hid hwi; have HMT := Lib.hid hmt
        clear hwi hmt rq HCELL
        by_cases hin : (xp, xm) ∈ S.take j
        · have hnx : decide ((xp, xm) ∈ S.take (j + 1)) = true := decide_eq_true (HMT.out.2 (.inl hin))
          rw [decide_eq_true hin]
          have HNX := Lib.hid hnx
          clear hnx heq hin
          go_wp2_with fail
          go_region
          all_goals go_wp2_with fail
          all_goals (
            go_roundw
            case rel => exact ⟨j + 1, by omega, by go_num, by rw [HNX.out], HWI.out.drew⟩
            case measure => simp [intOf]; omega)
        · have hnx : decide ((xp, xm) ∈ S.take (j + 1)) = decide (((yp, ym) : Snd) = (xp, xm)) := decide_eq_decide.2 (HMT.out.trans ⟨fun h => h.elim (fun h => absurd h hin) id, .inr⟩)
          rw [decide_eq_false hin]
          have HNX := Lib.hid hnx
          clear hnx hin
          generalize decide (((yp, ym) : Snd) = (xp, xm)) = B at *
          go_wp2_with fail
          go_region
          all_goals go_wp2_with fail
          all_goals (
            go_roundw
            case rel => exact ⟨j + 1, by omega, by go_num, by rw [HNX.out], HWI.out.drew⟩
            case measure => simp [intOf]; omega)
      · obtain rfl : j = n := by omega
        have hall : S.take j = S := List.take_of_length_le (by rw [HNn.out]; exact Nat.le_refl _)
        rw [hall]
        have HWI := Lib.hid (HW6.out.trans (hwi.mono HW6.out.size)); have HOI := Lib.hid (HO6.out.below hwi); have RQ := Lib.hid ((hwi.block q lq).trans R3.out)
        clear hwi hall hlt2
        by_cases hin : (xp, xm) ∈ S
        · rw [decide_eq_true hin]
          clear hin
          go_wp2_with fail
          go_roundw
          case rel => exact ⟨k + 1, S, by omega, by go_num, HOI.out, HG.out, by rw [HNn.out]; exact hs, HWI.out⟩
          case measure => simp [intOf]; omega
        · have HGS := Lib.hid (HG.out.snoc hin HGD.out)
          rw [decide_eq_false hin]
          clear hin
          have r0 := cell_block RQ.out (o := 0) rfl
          have r1 := cell_block RQ.out (o := 1) rfl
          have hb8 : Below wr.heap.size wr (wr.alloc (.cells #[.int .u32 (xp.toNat : Int), .int .u32 (xm.toNat : Int)] 27)) := (Below.refl _ _).alloc (Nat.le_refl _) _
          have K8 := Lib.hid (World.alloc_heap_new wr (.cells #[.int .u32 (xp.toNat : Int), .int .u32 (xm.toNat : Int)] 27)); have HO8 := Lib.hid (HOI.out.below hb8); have HW8 := Lib.hid (HWI.out.trans (hb8.mono HWI.out.size))
          clear hb8
          go_wp2_with (at_builtin; (refine wpList_appL rfl (.tmp 49) (.tmp 51) rfl w.heap.size _ _ _ (xp, xm) rfl rfl K8.out HO8.out (by rw [HNn.out]; omega) (HW8.out.size) ?_; intro g cap2 w9 ho9 hg9 hat9; have HO9 := Lib.hid ho9; have HW9 := Lib.hid (HW8.out.grown hg9 HW8.out.size (fun k e => Own.row HO8.out k e)); clear ho9 hg9 hat9))
          go_roundw
          case rel => exact ⟨k + 1, S ++ [(xp, xm)], by omega, by go_num, HO9.out, HGS.out, by rw [List.length_append, HNn.out]; simp; omega, HW9.out⟩
          case measure => simp [intOf]; omega
    · have e2 : decide ((n : Int) < 24) = false := decide_eq_false (by omega)
      have e2' : decide (n < 24) = false := decide_eq_false hfull
      clear HC HCELL
      go_wp2_with fail
      go_returns
      exact ⟨_, S, rfl, HO.out, HG.out, by rw [HNn.out]; exact hs, HW.out⟩
  · have e1 : decide ((k : Int) < (N : Int)) = false := decide_eq_false (by omega)
    have e1' : decide (k < N) = false := decide_eq_false hlt
    clear HC HCELL
    go_wp2_with fail
    go_returns
    exact ⟨_, S, rfl, HO.out, HG.out, by rw [HNn.out]; exact hs, HW.out⟩
end Go.Proofs.YtpnmapfabjdfjaaDoor

/-
  NaturalNeeds: pure facts.
-/
namespace Go.Proofs.YtpnmapfabjdfjaaDoor
open Go.RowKit Go.Sort
theorem set_len {l : List Snd} (h : l.Nodup) : (setS l).length = l.length := by
  refine Nat.le_antisymm (len_of_sub _ _ (setS_nodup l) (fun x hx => (mem_setS l x).1 hx)) (len_of_sub _ _ h (fun x hx => (mem_setS l x).2 hx))
/-- Different valid sounds are an inventory. -/
theorem Good.ck {S : List Snd} (h : Good S) {most : Nat} (hl : S.length ≤ most) : ckE S most = 0 := by
  unfold ckE
  rw [if_neg (by omega), if_pos (List.all_eq_true.2 fun s hs => (h.2 s hs).1), set_len h.1, if_neg (by omega)]
theorem pow_bits {n k : Nat} (h1 : 2 ^ k ≤ n) (h2 : n < 2 ^ (k + 1)) : n.testBit k = true := by
  rw [Nat.testBit_eq_decide_div_mod_eq]
  have h0 : 0 < 2 ^ k := Nat.two_pow_pos k
  have e : n / 2 ^ k = 1 := by
    rw [Nat.pow_succ] at h2
    exact (Nat.div_eq_iff h0).2 (by omega)
  rw [e]; rfl
theorem pred_pow {n : Nat} (h0 : n ≠ 0) (h : n &&& (n - 1) = 0) : ∃ k, n = 2 ^ k := by
  refine ⟨Nat.log2 n, Classical.byContradiction fun hne => ?_⟩
  have h1 : 2 ^ Nat.log2 n ≤ n := Nat.log2_self_le h0
  have h2 : n < 2 ^ (Nat.log2 n + 1) := Nat.lt_log2_self
  have t1 := pow_bits h1 h2
  have t2 := pow_bits (n := n - 1) (k := Nat.log2 n) (by omega) (by omega)
  have t3 : (n &&& (n - 1)).testBit (Nat.log2 n) = true := by rw [Nat.testBit_and, t1, t2]; rfl
  rw [h, Nat.zero_testBit] at t3
  cases t3
theorem pow_pred : ∀ f : Fin 24, (2 ^ f.val) &&& (2 ^ f.val - 1) = 0 := by decide +kernel
theorem one_and {D : BitVec 32} (hD : D.toNat < 16777216) (h0 : D.toNat ≠ 0) : (D.toNat &&& (D.toNat - 1) = 0) ↔ ones D.toNat = 1 := by
  constructor
  · intro h
    obtain ⟨k, hk⟩ := pred_pow h0 h
    have hk2 : k < 24 := by
      refine Classical.byContradiction fun hn => ?_
      have : 2 ^ 24 ≤ 2 ^ k := Nat.pow_le_pow_right (by decide) (by omega)
      omega
    have := oc_pow ⟨k, hk2⟩
    rw [oc_sh ⟨k, hk2⟩] at this
    rw [hk]; exact this
  · intro h
    obtain ⟨k, hk, e⟩ := one_pow hD h
    have h1 := oc_sh ⟨k, hk⟩
    simp only at h1
    rw [e, h1]
    exact pow_pred ⟨k, hk⟩
/-- How the law asks whether a difference is of one feature. -/
theorem one_asked {D : BitVec 32} (hD : D.toNat < 16777216) (h0 : D.toNat ≠ 0) : (bits .and .u32 (D.toNat : Int) ((D.toNat : Int) - 1) != 0) = !(decide (ones D.toNat = 1)) := by
  have e : bits .and .u32 (D.toNat : Int) ((D.toNat : Int) - 1) = ((D.toNat &&& (D.toNat - 1) : Nat) : Int) := by
    have e1 : (D.toNat : Int) - 1 = ((BitVec.ofNat 32 (D.toNat - 1)).toNat : Int) := by
      rw [BitVec.toNat_ofNat, Nat.mod_eq_of_lt (by omega)]
      omega
    rw [e1, bv_and, ofInt32_nat, ofInt32_nat, BitVec.toNat_and, BitVec.toNat_ofNat, Nat.mod_eq_of_lt (by omega)]
  rw [e]
  by_cases h : ones D.toNat = 1
  · rw [(one_and hD h0).2 h, h]; rfl
  · have h2 : (D.toNat &&& (D.toNat - 1)) ≠ 0 := fun e => h ((one_and hD h0).1 e)
    rw [decide_eq_false h, Bool.not_false, bne_iff_ne]
    omega
theorem dif_ne {a b : Snd} (h : a ≠ b) : (dif a b).toNat ≠ 0 := by
  intro e
  have e2 : dif a b = 0#32 := BitVec.eq_of_toNat_eq (by simpa using e)
  unfold dif at e2
  obtain ⟨h1, h2⟩ : a.1 ^^^ b.1 = 0#32 ∧ a.2 ^^^ b.2 = 0#32 := by
    constructor
    · apply BitVec.eq_of_getLsbD_eq
      intro i hi
      have := congrArg (fun x => x.getLsbD i) e2
      simp only [BitVec.getLsbD_or, BitVec.getLsbD_zero, Bool.or_eq_false_iff] at this
      rw [this.1, BitVec.getLsbD_zero]
    · apply BitVec.eq_of_getLsbD_eq
      intro i hi
      have := congrArg (fun x => x.getLsbD i) e2
      simp only [BitVec.getLsbD_or, BitVec.getLsbD_zero, Bool.or_eq_false_iff] at this
      rw [this.2, BitVec.getLsbD_zero]
  exact h (Prod.ext (BitVec.xor_eq_zero_iff.1 h1) (BitVec.xor_eq_zero_iff.1 h2))
theorem inn_pre (l : List Snd) (i : Nat) : ∀ d m, inn l i m <+: inn l i (m + d)
  | 0, _ => List.prefix_refl _
  | d + 1, m => by
    have h := inn_pre l i d m
    rw [show m + (d + 1) = (m + d) + 1 from rfl, inn_succ]
    exact h.trans (List.prefix_append _ _)
theorem outP_pre (l : List Snd) : ∀ d k, outP l k <+: outP l (k + d)
  | 0, _ => List.prefix_refl _
  | d + 1, k => by
    have h := outP_pre l d k
    rw [show k + (d + 1) = (k + d) + 1 from rfl, outP_succ]
    exact h.trans (List.prefix_append _ _)
/-- The pairs that were met so far stand at the head of all. -/
theorem met_pre {l : List Snd} {k j : Nat} (hk : k < l.length) (hj : j ≤ l.length) : outP l k ++ inn l k j <+: prs l := by
  have h1 : inn l k j <+: inn l k l.length := by
    have := inn_pre l k (l.length - j) j
    rw [show j + (l.length - j) = l.length from by omega] at this
    exact this
  have h2 := outP_pre l (l.length - (k + 1)) (k + 1)
  rw [show k + 1 + (l.length - (k + 1)) = l.length from by omega, outP_succ] at h2
  obtain ⟨t, ht⟩ := h1
  refine List.IsPrefix.trans ⟨t, ?_⟩ h2
  rw [List.append_assoc, ht]
/-- The pair at hand is the next one. -/
theorem met_next {l : List Snd} {k j : Nat} (hk : k < j) (hj : j < l.length) (h1 : one (l.getD k zs) (l.getD j zs) = true) : ∃ h : (outP l k ++ inn l k j).length < (prs l).length, (prs l)[(outP l k ++ inn l k j).length] = (k, j) := by
  have hp := met_pre (l := l) (k := k) (j := j + 1) (by omega) (by omega)
  rw [inn_succ, if_pos (by rw [h1, decide_eq_true hk]; rfl), ← List.append_assoc] at hp
  obtain ⟨t, ht⟩ := hp
  have hlen : (outP l k ++ inn l k j).length < (prs l).length := by
    rw [← ht]
    simp
  refine ⟨hlen, ?_⟩
  have h2 : (prs l)[(outP l k ++ inn l k j).length]? = some (k, j) := by
    rw [← ht, List.getElem?_append_left (by simp), List.getElem?_append_right (Nat.le_refl _), Nat.sub_self]
    rfl
  rw [List.getElem?_eq_getElem hlen] at h2
  exact Option.some.inj h2
theorem pair_eqRun (a b c d : Int) (w : World) : (Op.equalIn (9999 + 1) 44 (.agg #[.int .i64 a, .int .i64 b]) (.agg #[.int .i64 c, .int .i64 d])).run Tryd.prog w = .ok (a == c && b == d) w := by
  have hu := Tryd.underlying3
  have hg := Tryd.isAgg3
  have hz := Tryd.sizeOf3
  rw [Op.equalIn]
  simp only [Sem.run_bind, run_underlying Tryd.underlying44, Result.andThen_ok]
  simp only [Std.Legacy.Range.forIn_eq_forIn_range', Std.Legacy.Range.size, Nat.sub_zero, Nat.add_sub_cancel, Nat.div_one, List.range'_succ, List.range'_zero, List.forIn_cons, List.forIn_nil]
  go_simp
  by_cases h1 : a = c
  · by_cases h2 : b = d
    · simp [h1, h2]
    · simp [h1, h2]
  · simp [h1]
theorem pair_neql (a b c d : Int) (w : World) : (binOp .neq 44 (.agg #[.int .i64 a, .int .i64 b]) (.agg #[.int .i64 c, .int .i64 d])).run Tryd.prog w = .ok (.bool (!(a == c && b == d))) w := by
  rw [run_neq_struct, pair_eqRun]; rfl
theorem ndM_good {S : List Snd} (h : ckE S 256 = 0) : ndM S = ndF S (prs S) := if_pos h
theorem prsM_good {S : List Snd} (h : ckE S 256 = 0) : prsM S = prs S := if_pos h
theorem prs_len2 (S : List Snd) : (prs S).length ≤ S.length * S.length := outP_len S S.length
end Go.Proofs.YtpnmapfabjdfjaaDoor

/-
  Needed features and gaps hang on the sounds alone (pure).
-/
namespace Go.Proofs.YtpnmapfabjdfjaaDoor
open Go.RowKit Go.Sort
theorem dif_comm (a b : Snd) : dif a b = dif b a := by unfold dif; rw [BitVec.xor_comm, BitVec.xor_comm a.2]
theorem one_comm (a b : Snd) : one a b = one b a := by unfold one; rw [dif_comm]
theorem one_self (a : Snd) : one a a = false := by
  unfold one dif
  rw [BitVec.xor_self, BitVec.xor_self]
  decide
theorem mem_inn {l : List Snd} {i m j k : Nat} : (j, k) ∈ inn l i m ↔ j = i ∧ k < m ∧ i < k ∧ one (l.getD i zs) (l.getD k zs) = true := by
  unfold inn
  rw [List.mem_map]
  constructor
  · rintro ⟨q, hq, e⟩
    obtain ⟨h1, h2⟩ := List.mem_filter.1 hq
    rw [Bool.and_eq_true, decide_eq_true_iff] at h2
    simp only [Prod.mk.injEq] at e
    obtain ⟨rfl, rfl⟩ := e
    exact ⟨rfl, List.mem_range.1 h1, h2.1, h2.2⟩
  · rintro ⟨rfl, h1, h2, h3⟩
    exact ⟨k, List.mem_filter.2 ⟨List.mem_range.2 h1, by rw [h3, decide_eq_true h2]; rfl⟩, rfl⟩
theorem mem_prs {l : List Snd} {i k : Nat} : (i, k) ∈ prs l ↔ i < k ∧ k < l.length ∧ one (l.getD i zs) (l.getD k zs) = true := by
  unfold prs outP
  rw [List.mem_flatMap]
  constructor
  · rintro ⟨q, hq, hm⟩
    obtain ⟨rfl, h1, h2, h3⟩ := mem_inn.1 hm
    exact ⟨h2, h1, h3⟩
  · rintro ⟨h1, h2, h3⟩
    exact ⟨i, List.mem_range.2 (by omega), mem_inn.2 ⟨rfl, h2, h1, h3⟩⟩
/-- What all pairs of sounds that differ in one feature show. -/
theorem prs_all {l : List Snd} (q : Snd → Snd → Prop) : (∃ p ∈ prs l, q (l.getD p.1 zs) (l.getD p.2 zs) ∨ q (l.getD p.2 zs) (l.getD p.1 zs)) ↔ ∃ a ∈ l, ∃ b ∈ l, one a b = true ∧ q a b := by
  have hg : ∀ i (h : i < l.length), l.getD i zs = l[i] := fun i h => by simp [List.getD, List.getElem?_eq_getElem h]
  constructor
  · rintro ⟨⟨i, k⟩, hp, hq⟩
    obtain ⟨h1, h2, h3⟩ := mem_prs.1 hp
    simp only at hq
    rw [hg i (by omega), hg k h2] at h3 hq
    rcases hq with hq | hq
    · exact ⟨_, List.getElem_mem _, _, List.getElem_mem _, h3, hq⟩
    · exact ⟨_, List.getElem_mem _, _, List.getElem_mem _, by rw [one_comm]; exact h3, hq⟩
  · rintro ⟨a, ha, b, hb, h1, hq⟩
    obtain ⟨i, hi, rfl⟩ := List.getElem_of_mem ha
    obtain ⟨k, hk, rfl⟩ := List.getElem_of_mem hb
    rcases Nat.lt_trichotomy i k with h | h | h
    · exact ⟨(i, k), mem_prs.2 ⟨h, hk, by rw [hg i hi, hg k hk]; exact h1⟩, .inl (by simp only; rw [hg i hi, hg k hk]; exact hq)⟩
    · subst h; rw [one_self] at h1; cases h1
    · exact ⟨(k, i), mem_prs.2 ⟨h, hi, by rw [hg i hi, hg k hk, one_comm]; exact h1⟩, .inr (by simp only; rw [hg i hi, hg k hk]; exact hq)⟩
theorem ndF_bits (l : List Snd) (j : Nat) : ∀ (ps : List (Nat × Nat)) (s : BitVec 32), (ps.foldl (fun s x => s ||| dif (l.getD x.1 zs) (l.getD x.2 zs)) s).getLsbD j = true ↔ s.getLsbD j = true ∨ ∃ p ∈ ps, (dif (l.getD p.1 zs) (l.getD p.2 zs)).getLsbD j = true
  | [], s => by simp
  | p :: ps, s => by
    rw [List.foldl_cons, ndF_bits l j ps, BitVec.getLsbD_or, Bool.or_eq_true, or_assoc]
    constructor
    · rintro (h | h | ⟨q, hq, h⟩)
      · exact .inl h
      · exact .inr ⟨p, by simp, h⟩
      · exact .inr ⟨q, by simp [hq], h⟩
    · rintro (h | ⟨q, hq, h⟩)
      · exact .inl h
      · rcases List.mem_cons.1 hq with rfl | hq
        · exact .inr (.inl h)
        · exact .inr (.inr ⟨q, hq, h⟩)
theorem ndF_same {l l' : List Snd} (h : ∀ x, x ∈ l ↔ x ∈ l') : ndF l (prs l) = ndF l' (prs l') := by
  have key : ∀ l : List Snd, ∀ j, (ndF l (prs l)).getLsbD j = true ↔ ∃ a ∈ l, ∃ b ∈ l, one a b = true ∧ (dif a b).getLsbD j = true := fun l j => by
    unfold ndF
    rw [ndF_bits, ← prs_all (fun a b => (dif a b).getLsbD j = true)]
    constructor
    · rintro (h | ⟨p, hp, h⟩)
      · simp at h
      · exact ⟨p, hp, .inl h⟩
    · rintro ⟨p, hp, h | h⟩
      · exact .inr ⟨p, hp, h⟩
      · exact .inr ⟨p, hp, by rw [dif_comm]; exact h⟩
  apply BitVec.eq_of_getLsbD_eq
  intro j hj
  rw [Bool.eq_iff_iff, key, key]
  constructor
  · rintro ⟨a, ha, b, hb, hq⟩; exact ⟨a, (h a).1 ha, b, (h b).1 hb, hq⟩
  · rintro ⟨a, ha, b, hb, hq⟩; exact ⟨a, (h a).2 ha, b, (h b).2 hb, hq⟩
theorem swq_swp (a b : Snd) : swq a b = swp b a := by unfold swq swp feN; rw [dif_comm]
/-- The exchanges that an inventory shows. -/
theorem swS_all (l : List Snd) (x : Sw) : x ∈ swS l (prs l) ↔ ∃ a ∈ l, ∃ b ∈ l, one a b = true ∧ x = swp a b := by
  rw [swS_mem, ← prs_all (fun a b => x = swp a b)]
  constructor
  · rintro ⟨p, hp, h⟩; exact ⟨p, hp, h.imp id fun h => by rw [← swq_swp]; exact h⟩
  · rintro ⟨p, hp, h⟩; exact ⟨p, hp, h.imp id fun h => by rw [swq_swp]; exact h⟩
theorem gapP_all (l : List Snd) (g : Snd) : gapP l g ↔ ∃ a ∈ l, ∃ b ∈ l, one a b = true ∧ ∃ z ∈ l, getV z.1 z.2 (feN a b) = getV a.1 a.2 (feN a b) ∧ g = gapS z (swp a b) ∧ g ∉ l := by
  unfold gapP
  constructor
  · rintro ⟨x, hx, z, hz, hi, rfl⟩
    obtain ⟨a, ha, b, hb, h1, rfl⟩ := (swS_all l x).1 hx
    unfold isG at hi
    rw [Bool.and_eq_true, decide_eq_true_iff, Bool.not_eq_true', decide_eq_false_iff_not] at hi
    exact ⟨a, ha, b, hb, h1, z, hz, hi.1, rfl, hi.2⟩
  · rintro ⟨a, ha, b, hb, h1, z, hz, hv, rfl, hn⟩
    refine ⟨swp a b, (swS_all l _).2 ⟨a, ha, b, hb, h1, rfl⟩, z, hz, ?_, rfl⟩
    unfold isG
    rw [Bool.and_eq_true, decide_eq_true_iff, Bool.not_eq_true', decide_eq_false_iff_not]
    exact ⟨hv, hn⟩
theorem gapP_same {l l' : List Snd} (h : ∀ x, x ∈ l ↔ x ∈ l') (g : Snd) : gapP l g ↔ gapP l' g := by
  rw [gapP_all, gapP_all]
  constructor
  · rintro ⟨a, ha, b, hb, h1, z, hz, hv, hg, hn⟩; exact ⟨a, (h a).1 ha, b, (h b).1 hb, h1, z, (h z).1 hz, hv, hg, fun e => hn ((h g).2 e)⟩
  · rintro ⟨a, ha, b, hb, h1, z, hz, hv, hg, hn⟩; exact ⟨a, (h a).2 ha, b, (h b).2 hb, h1, z, (h z).2 hz, hv, hg, fun e => hn ((h g).1 e)⟩
theorem ltS_irr (x : Snd) : ¬ ltS x x := fun h => by unfold ltS at h; omega
theorem ltS_tr {x y z : Snd} (h1 : ltS x y) (h2 : ltS y z) : ltS x z := by unfold ltS at *; omega
/-- Lists in order with the same sounds are the same. -/
theorem inc_same : ∀ {X Y : List Snd}, IncS X → IncS Y → (∀ g, g ∈ X ↔ g ∈ Y) → X = Y := by
  have pw : ∀ {X : List Snd}, IncS X → X.Pairwise ltS := fun h => List.pairwise_iff_getElem.2 fun i j hi hj hij => h i j hij hj
  have key : ∀ (X Y : List Snd), X.Pairwise ltS → Y.Pairwise ltS → (∀ g, g ∈ X ↔ g ∈ Y) → X = Y := by
    intro X
    induction X with
    | nil => intro Y _ _ h; exact (List.eq_nil_iff_forall_not_mem.2 fun g hg => by have := (h g).2 hg; simp at this).symm
    | cons x X ih =>
      intro Y hX hY h
      cases Y with
      | nil => have := (h x).1 (by simp); simp at this
      | cons y Y =>
        rw [List.pairwise_cons] at hX hY
        have hxy : x = y := by
          rcases List.mem_cons.1 ((h x).1 (by simp)) with e | hx
          · exact e
          · rcases List.mem_cons.1 ((h y).2 (by simp)) with e | hy
            · exact e.symm
            · exact absurd (ltS_tr (hX.1 y hy) (hY.1 x hx)) (ltS_irr x)
        subst hxy
        congr 1
        refine ih Y hX.2 hY.2 fun g => ?_
        constructor
        · intro hg
          rcases List.mem_cons.1 ((h g).1 (by simp [hg])) with rfl | h2
          · exact absurd (hX.1 _ hg) (ltS_irr _)
          · exact h2
        · intro hg
          rcases List.mem_cons.1 ((h g).2 (by simp [hg])) with rfl | h2
          · exact absurd (hY.1 _ hg) (ltS_irr _)
          · exact h2
  exact fun {_ _} hX hY h => key _ _ (pw hX) (pw hY) h
end Go.Proofs.YtpnmapfabjdfjaaDoor

/-
  The specification's add: a sound put into a list in order.
-/
namespace Go.Proofs.YtpnmapfabjdfjaaDoor
open Go.RowKit Go.Sort
set_option maxHeartbeats 4000000 in
theorem rorder_any (p m q n : BitVec 32) (w : World) : Gives 99 #[sn p.toNat m.toNat, sn q.toNat n.toNat] w (.int .i64 (ordN p.toNat m.toNat q.toNat n.toNat)) := by
  unfold Gives
  have key : (ordN p.toNat m.toNat q.toNat n.toNat = -1 ∧ (p.toNat < q.toNat ∨ (p.toNat = q.toNat ∧ m.toNat < n.toNat))) ∨ (ordN p.toNat m.toNat q.toNat n.toNat = 0 ∧ p.toNat = q.toNat ∧ m.toNat = n.toNat) ∨ (ordN p.toNat m.toNat q.toNat n.toNat = 1 ∧ (q.toNat < p.toNat ∨ (p.toNat = q.toNat ∧ n.toNat < m.toNat))) := by
    unfold ordN cmpN
    rcases Nat.lt_trichotomy p.toNat q.toNat with h | h | h
    · left; simp [h]
    · rcases Nat.lt_trichotomy m.toNat n.toNat with h2 | h2 | h2
      · left; simp [h, h2]
      · right; left; simp [h, h2]
      · right; right; simp [h, h2, Nat.lt_asymm h2]
    · right; right; simp [h, Nat.lt_asymm h]
  generalize p.toNat = P at *
  generalize q.toNat = Q at *
  generalize m.toNat = M at *
  generalize n.toNat = N at *
  generalize ordN P M Q N = O at *
  rcases key with ⟨rfl, h | ⟨rfl, h⟩⟩ | ⟨rfl, rfl, rfl⟩ | ⟨rfl, h | ⟨rfl, h⟩⟩
  all_goals (
    go_enter Tryd.func99, Tryd.ntmps99
    go_wp2
    go_returns
    exact ⟨rfl, by go_grown⟩)
theorem IncS.pw {X : List Snd} (h : IncS X) : X.Pairwise ltS := List.pairwise_iff_getElem.2 fun i j _ hj hij => h i j hij hj
theorem pw_inc {X : List Snd} (h : X.Pairwise ltS) : IncS X := fun i j hij hj => List.pairwise_iff_getElem.1 h i j (by omega) hj hij
def adS (s : Snd) (st : List Snd × Bool) (x : Snd) : List Snd × Bool := if st.2 = false ∧ ordS s x < 0 then (st.1 ++ [s] ++ [x], true) else (st.1 ++ [x], st.2)
/-- What add has put together of the first k sounds. -/
def adK (s : Snd) (X : List Snd) (k : Nat) : List Snd × Bool := (X.take k).foldl (adS s) ([], false)
theorem adK_zero (s : Snd) (X : List Snd) : adK s X 0 = ([], false) := rfl
theorem adK_succ {s : Snd} {X : List Snd} {k : Nat} (hk : k < X.length) : adK s X (k + 1) = adS s (adK s X k) X[k] := by
  unfold adK
  rw [List.take_succ_eq_append_getElem hk, List.foldl_append]
  rfl
theorem ad_inv {s : Snd} {X : List Snd} (hX : X.Pairwise ltS) : ∀ k, k ≤ X.length → s ∉ X.take k →
    ((adK s X k).2 = false → (adK s X k).1 = X.take k ∧ ∀ x ∈ X.take k, ltS x s) ∧
    ((adK s X k).2 = true → (adK s X k).1.Pairwise ltS ∧ (∀ g, g ∈ (adK s X k).1 ↔ g ∈ X.take k ∨ g = s) ∧ ∃ x ∈ X.take k, ltS s x) ∧ (adK s X k).1.length ≤ k + 1
  | 0, _, _ => by simp [adK_zero]
  | k + 1, hk, hs => by
    have hkl : k < X.length := by omega
    have ht : X.take (k + 1) = X.take k ++ [X[k]] := List.take_succ_eq_append_getElem hkl
    rw [ht] at hs ⊢
    have hs1 : s ∉ X.take k := fun h => hs (List.mem_append_left _ h)
    have hs2 : s ≠ X[k] := fun e => hs (List.mem_append_right _ (List.mem_singleton.2 e))
    obtain ⟨i1, i2, i3⟩ := ad_inv hX k (by omega) hs1
    have hbig : ∀ y ∈ X.take k, ltS y X[k] := fun y hy => by
      obtain ⟨j, hj, rfl⟩ := List.getElem_of_mem hy
      rw [List.getElem_take]
      rw [List.length_take] at hj
      exact List.pairwise_iff_getElem.1 hX j k (by omega) hkl (by omega)
    have htp : (X.take k).Pairwise ltS := hX.sublist (List.take_sublist _ _)
    rw [adK_succ hkl]
    generalize hst : adK s X k = st at *
    obtain ⟨o, p⟩ := st
    generalize X[k] = x at *
    unfold adS
    simp only at i1 i2 i3 ⊢
    cases p with
    | false =>
      obtain ⟨e, hlt⟩ := i1 rfl
      subst e
      by_cases ho : ordS s x < 0
      · rw [if_pos ⟨rfl, ho⟩]
        have hsx := (ordS_lt s x).1 ho
        refine ⟨fun h => by (cases h), fun _ => ⟨?_, fun g => by simp [or_assoc, or_comm, or_left_comm], x, by simp, hsx⟩, by simp; omega⟩
        rw [List.append_assoc, List.pairwise_append]
        refine ⟨htp, by simp [hsx], fun y hy z hz => ?_⟩
        simp only [List.singleton_append, List.mem_cons, List.not_mem_nil, or_false] at hz
        rcases hz with rfl | rfl
        · exact hlt y hy
        · exact hbig y hy
      · rw [if_neg (fun h => ho h.2)]
        have hxs : ltS x s := (ltS_total hs2).elim (fun h => absurd ((ordS_lt s x).2 h) ho) id
        refine ⟨fun _ => ⟨rfl, fun y hy => ?_⟩, fun h => by (cases h), by simp; omega⟩
        rcases List.mem_append.1 hy with hy | hy
        · exact hlt y hy
        · rw [List.mem_singleton] at hy; subst hy; exact hxs
    | true =>
      rw [if_neg (fun h => by cases h.1)]
      obtain ⟨j1, j2, y0, hy0, hsy⟩ := i2 rfl
      have hsx := ltS_tr hsy (hbig y0 hy0)
      refine ⟨fun h => by (cases h), fun _ => ⟨?_, fun g => ?_, y0, by simp [hy0], hsy⟩, by simp; omega⟩
      · rw [List.pairwise_append]
        refine ⟨j1, by simp, fun y hy z hz => ?_⟩
        rw [List.mem_singleton] at hz
        subst hz
        rcases (j2 y).1 hy with h | rfl
        · exact hbig y h
        · exact hsx
      · rw [List.mem_append, j2, List.mem_append]
        constructor
        · rintro ((h | h) | h)
          · exact .inl (.inl h)
          · exact .inr h
          · exact .inl (.inr h)
        · rintro ((h | h) | h)
          · exact .inl (.inl h)
          · exact .inr h
          · exact .inl (.inr h)
/-- The list with the sound. -/
theorem ad_end {s : Snd} {X : List Snd} (hX : IncS X) (hs : s ∉ X) : ((adK s X X.length).2 = true → IncS (adK s X X.length).1 ∧ ∀ g, g ∈ (adK s X X.length).1 ↔ g ∈ X ∨ g = s) ∧
    ((adK s X X.length).2 = false → IncS ((adK s X X.length).1 ++ [s]) ∧ ∀ g, g ∈ (adK s X X.length).1 ++ [s] ↔ g ∈ X ∨ g = s) := by
  obtain ⟨i1, i2, -⟩ := ad_inv (s := s) hX.pw X.length (Nat.le_refl _) (by rw [List.take_length]; exact hs)
  rw [List.take_length] at i1 i2
  refine ⟨fun h => ⟨pw_inc (i2 h).1, (i2 h).2.1⟩, fun h => ?_⟩
  obtain ⟨e, hlt⟩ := i1 h
  rw [e]
  refine ⟨pw_inc ?_, fun g => by rw [List.mem_append, List.mem_singleton]⟩
  rw [List.pairwise_append]
  exact ⟨hX.pw, by simp, fun y hy z hz => by rw [List.mem_singleton] at hz; subst hz; exact hlt y hy⟩
end Go.Proofs.YtpnmapfabjdfjaaDoor

/-
  The specification's add, walked.
-/
namespace Go.Proofs.YtpnmapfabjdfjaaDoor
open Go.RowKit Go.Sort
/-- The sounds of X, and s. -/
def InX (X : List Snd) (s : Snd) (Y : List Snd) : Prop := ∀ g, g ∈ Y ↔ g ∈ X ∨ g = s
set_option maxRecDepth 100000 in
set_option maxHeartbeats 8000000 in
theorem add_any (X : List Snd) (s : Snd) (v : Value) (w : World) (h : Wd w v X) (hX : IncS X) (hl : X.length ≤ 1000000000) : Calls Tryd.prog 67 #[v, .agg #[.int .u32 (s.1.toNat : Int), .int .u32 (s.2.toNat : Int)]] w fun e w' => ∃ m Y, e = .returned m ∧ Wd w' m Y ∧ IncS Y ∧ InX X s Y ∧ Below w.heap.size w w' := by
  have HWD := Lib.hid h
  obtain ⟨ao, cap, rfl, c1, m1, hc⟩ := h.open
  obtain ⟨N, hN⟩ : ∃ N, X.length = N := ⟨_, rfl⟩
  have HX := Lib.hid hX; have HC := Lib.hid hc; have HN := Lib.hid hN
  rw [hN] at hl HWD ⊢
  have l1 : N ≤ 9223372036854775807 := by omega
  clear hc h hX m1 c1 hN
  have hend := fun (hs : s ∉ X) => ad_end (s := s) HX.out hs
  rw [HN.out] at hend
  have HE := Lib.hid hend
  clear hend
  obtain ⟨sp, sm⟩ := s
  have kb := World.alloc_heap_new w (.cells #[.int .u32 (sp.toNat : Int), .int .u32 (sm.toNat : Int)] 27)
  have hb0 : Below w.heap.size w (w.alloc (.cells #[.int .u32 (sp.toNat : Int), .int .u32 (sm.toNat : Int)] 27)) := (Below.refl _ w).alloc (Nat.le_refl _) _
  have hz0 : w.heap.size < (w.alloc (.cells #[.int .u32 (sp.toNat : Int), .int .u32 (sm.toNat : Int)] 27)).heap.size := by rw [World.size_alloc]; omega
  have KB := Lib.hid kb; have HB0 := Lib.hid hb0; have HZ0 := Lib.hid hz0
  clear kb hb0 hz0
  go_enter Tryd.func67, Tryd.ntmps67
  go_wp2_with fail
  obtain ⟨w0, hw0⟩ : ∃ x, x = w.alloc (.cells #[.int .u32 (sp.toNat : Int), .int .u32 (sm.toNat : Int)] 27) := ⟨_, rfl⟩
  rw [← hw0] at KB HB0 HZ0 ⊢
  clear hw0
  go_loopw [5, 6, 7] (fun u q i wr => ∃ k : Nat, k ≤ N ∧ (sp, sm) ∉ X.take k ∧ i = .int .i64 (k : Int) ∧ q = .bool (adK (sp, sm) X k).2 ∧ Own wr (w.heap.size + 1) u (adK (sp, sm) X k).1 ∧ Below (w.heap.size + 1) w0 wr) (fun _ _ i _ => N - (intOf i).toNat)
  case atStart => exact ⟨0, by omega, by simp, rfl, rfl, Own.nil _ _, Below.refl _ _⟩
  case round =>
  obtain ⟨k, hk, hni, rfl, rfl, ho, hw⟩ := hrel
  obtain ⟨oa, oc, hov, -, -, -⟩ := ho.wd.open
  have hwb : Below w.heap.size w wr := HB0.out.trans (hw.mono (by omega))
  have hin := (ad_inv (s := (sp, sm)) HX.out.pw k (by rw [HN.out]; exact hk) hni).2.2
  obtain ⟨n, hn⟩ : ∃ n, (adK (sp, sm) X k).1.length = n := ⟨_, rfl⟩
  rw [hn] at hov hin
  subst hov
  have HNn := Lib.hid hn
  have q0 : wr.cell? ⟨w.heap.size, 0, none⟩ = some (.int .u32 (sp.toNat : Int)) := (hw.cell (p := ⟨w.heap.size, _, none⟩) (Nat.lt_succ_self _)).trans (cell_block KB.out rfl)
  have q1 : wr.cell? ⟨w.heap.size, 1, none⟩ = some (.int .u32 (sm.toNat : Int)) := (hw.cell (p := ⟨w.heap.size, _, none⟩) (Nat.lt_succ_self _)).trans (cell_block KB.out rfl)
  clear hn
  by_cases hlt : k < N
  · have hkl : k < X.length := by rw [HN.out]; exact hlt
    obtain ⟨b, off, hao, lb, d0, d1⟩ := HC.out k hkl
    subst hao
    have DW0 := Lib.hid d0; have DW1 := Lib.hid d1
    have d0 := (hwb.cell (p := ⟨b, _, none⟩) lb).trans d0
    have d1 := (hwb.cell (p := ⟨b, _, none⟩) lb).trans d1
    have hsu := adK_succ (s := (sp, sm)) hkl
    have htk : X.take (k + 1) = X.take k ++ [X[k]] := List.take_succ_eq_append_getElem hkl
    have hmx : X[k] ∈ X := List.getElem_mem hkl
    have heq := fun W => snd_eql (X[k].1.toNat : Int) (X[k].2.toNat : Int) (sp.toNat : Int) (sm.toNat : Int) W
    have hsb := snd_beq X[k] (sp, sm)
    simp only at hsb
    rw [hsb] at heq
    have hro := rorder_any sp sm X[k].1 X[k].2
    have hoe : ordS (sp, sm) X[k] = ordN sp.toNat sm.toNat X[k].1.toNat X[k].2.toNat := rfl
    rw [← hoe] at hro
    have HTK := Lib.hid htk; have HNI := Lib.hid hni; have HMX := Lib.hid hmx
    have D0 := Lib.hid d0; have D1 := Lib.hid d1; have Q0 := Lib.hid q0; have Q1 := Lib.hid q1; have LB := Lib.hid lb
    clear htk hni hmx hoe hsb
    generalize X[k] = x at *
    have HSU := Lib.hid hsu
    clear hsu
    obtain ⟨xp, xm⟩ := x
    simp only at d0 d1 heq hro
    have hk3 : (k : Int) < (N : Int) := by omega
    have hk0 : (0 : Int) ≤ (k : Int) := by omega
    have HO := Lib.hid ho; have HW := Lib.hid hw; have HWB := Lib.hid hwb
    clear ho hw hwb
    by_cases hxs : ((xp, xm) : Snd) = (sp, sm)
    · rw [decide_eq_true hxs] at heq
      have HXS := Lib.hid hxs
      clear hxs hro
      go_wp2_with fail
      go_region
      all_goals go_wp2_with fail
      all_goals (
        go_returns
        exact ⟨_, X, rfl, HWD.out.below HWB.out.drew, HX.out, fun g => ⟨.inl, fun h => h.elim id fun h => by rw [h, ← HXS.out]; exact HMX.out⟩, HWB.out.drew⟩)
    · rw [decide_eq_false hxs] at heq
      have hni2 : (sp, sm) ∉ X.take (k + 1) := by
        rw [HTK.out]
        intro h
        rcases List.mem_append.1 h with h | h
        · exact HNI.out h
        · rw [List.mem_singleton] at h; exact hxs h.symm
      have HNI2 := Lib.hid hni2
      clear hxs hni2
      generalize hOS : ordS (sp, sm) (xp, xm) = os at *
      have HOS := Lib.hid hOS
      have HRO := Lib.hid hro
      clear hOS hro
      generalize hST : adK (sp, sm) X k = st at *
      obtain ⟨o, pt⟩ := st
      simp only at HO HNn
      clear hST
      have hB0 : Below wr.heap.size wr wr.drew := Below.drew (Below.refl _ _)
      have HD0 := Lib.hid hB0
      clear hB0
      go_wp2_with fail
      go_quiet (fail)
      clear heq
      have hdq : Below wr.heap.size wr (wr.drewN nq) := below_drewN (Below.refl _ _) nq
      have e0 : (wr.drewN nq).cell? ⟨b, off + k * 2, none⟩ = some (.int .u32 (xp.toNat : Int)) := D0.out
      have e1 : (wr.drewN nq).cell? ⟨b, off + k * 2 + 1, none⟩ = some (.int .u32 (xm.toNat : Int)) := D1.out
      have e2 : (wr.drewN nq).cell? ⟨w.heap.size, 0, none⟩ = some (.int .u32 (sp.toNat : Int)) := Q0.out
      have e3 : (wr.drewN nq).cell? ⟨w.heap.size, 1, none⟩ = some (.int .u32 (sm.toNat : Int)) := Q1.out
      clear d0 d1 q0 q1
      have HWd := Lib.hid (HW.out.trans (hdq.mono (by have := HW.out.size; have := HZ0.out; omega))); have HOd := Lib.hid (HO.out.below hdq); have HWBd := Lib.hid (HWB.out.trans (hdq.mono HWB.out.size))
      generalize (wr.drewN nq) = w20 at *
      clear HO HW HWB hdq D0 D1 Q0 Q1
      cases pt with
      | true =>
        have HSU2 : Hid (adK (sp, sm) X (k + 1) = (o ++ [(xp, xm)], true)) := Lib.hid (by rw [HSU.out]; unfold adS; rw [if_neg (fun h => by cases h.1)])
        go_wp2_with fail
        have x2 := cell_regrown e2
        have x3 := cell_regrown e3
        have x0 := cell_regrown e0
        have x1 := cell_regrown e1
        refine wp_region_quiet_below (by kernel_rfl) (by kernel_rfl) ?_
        try simp only [List.append]
        repeat (go_big_quiet_step (first | (go_at_call 99; with_reducible exact Calls.regrown_of (HRO.out _))))
        refine wpQuiet_nil ?_
        intro w21 hw21
        have hB1 : Below w20.heap.size w20 w21 := by obtain ⟨q, rfl⟩ := hw21; exact below_regrown _ _ _
        have z20 : w.heap.size + 1 ≤ w20.heap.size := by have := HWd.out.size; have := HZ0.out; omega
        have lbz : b < w20.heap.size := by have := LB.out; omega
        have lsz : w.heap.size < w20.heap.size := by omega
        have f0 := (hB1.cell (p := ⟨b, _, none⟩) lbz).trans e0
        have f1 := (hB1.cell (p := ⟨b, _, none⟩) lbz).trans e1
        have f2 := (hB1.cell (p := ⟨w.heap.size, _, none⟩) lsz).trans e2
        have f3 := (hB1.cell (p := ⟨w.heap.size, _, none⟩) lsz).trans e3
        have HW1 := Lib.hid (HWd.out.trans (hB1.mono z20)); have HO1 := Lib.hid (HOd.out.below hB1)
        clear hw21 x0 x1 x2 x3 e0 e1 e2 e3 hB1 lbz lsz z20
        have hboa := (Below.refl w21.heap.size w21).alloc (Nat.le_refl _) (.cells #[.int .u32 (xp.toNat : Int), .int .u32 (xm.toNat : Int)] 27)
        have hzza : w.heap.size + 1 ≤ w21.heap.size := by have := HW1.out.size; have := HZ0.out; omega
        have HNa := Lib.hid (wd_one w21 xp xm); have HOa := Lib.hid (HO1.out.below hboa); have HAa := Lib.hid (HW1.out.trans (hboa.mono hzza)); have HZa := Lib.hid HW1.out.size
        clear hboa hzza
        go_wp2_with (at_builtin; (refine wpList_app rfl (.tmp 36) (.tmp 41) 22 Tryd.underlying22 rfl (w.heap.size + 1) (.slice oa n oc) (.slice (some ⟨w21.heap.size, 0, none⟩) 1 1) o [(xp, xm)] rfl rfl HOa.out HNa.out (by rw [HNn.out]; simp; omega) (by have := HZa.out; have := HZ0.out; simp only [World.size_alloc]; omega) ?_; intro va wa hoa hka hza; have HPa := Lib.hid hoa; have HBa := Lib.hid (hka _ _ (Nat.le_refl _) HAa.out); clear hoa hka hza))
        go_roundw
        case rel => exact ⟨k + 1, by omega, HNI2.out, by go_num, by rw [HSU2.out], by rw [HSU2.out]; exact HPa.out, HBa.out⟩
        case measure => simp [intOf]; omega
      | false =>
        by_cases hos : os < 0
        · have hod : decide (os < 0) = true := decide_eq_true hos
          have HSU2 : Hid (adK (sp, sm) X (k + 1) = (o ++ [(sp, sm)] ++ [(xp, xm)], true)) := Lib.hid (by rw [HSU.out]; unfold adS; rw [if_pos ⟨rfl, by rw [HOS.out]; exact hos⟩])
          go_wp2_with fail
          have x2 := cell_regrown e2
          have x3 := cell_regrown e3
          have x0 := cell_regrown e0
          have x1 := cell_regrown e1
          refine wp_region_quiet_below (by kernel_rfl) (by kernel_rfl) ?_
          try simp only [List.append]
          repeat (go_big_quiet_step (first | (go_at_call 99; with_reducible exact Calls.regrown_of (HRO.out _))))
          refine wpQuiet_nil ?_
          intro w21 hw21
          have hB1 : Below w20.heap.size w20 w21 := by obtain ⟨q, rfl⟩ := hw21; exact below_regrown _ _ _
          have z20 : w.heap.size + 1 ≤ w20.heap.size := by have := HWd.out.size; have := HZ0.out; omega
          have lbz : b < w20.heap.size := by have := LB.out; omega
          have lsz : w.heap.size < w20.heap.size := by omega
          have f0 := (hB1.cell (p := ⟨b, _, none⟩) lbz).trans e0
          have f1 := (hB1.cell (p := ⟨b, _, none⟩) lbz).trans e1
          have f2 := (hB1.cell (p := ⟨w.heap.size, _, none⟩) lsz).trans e2
          have f3 := (hB1.cell (p := ⟨w.heap.size, _, none⟩) lsz).trans e3
          have HW1 := Lib.hid (HWd.out.trans (hB1.mono z20)); have HO1 := Lib.hid (HOd.out.below hB1)
          clear hw21 x0 x1 x2 x3 e0 e1 e2 e3 hB1 lbz lsz z20
          have hboa := (Below.refl w21.heap.size w21).alloc (Nat.le_refl _) (.cells #[.int .u32 (sp.toNat : Int), .int .u32 (sm.toNat : Int)] 27)
          have hzza : w.heap.size + 1 ≤ w21.heap.size := by have := HW1.out.size; have := HZ0.out; omega
          have HNa := Lib.hid (wd_one w21 sp sm); have HOa := Lib.hid (HO1.out.below hboa); have HAa := Lib.hid (HW1.out.trans (hboa.mono hzza)); have HZa := Lib.hid HW1.out.size
          clear hboa hzza
          go_wp2_with (first | (at_builtin; (refine wpList_app rfl (.tmp 32) (.tmp 34) 22 Tryd.underlying22 rfl (w.heap.size + 1) (.slice oa n oc) (.slice (some ⟨w21.heap.size, 0, none⟩) 1 1) o [(sp, sm)] rfl rfl HOa.out HNa.out (by rw [HNn.out]; simp; omega) (by have := HZa.out; have := HZ0.out; simp only [World.size_alloc]; omega) ?_; intro va wa hoa hka hza; have HPa := Lib.hid hoa; have HBa := Lib.hid (hka _ _ (Nat.le_refl _) HAa.out); have hzw : w.heap.size + 1 ≤ wa.heap.size := (by have := HBa.out.size; have := HZ0.out; omega); have hwb2 : Below w.heap.size w wa := HB0.out.trans (HBa.out.mono (by omega)); have g0 : wa.cell? ⟨b, off + k * 2, none⟩ = some (.int .u32 (xp.toNat : Int)) := (hwb2.cell (p := ⟨b, _, none⟩) LB.out).trans DW0.out; have g1 : wa.cell? ⟨b, off + k * 2 + 1, none⟩ = some (.int .u32 (xm.toNat : Int)) := (hwb2.cell (p := ⟨b, _, none⟩) LB.out).trans DW1.out; have hbob := (Below.refl wa.heap.size wa).alloc (Nat.le_refl _) (.cells #[.int .u32 (xp.toNat : Int), .int .u32 (xm.toNat : Int)] 27); have HNb := Lib.hid (wd_one wa xp xm); have HOb := Lib.hid (HPa.out.below hbob); have HAb := Lib.hid (HBa.out.trans (hbob.mono hzw)); have HZb := Lib.hid HBa.out.size; clear hbob hzw hwb2 hoa hka hza)) | (at_builtin; (refine wpList_app rfl (.tmp 36) (.tmp 41) 22 Tryd.underlying22 rfl (w.heap.size + 1) _ (.slice (some ⟨wa.heap.size, 0, none⟩) 1 1) _ [(xp, xm)] rfl rfl HOb.out HNb.out (by rw [List.length_append, HNn.out]; simp; omega) (by have := HZb.out; have := HZ0.out; simp only [World.size_alloc]; omega) ?_; intro vb wb hob hkb hzb; have HPb := Lib.hid hob; have HBb := Lib.hid (hkb _ _ (Nat.le_refl _) HAb.out); clear hob hkb hzb)))
          go_roundw
          case rel => exact ⟨k + 1, by omega, HNI2.out, by go_num, by rw [HSU2.out], by rw [HSU2.out]; exact HPb.out, HBb.out⟩
          case measure => simp [intOf]; omega
        · have hod : decide (os < 0) = false := decide_eq_false hos
          have HSU2 : Hid (adK (sp, sm) X (k + 1) = (o ++ [(xp, xm)], false)) := Lib.hid (by rw [HSU.out]; unfold adS; rw [if_neg (fun h => hos (by have := h.2; rw [HOS.out] at this; exact this))])
          go_wp2_with fail
          have x2 := cell_regrown e2
          have x3 := cell_regrown e3
          have x0 := cell_regrown e0
          have x1 := cell_regrown e1
          refine wp_region_quiet_below (by kernel_rfl) (by kernel_rfl) ?_
          try simp only [List.append]
          repeat (go_big_quiet_step (first | (go_at_call 99; with_reducible exact Calls.regrown_of (HRO.out _))))
          refine wpQuiet_nil ?_
          intro w21 hw21
          have hB1 : Below w20.heap.size w20 w21 := by obtain ⟨q, rfl⟩ := hw21; exact below_regrown _ _ _
          have z20 : w.heap.size + 1 ≤ w20.heap.size := by have := HWd.out.size; have := HZ0.out; omega
          have lbz : b < w20.heap.size := by have := LB.out; omega
          have lsz : w.heap.size < w20.heap.size := by omega
          have f0 := (hB1.cell (p := ⟨b, _, none⟩) lbz).trans e0
          have f1 := (hB1.cell (p := ⟨b, _, none⟩) lbz).trans e1
          have f2 := (hB1.cell (p := ⟨w.heap.size, _, none⟩) lsz).trans e2
          have f3 := (hB1.cell (p := ⟨w.heap.size, _, none⟩) lsz).trans e3
          have HW1 := Lib.hid (HWd.out.trans (hB1.mono z20)); have HO1 := Lib.hid (HOd.out.below hB1)
          clear hw21 x0 x1 x2 x3 e0 e1 e2 e3 hB1 lbz lsz z20
          have hboa := (Below.refl w21.heap.size w21).alloc (Nat.le_refl _) (.cells #[.int .u32 (xp.toNat : Int), .int .u32 (xm.toNat : Int)] 27)
          have hzza : w.heap.size + 1 ≤ w21.heap.size := by have := HW1.out.size; have := HZ0.out; omega
          have HNa := Lib.hid (wd_one w21 xp xm); have HOa := Lib.hid (HO1.out.below hboa); have HAa := Lib.hid (HW1.out.trans (hboa.mono hzza)); have HZa := Lib.hid HW1.out.size
          clear hboa hzza
          go_wp2_with (at_builtin; (refine wpList_app rfl (.tmp 36) (.tmp 41) 22 Tryd.underlying22 rfl (w.heap.size + 1) (.slice oa n oc) (.slice (some ⟨w21.heap.size, 0, none⟩) 1 1) o [(xp, xm)] rfl rfl HOa.out HNa.out (by rw [HNn.out]; simp; omega) (by have := HZa.out; have := HZ0.out; simp only [World.size_alloc]; omega) ?_; intro va wa hoa hka hza; have HPa := Lib.hid hoa; have HBa := Lib.hid (hka _ _ (Nat.le_refl _) HAa.out); clear hoa hka hza))
          go_roundw
          case rel => exact ⟨k + 1, by omega, HNI2.out, by go_num, by rw [HSU2.out], by rw [HSU2.out]; exact HPa.out, HBa.out⟩
          case measure => simp [intOf]; omega
  · obtain rfl : k = N := by omega
    have hall : X.take k = X := List.take_of_length_le (by rw [HN.out]; exact Nat.le_refl _)
    rw [hall] at hni
    obtain ⟨he1, he2⟩ := HE.out hni
    generalize hST : adK (sp, sm) X k = st at *
    obtain ⟨o, pt⟩ := st
    simp only at ho HNn he1 he2
    cases pt with
    | true =>
      have HQ := Lib.hid (he1 rfl); have HO := Lib.hid ho.wd; have HWB := Lib.hid hwb
      clear ho hw hwb he1 he2 hlt q0 q1
      go_wp2_with fail
      go_returns
      exact ⟨_, rfl, o, HO.out, HQ.out.1, HQ.out.2, HWB.out⟩
    | false =>
      have HQ := Lib.hid (he2 rfl)
      have hboc := (Below.refl wr.heap.size wr).alloc (Nat.le_refl _) (.cells #[.int .u32 (sp.toNat : Int), .int .u32 (sm.toNat : Int)] 27)
      have hzzc : w.heap.size + 1 ≤ wr.heap.size := by have := hw.size; have := HZ0.out; omega
      have HNc := Lib.hid (wd_one wr sp sm); have HOc := Lib.hid (ho.below hboc); have HAc := Lib.hid (hw.trans (hboc.mono hzzc)); have HZc := Lib.hid hw.size
      clear hboc hzzc
      clear ho hw hwb he1 he2 hlt
      go_wp2_with (at_builtin; (refine wpList_app rfl (.tmp 45) (.tmp 47) 22 Tryd.underlying22 rfl (w.heap.size + 1) (.slice oa n oc) (.slice (some ⟨wr.heap.size, 0, none⟩) 1 1) o [(sp, sm)] rfl rfl HOc.out HNc.out (by rw [HNn.out]; simp; omega) (by have := HZc.out; have := HZ0.out; simp only [World.size_alloc]; omega) ?_; intro vc wc hoc hkc hzc; have HPc := Lib.hid hoc; have HBc := Lib.hid (hkc _ _ (Nat.le_refl _) HAc.out); clear hoc hkc hzc))
      go_returns
      exact ⟨_, rfl, o ++ [(sp, sm)], HPc.out.wd, HQ.out.1, HQ.out.2, HB0.out.trans (HBc.out.mono (by omega))⟩
end Go.Proofs.YtpnmapfabjdfjaaDoor

/-
  Different once more: no more sounds than pairs.
-/
namespace Go.Proofs.YtpnmapfabjdfjaaDoor
open Go.RowKit Go.Sort
set_option maxRecDepth 100000 in
set_option maxHeartbeats 8000000 in
theorem different_len (l : List (Nat × Nat)) (v : Value) (w : World) (h : Pz w v l) : Calls Tryd.prog 33 #[v] w fun e w' => ∃ m S, e = .returned m ∧ Own w' w.heap.size m S ∧ Good S ∧ S.length ≤ 24 ∧ S.length ≤ l.length ∧ Below w.heap.size w w' := by
  obtain ⟨ao, cap, rfl, c1, m1, hc⟩ := h.open
  obtain ⟨N, hN⟩ : ∃ N, l.length = N := ⟨_, rfl⟩
  have HC := Lib.hid hc; have HN := Lib.hid hN
  rw [hN] at c1 ⊢
  have l1 : N ≤ 9223372036854775807 := by unfold maxLen at m1; omega
  clear hc hN h m1
  go_enter Tryd.func33, Tryd.ntmps33
  go_wp2_with fail
  go_loopw [3, 4] (fun u i wr => ∃ (k : Nat) (S : List Snd), k ≤ N ∧ i = .int .i64 (k : Int) ∧ Own wr w.heap.size u S ∧ Good S ∧ S.length ≤ 24 ∧ S.length ≤ k ∧ Below w.heap.size w wr) (fun _ i _ => N - (intOf i).toNat)
  case atStart => exact ⟨0, [], by omega, rfl, Own.nil _ _, ⟨by simp, by simp⟩, by simp, by simp, Below.refl _ _⟩
  case round =>
  obtain ⟨k, S, hk, rfl, ho, hg, hs, hsk, hw⟩ := hrel
  obtain ⟨oa, oc, hov, hoc, hom, hcell⟩ := ho.wd.open
  obtain ⟨n, hn⟩ : ∃ n, S.length = n := ⟨_, rfl⟩
  rw [hn] at hov hs hoc hsk
  subst hov
  have HO := Lib.hid ho; have HG := Lib.hid hg; have HW := Lib.hid hw; have HNn := Lib.hid hn; have HCELL := Lib.hid hcell
  have l2 : n ≤ 9223372036854775807 := by omega
  clear ho hg hw hn hcell hom
  by_cases hlt : k < N
  · have e1 : decide ((k : Int) < (N : Int)) = true := decide_eq_true (by omega)
    have e1' : decide (k < N) = true := decide_eq_true hlt
    by_cases hfull : n < 24
    · have e2 : decide ((n : Int) < 24) = true := decide_eq_true (by omega)
      have e2' : decide (n < 24) = true := decide_eq_true hfull
      have hkl : k < l.length := by rw [HN.out]; exact hlt
      obtain ⟨b, off, hao, lb, ⟨d0, d1⟩, q0, q1⟩ := HC.out k hkl
      subst hao
      have hmk := made_b l[k] q0 q1
      have hgd := mkB_good l[k] q0 q1
      generalize mkB l[k] = x at *
      generalize l[k] = p at *
      obtain ⟨pa, pb⟩ := p
      simp only at d0 d1 q0 q1 hmk
      have hw3 : IntKind.u32.wrap (pa : Int) = (pa : Int) := by rw [IntKind.wrap_u32]; omega
      have hw4 : IntKind.u32.wrap (pb : Int) = (pb : Int) := by rw [IntKind.wrap_u32]; omega
      have hk3 : (k : Int) < (N : Int) := by omega
      have hk0 : (0 : Int) ≤ (k : Int) := by omega
      have KK : Hid (∀ W2 : World, Below wr.heap.size wr W2 → W2.cell? ⟨b, off + k * 2, none⟩ = some (.int .u8 (pa : Int)) ∧ W2.cell? ⟨b, off + k * 2 + 1, none⟩ = some (.int .u8 (pb : Int))) := Lib.hid (fun W2 hW => by
        have lb2 := Nat.lt_of_lt_of_le lb HW.out.size
        exact ⟨((hW.cell (p := ⟨b, _, none⟩) lb2).trans (HW.out.cell (p := ⟨b, _, none⟩) lb)).trans d0, ((hW.cell (p := ⟨b, _, none⟩) lb2).trans (HW.out.cell (p := ⟨b, _, none⟩) lb)).trans d1⟩)
      obtain ⟨xp, xm⟩ := x
      have HMK := Lib.hid hmk; have HGD := Lib.hid hgd
      clear d0 d1 hmk hgd HC
      go_wp2_with fail
      refine wp_region_makers 14 [(13, (.cells #[.int .u32 0, .int .u32 0] 27))] [0, 1, 2, 3, 4, 5, 6, 7, 8, 9, 10, 11, 12, 13] ?A5 _ (by kernel_rfl) (by kernel_rfl) ?hrun5 (by simp [quiets, mkOf]; rfl) ?walk5 ?fin5
      case hrun5 =>
        intro x hx
        simp only [List.mem_cons, List.not_mem_nil, or_false] at hx
        rcases hx with rfl
        exact ⟨_, rfl, rfl, fun a w => by simp [go_sem, ptr]⟩
      case walk5 =>
        intro W2 hW2
        obtain ⟨a0, a1⟩ := KK.out W2 hW2
        have p0 := cell_regrown a0
        have p1 := cell_regrown a1
        repeat (go_big_quiet_step (first
          | (go_at_call 42; with_reducible exact Calls.regrown_of (HMK.out _))))
        refine wpQuiet_nil ?_
        rfl
      intro bs w5 hb hF hN'
      obtain ⟨hq, hqb⟩ := hF (13, (.cells #[.int .u32 0, .int .u32 0] 27)) (by simp)
      simp only [List.map_cons, List.map_nil, List.foldr_cons, List.foldr_nil] at *
      generalize bs 13 = q at *
      have HB5 := Lib.hid (hb.setCell2 hq (.int .u32 (xp.toNat : Int)) (.int .u32 (xm.toNat : Int)))
      have R3 := Lib.hid (two_set (x' := .int .u32 (xp.toNat : Int)) (y' := .int .u32 (xm.toNat : Int)) hqb)
      have c0 := cell_block hqb (o := 0) rfl
      have c1 := cell_block hqb (o := 1) rfl
      have f0 := frozen_block hqb (o := 0)
      have f1 := frozen_block hqb (o := 1)
      have HQ := Lib.hid hq
      clear bs hF hN' hb hqb KK HMK hq
      simp only [dstOf, ptr, Act.put, List.getElem?_toArray, List.getElem?_cons_succ, List.getElem?_cons_zero, Option.bind_some, List.setIfInBounds_toArray, List.set_cons_zero, List.set_cons_succ, List.drop_succ_cons, List.drop_zero]
      go_wp2_with fail
      generalize ((w5.setCell ⟨q, 0, none⟩ (.int .u32 (xp.toNat : Int))).setCell ⟨q, 1, none⟩ (.int .u32 (xm.toNat : Int))) = w6 at *
      clear c0 c1 f0 f1
      have HO6 := Lib.hid (HO.out.below HB5.out); have HW6 := Lib.hid (HW.out.trans (HB5.out.mono HW.out.size))
      have lq := (Array.getElem?_eq_some_iff.1 R3.out).1
      go_loopw [6, 7] (fun c i wi => ∃ j : Nat, j ≤ n ∧ i = .int .i64 (j : Int) ∧ c = .bool (decide ((xp, xm) ∈ S.take j)) ∧ Below w6.heap.size w6 wi) (fun _ i _ => n - (intOf i).toNat)
      case atStart => exact ⟨0, by omega, rfl, by simp, Below.refl _ _⟩
      case round =>
      obtain ⟨j, hj, rfl, rfl, hwi⟩ := hrel
      by_cases hlt2 : j < n
      · have hjl : j < S.length := by rw [HNn.out]; exact hlt2
        have hmt := mem_take_more (x := (xp, xm)) hjl
        obtain ⟨g, go, hao2, lg, d0, d1⟩ := HCELL.out j hjl
        subst hao2
        have lg6 : g < w6.heap.size := Nat.lt_of_lt_of_le lg HB5.out.size
        have d0 := ((hwi.cell (p := ⟨g, _, none⟩) lg6).trans (HB5.out.cell (p := ⟨g, _, none⟩) lg)).trans d0
        have d1 := ((hwi.cell (p := ⟨g, _, none⟩) lg6).trans (HB5.out.cell (p := ⟨g, _, none⟩) lg)).trans d1
        have rq := (hwi.block q lq).trans R3.out
        have r0 := cell_block rq (o := 0) rfl
        have r1 := cell_block rq (o := 1) rfl
        have heq := fun W => snd_eql (S[j].1.toNat : Int) (S[j].2.toNat : Int) ((xp, xm) : Snd).1.toNat ((xp, xm) : Snd).2.toNat W
        rw [snd_beq] at heq
        generalize S[j] = y at *
        obtain ⟨yp, ym⟩ := y
        simp only at d0 d1 heq
        have hj0 : (0 : Int) ≤ (j : Int) := by omega
        have hj3 : (j : Int) < (n : Int) := by omega
        have HWI := Lib.hid hwi; have HMT := Lib.hid hmt
        clear hwi hmt rq HCELL
        by_cases hin : (xp, xm) ∈ S.take j
        · have hnx : decide ((xp, xm) ∈ S.take (j + 1)) = true := decide_eq_true (HMT.out.2 (.inl hin))
          rw [decide_eq_true hin]
          have HNX := Lib.hid hnx
          clear hnx heq hin
          go_wp2_with fail
          go_region
          all_goals go_wp2_with fail
          all_goals (
            go_roundw
            case rel => exact ⟨j + 1, by omega, by go_num, by rw [HNX.out], HWI.out.drew⟩
            case measure => simp [intOf]; omega)
        · have hnx : decide ((xp, xm) ∈ S.take (j + 1)) = decide (((yp, ym) : Snd) = (xp, xm)) := decide_eq_decide.2 (HMT.out.trans ⟨fun h => h.elim (fun h => absurd h hin) id, .inr⟩)
          rw [decide_eq_false hin]
          have HNX := Lib.hid hnx
          clear hnx hin
          generalize decide (((yp, ym) : Snd) = (xp, xm)) = B at *
          go_wp2_with fail
          go_region
          all_goals go_wp2_with fail
          all_goals (
            go_roundw
            case rel => exact ⟨j + 1, by omega, by go_num, by rw [HNX.out], HWI.out.drew⟩
            case measure => simp [intOf]; omega)
      · obtain rfl : j = n := by omega
        have hall : S.take j = S := List.take_of_length_le (by rw [HNn.out]; exact Nat.le_refl _)
        rw [hall]
        have HWI := Lib.hid (HW6.out.trans (hwi.mono HW6.out.size)); have HOI := Lib.hid (HO6.out.below hwi); have RQ := Lib.hid ((hwi.block q lq).trans R3.out)
        clear hwi hall hlt2
        by_cases hin : (xp, xm) ∈ S
        · rw [decide_eq_true hin]
          clear hin
          go_wp2_with fail
          go_roundw
          case rel => exact ⟨k + 1, S, by omega, by go_num, HOI.out, HG.out, by rw [HNn.out]; exact hs, by rw [HNn.out]; omega, HWI.out⟩
          case measure => simp [intOf]; omega
        · have HGS := Lib.hid (HG.out.snoc hin HGD.out)
          rw [decide_eq_false hin]
          clear hin
          have r0 := cell_block RQ.out (o := 0) rfl
          have r1 := cell_block RQ.out (o := 1) rfl
          have hb8 : Below wr.heap.size wr (wr.alloc (.cells #[.int .u32 (xp.toNat : Int), .int .u32 (xm.toNat : Int)] 27)) := (Below.refl _ _).alloc (Nat.le_refl _) _
          have K8 := Lib.hid (World.alloc_heap_new wr (.cells #[.int .u32 (xp.toNat : Int), .int .u32 (xm.toNat : Int)] 27)); have HO8 := Lib.hid (HOI.out.below hb8); have HW8 := Lib.hid (HWI.out.trans (hb8.mono HWI.out.size))
          clear hb8
          go_wp2_with (at_builtin; (refine wpList_appL rfl (.tmp 49) (.tmp 51) rfl w.heap.size _ _ _ (xp, xm) rfl rfl K8.out HO8.out (by rw [HNn.out]; omega) (HW8.out.size) ?_; intro g cap2 w9 ho9 hg9 hat9; have HO9 := Lib.hid ho9; have HW9 := Lib.hid (HW8.out.grown hg9 HW8.out.size (fun k e => Own.row HO8.out k e)); clear ho9 hg9 hat9))
          go_roundw
          case rel => exact ⟨k + 1, S ++ [(xp, xm)], by omega, by go_num, HO9.out, HGS.out, by rw [List.length_append, HNn.out]; simp; omega, by rw [List.length_append, HNn.out]; simp; omega, HW9.out⟩
          case measure => simp [intOf]; omega
    · have e2 : decide ((n : Int) < 24) = false := decide_eq_false (by omega)
      have e2' : decide (n < 24) = false := decide_eq_false hfull
      clear HC HCELL
      go_wp2_with fail
      go_returns
      exact ⟨_, S, rfl, HO.out, HG.out, by rw [HNn.out]; exact hs, by rw [HNn.out]; omega, HW.out⟩
  · have e1 : decide ((k : Int) < (N : Int)) = false := decide_eq_false (by omega)
    have e1' : decide (k < N) = false := decide_eq_false hlt
    clear HC HCELL
    go_wp2_with fail
    go_returns
    exact ⟨_, S, rfl, HO.out, HG.out, by rw [HNn.out]; exact hs, by rw [HNn.out]; omega, HW.out⟩
end Go.Proofs.YtpnmapfabjdfjaaDoor

/-
  NaturalCloses, walked.
-/
namespace Go.Proofs.YtpnmapfabjdfjaaDoor
open Go.RowKit Go.Sort
theorem Wd.lenle {W : World} {v : Value} {ss : List Snd} (h : Wd W v ss) : ss.length ≤ 9223372036854775807 := by
  obtain ⟨_, _, _, h1, h2, _⟩ := h.open
  unfold maxLen at h2
  omega
theorem mod_and (a N : Nat) (hN : N ≤ 24) : bits .and .u32 (a : Int) ((2 ^ N : Nat) - 1 : Int) = ((a % 2 ^ N : Nat) : Int) ∧ True := by
  refine ⟨?_, trivial⟩
  have h0 : 0 < 2 ^ N := Nat.two_pow_pos N
  have h1 : 2 ^ N ≤ 2 ^ 24 := Nat.pow_le_pow_right (by decide) hN
  have e : ((2 ^ N : Nat) - 1 : Int) = ((2 ^ N - 1 : Nat) : Int) := by omega
  rw [e, bv_and, BitVec.ofInt_natCast, BitVec.ofInt_natCast, BitVec.toNat_and, BitVec.toNat_ofNat, BitVec.toNat_ofNat, Nat.mod_eq_of_lt (show 2 ^ N - 1 < 2 ^ 32 by omega), Nat.and_two_pow_sub_one_eq_mod, Nat.mod_mod_of_dvd _ (Nat.pow_dvd_pow 2 (by omega))]
theorem or_of (a b : Nat) (ha : a < 4294967296) (hb : b < 4294967296) : bits .or .u32 (a : Int) (b : Int) = ((a ||| b : Nat) : Int) := by
  rw [bv_or, BitVec.ofInt_natCast, BitVec.ofInt_natCast, BitVec.toNat_or, BitVec.toNat_ofNat, BitVec.toNat_ofNat, Nat.mod_eq_of_lt ha, Nat.mod_eq_of_lt hb]
/-- What NaturalCloses looks at. -/
structure ClP (l P1 P2 F1 F2 : List Snd) (C1 C2 : Snd) (M1 M2 : List Nat) (s1 : Nat) : Prop where
  e1 : cloE l P1 = 0
  e2 : cloE l P2 = 0
  c1 : cloC l P1 = C1
  c2 : cloC l P2 = C2
  m1 : cloM l P1 = M1
  m2 : cloM l P2 = M2
  e3 : cloE l F1 = 0
  c3 : cloC l F1 = C1
  m3 : cloM l F1 = M1
  is : isB l F1 = true
  se : selE l C1 = 0
  sm : selM l C1 = M1
  f1 : (M1.map fun i => l.getD i (0#32, 0#32)) = F1
  f2 : (M2.map fun i => l.getD i (0#32, 0#32)) = F2
  i1 : Inc l.length M1
  i2 : Inc l.length M2
  n1 : M1.length ≤ l.length
  n2 : M2.length ≤ l.length
  p1 : ∀ x ∈ P1, sat x C1 = true ∧ vld x.1 x.2 = true
  p2 : s1 ≠ 0 → ∀ x ∈ F1, sat x C2 = true
  pv : ∀ x ∈ F1, vld x.1 x.2 = true
  v1 : vld C1.1 C1.2 = true
  v2 : vld C2.1 C2.2 = true
  le : s1 ≠ 0 → F1.length ≤ F2.length
theorem clP_of {l : List Snd} {s1 s2 : Nat} (hg : Good l) (hn : l ≠ []) (hl : l.length ≤ 24) (h1 : s1 < 2 ^ l.length) (h2 : ∀ i, s1.testBit i = true → s2.testBit i = true) : ∃ P1 P2 F1 F2 C1 C2 M1 M2, ptL l s1 = P1 ∧ ptL l s2 = P2 ∧ ClP l P1 P2 F1 F2 C1 C2 M1 M2 s1 := by
  have hck := hg.ck (most := 256) (by omega)
  have hv : ∀ x ∈ l, vld x.1 x.2 = true := fun x hx => (hg.2 x hx).1
  have n1 := ptL_ne s1 hn
  have n2 := ptL_ne s2 hn
  have u1 : ∀ x ∈ ptL l s1, x ∈ l := ptL_mem
  have u2 : ∀ x ∈ ptL l s2, x ∈ l := ptL_mem
  have e1 := clo_zero hck n1 u1
  have e2 := clo_zero hck n2 u2
  have e3 := clo_zero hck (flt_ne n1 u1) (fun x hx => (mem_flt.1 hx).1)
  have v1 : vld (cmS (ptL l s1)).1 (cmS (ptL l s1)).2 = true := cmS_vld fun x hx => hv x (u1 x hx)
  have v2 : vld (cmS (ptL l s2)).1 (cmS (ptL l s2)).2 = true := cmS_vld fun x hx => hv x (u2 x hx)
  have hse : selE l (cmS (ptL l s1)) = 0 := by unfold selE; rw [if_neg (fun e => e hck), if_pos v1]
  have hst : s1 ≠ 0 → ∀ x ∈ flt (cmS (ptL l s1)) l, sat x (cmS (ptL l s2)) = true := fun h0 x hx => sat_trans (mem_flt.1 hx).2 (cm_mono n1 (ptL_more h0 h1 h2))
  refine ⟨_, _, flt (cmS (ptL l s1)) l, flt (cmS (ptL l s2)) l, cmS (ptL l s1), cmS (ptL l s2), msL (cmS (ptL l s1)) l 0, msL (cmS (ptL l s2)) l 0, rfl, rfl, ?_⟩
  exact {
    e1 := e1, e2 := e2, c1 := clo_C e1, c2 := clo_C e2, m1 := clo_M e1, m2 := clo_M e2, e3 := e3
    c3 := by rw [clo_C e3, cm_flt n1 u1]
    m3 := by rw [clo_M e3, cm_flt n1 u1]
    is := is_flt hg.1 hck n1 u1
    se := hse
    sm := by unfold selM; rw [if_pos hse]
    f1 := msL_flt _ _, f2 := msL_flt _ _, i1 := msL_inc _ _, i2 := msL_inc _ _, n1 := msL_len _ _ _, n2 := msL_len _ _ _
    p1 := fun x hx => ⟨sat_cmS x hx, hv x (u1 x hx)⟩
    p2 := hst
    pv := fun x hx => hv x (mem_flt.1 hx).1
    v1 := v1, v2 := v2
    le := fun h0 => len_of_sub _ _ (show (flt (cmS (ptL l s1)) l).Nodup from hg.1.filter _) (fun x hx => mem_flt.2 ⟨(mem_flt.1 hx).1, hst h0 x hx⟩) }
set_option maxRecDepth 100000 in
set_option maxHeartbeats 8000000 in
theorem closes_any (l0 : List (Nat × Nat)) (v0 : Value) (a b : Nat) (ha : a < 4294967296) (hb : b < 4294967296) (w : World) (h0 : Pz w v0 l0) (hT : Tab w) (lT : 0 < w.heap.size) : Gives 7 #[v0, .int .u32 (a : Int), .int .u32 (b : Int)] w (.bool true) := by
  unfold Gives
  have HT := Lib.hid hT; have LT := Lib.hid lT; have HDI := Lib.hid (different_any l0 v0 w h0); have HB0 := Lib.hid (Below.refl w.heap.size w)
  clear hT lT
  obtain ⟨ao0, cap0, rfl, -, -, -⟩ := h0.open
  clear h0
  go_enter Tryd.func7, Tryd.ntmps7
  go_wp2_with fail
  go_at_call 33
  refine HDI.out.mono ?_
  rintro e w1 ⟨m1, l, rfl, ho1, hg1, hs1, hb1⟩
  obtain ⟨ao, cap, hv1, c1, cm1, hc⟩ := ho1.wd.open
  obtain ⟨N, hN⟩ : ∃ N, l.length = N := ⟨_, rfl⟩
  have hwd := ho1.wd
  rw [hN] at hv1 hs1
  subst hv1
  have l1 : N ≤ 9223372036854775807 := by omega
  have HWD := Lib.hid hwd; have HBw1 := Lib.hid hb1; have HN := Lib.hid hN; have HG := Lib.hid hg1
  clear hc hwd hb1 ho1 HDI c1 cm1 hN hg1
  by_cases hz : N = 0
  · have g1 : ((N : Int) == 0) = true := by rw [hz]; rfl
    clear hz
    go_wp2_with fail
    go_at_call 14
    refine Gives.then (works_any _ (HT.out.below HBw1.out LT.out) (Nat.lt_of_lt_of_le LT.out HBw1.out.size)) ?_
    intro w6 hb6
    have HW6 := Lib.hid (HBw1.out.trans (hb6.mono HBw1.out.size))
    clear hb6
    go_wp2_with fail
    go_returns
    exact ⟨rfl, HW6.out⟩
  have g1 : ((N : Int) == 0) = false := by rw [beq_eq_false_iff_ne]; omega
  have hln : l ≠ [] := fun e => hz (by rw [← HN.out, e]; rfl)
  obtain ⟨P, hP⟩ : ∃ P : Nat, 2 ^ N = P := ⟨_, rfl⟩
  have hP2 : P ≤ 16777216 := by rw [← hP]; exact Nat.le_trans (Nat.pow_le_pow_right (by decide) hs1) (by decide)
  have hP1 : 1 ≤ P := by rw [← hP]; exact Nat.one_le_two_pow
  have hPi : ((2 : Int) ^ N) = (P : Int) := by rw [← hP]; simp
  have hmn : min N 32 = N := Nat.min_eq_left (by omega)
  have hm0 : (2 : Int) ^ (min N 32) % 4294967296 = (P : Int) := by rw [hmn, hPi]; omega
  have hm1 : (2 : Int) ^ N % 4294967296 = (P : Int) := by rw [hPi]; omega
  have hm2 : ((P : Int) - 1) % 4294967296 = (P : Int) - 1 := by omega
  have HMN := Lib.hid hmn; clear hmn
  have hand := (mod_and a N hs1).1
  rw [hP] at hand
  have hs1' : a % P < P := Nat.mod_lt _ hP1
  obtain ⟨s1, hs⟩ : ∃ s1, a % P = s1 := ⟨_, rfl⟩
  rw [hs] at hand hs1'
  have horr := or_of s1 b (by omega) hb
  have hsz : s1 < 4294967296 := by omega
  have hs2 : s1 ||| b < 4294967296 := Nat.or_lt_two_pow (n := 32) hsz hb
  obtain ⟨P1, P2, F1, F2, C1, C2, M1, M2, hp1, hp2, hK⟩ := clP_of (s1 := s1) (s2 := s1 ||| b) HG.out hln (by rw [HN.out]; exact hs1) (by rw [HN.out, hP]; exact hs1') (fun i hi => by rw [Nat.testBit_or, hi]; rfl)
  have hpa1 := fun W v h => part_any l s1 v W hsz (by rw [HN.out]; exact hs1) h
  have hpa2 := fun W v h => part_any l (s1 ||| b) v W hs2 (by rw [HN.out]; exact hs1) h
  rw [hp1] at hpa1; rw [hp2] at hpa2
  have HPA1 := Lib.hid hpa1; have HPA2 := Lib.hid hpa2; have HK := Lib.hid hK; have HLE := Lib.hid hK.le; have HLT := Lib.hid hs1
  generalize s1 ||| b = s2 at *
  clear hpa1 hpa2 hK hp1 hp2 hs hP hPi hs1' hs2 hP1 hP2 hln hs1
  obtain ⟨p1, q1⟩ := C1
  obtain ⟨p2, q2z⟩ := C2
  have hne : ∀ W, (binOp .neq 27 (.agg #[.int .u32 (p1.toNat : Int), .int .u32 (q1.toNat : Int)]) (.agg #[.int .u32 (p1.toNat : Int), .int .u32 (q1.toNat : Int)])).run Tryd.prog W = .ok (.bool false) W := fun W => by
    have h := snd_neq (p1.toNat : Int) (q1.toNat : Int) (p1.toNat : Int) (q1.toNat : Int) W
    simpa using h
  go_wp2_with fail
  go_at_call 34
  refine (HPA1.out _ _ HWD.out).mono ?_
  rintro e w2 ⟨m2, rfl, hop, hbw2⟩
  have HP1 := Lib.hid hop.wd
  clear hop
  have HBw2 := Lib.hid (HBw1.out.trans (hbw2.mono HBw1.out.size))
  have HWD := Lib.hid (HWD.out.below hbw2)
  clear hbw2
  go_wp2_with fail
  have hc : ∀ u, Wd w2 u P1 → Calls Tryd.prog 15 #[.slice ao N cap, u] w2 fun e w' => ∃ m, e = .returned (.tuple #[.agg #[.int .u32 (p1.toNat : Int), .int .u32 (q1.toNat : Int)], m, .int .i64 0]) ∧ OwnI w' w2.heap.size m M1 ∧ Below w2.heap.size w2 w' := fun u hu => by
    have h := closure_any l P1 _ u w2 HWD.out hu
    rw [HK.out.e1, HK.out.c1, HK.out.m1] at h
    exact h
  have HC := Lib.hid hc
  clear hc
  go_at_call 15
  refine (HC.out _ HP1.out).mono ?_
  rintro e w3 ⟨m3, rfl, hoi, hbw3⟩
  have HM1 := Lib.hid hoi.is
  clear hoi HC
  have HBw3 := Lib.hid (HBw2.out.trans (hbw3.mono HBw2.out.size))
  have HWD := Lib.hid (HWD.out.below hbw3)
  have HP1 := Lib.hid (HP1.out.below hbw3)
  clear hbw3
  go_wp2_with fail
  have k := World.alloc_heap_new w3 (.cells #[.int .u32 (p1.toNat : Int), .int .u32 (q1.toNat : Int)] 27)
  have hbw4 : Below w3.heap.size w3 (w3.alloc (.cells #[.int .u32 (p1.toNat : Int), .int .u32 (q1.toNat : Int)] 27)) := (Below.refl _ _).alloc (Nat.le_refl _) _
  generalize w3.alloc (.cells #[.int .u32 (p1.toNat : Int), .int .u32 (q1.toNat : Int)] 27) = w4 at *
  have HBw4 := Lib.hid (HBw3.out.trans (hbw4.mono HBw3.out.size))
  have HWD := Lib.hid (HWD.out.below hbw4)
  have HP1 := Lib.hid (HP1.out.below hbw4)
  have HM1 := Lib.hid (HM1.out.below hbw4)
  clear hbw4
  have K1 := Lib.hid k
  clear k
  generalize w3.heap.size = B1 at *
  go_at_call 34
  refine (HPA2.out _ _ HWD.out).mono ?_
  rintro e w5 ⟨m4, rfl, hop, hbw5⟩
  have HP2 := Lib.hid hop.wd
  clear hop
  have HBw5 := Lib.hid (HBw4.out.trans (hbw5.mono HBw4.out.size))
  have HWD := Lib.hid (HWD.out.below hbw5)
  have HP1 := Lib.hid (HP1.out.below hbw5)
  have HM1 := Lib.hid (HM1.out.below hbw5)
  have K1 := Lib.hid ((hbw5.block _ (Array.getElem?_eq_some_iff.1 K1.out).1).trans K1.out)
  clear hbw5
  go_wp2_with fail
  have hc : ∀ u, Wd w5 u P2 → Calls Tryd.prog 15 #[.slice ao N cap, u] w5 fun e w' => ∃ m, e = .returned (.tuple #[.agg #[.int .u32 (p2.toNat : Int), .int .u32 (q2z.toNat : Int)], m, .int .i64 0]) ∧ OwnI w' w5.heap.size m M2 ∧ Below w5.heap.size w5 w' := fun u hu => by
    have h := closure_any l P2 _ u w5 HWD.out hu
    rw [HK.out.e2, HK.out.c2, HK.out.m2] at h
    exact h
  have HC := Lib.hid hc
  clear hc
  go_at_call 15
  refine (HC.out _ HP2.out).mono ?_
  rintro e w6 ⟨m5, rfl, hoi, hbw6⟩
  have HM2 := Lib.hid hoi.is
  clear hoi HC
  have HBw6 := Lib.hid (HBw5.out.trans (hbw6.mono HBw5.out.size))
  have HWD := Lib.hid (HWD.out.below hbw6)
  have HP1 := Lib.hid (HP1.out.below hbw6)
  have HM1 := Lib.hid (HM1.out.below hbw6)
  have K1 := Lib.hid ((hbw6.block _ (Array.getElem?_eq_some_iff.1 K1.out).1).trans K1.out)
  have HP2 := Lib.hid (HP2.out.below hbw6)
  clear hbw6
  go_wp2_with fail
  clear HP1 HP2
  have k := World.alloc_heap_new w6 (.cells #[.int .u32 (p2.toNat : Int), .int .u32 (q2z.toNat : Int)] 27)
  have hbw7 : Below w6.heap.size w6 (w6.alloc (.cells #[.int .u32 (p2.toNat : Int), .int .u32 (q2z.toNat : Int)] 27)) := (Below.refl _ _).alloc (Nat.le_refl _) _
  generalize w6.alloc (.cells #[.int .u32 (p2.toNat : Int), .int .u32 (q2z.toNat : Int)] 27) = w7 at *
  have HBw7 := Lib.hid (HBw6.out.trans (hbw7.mono HBw6.out.size))
  have HWD := Lib.hid (HWD.out.below hbw7)
  have HM1 := Lib.hid (HM1.out.below hbw7)
  have K1 := Lib.hid ((hbw7.block _ (Array.getElem?_eq_some_iff.1 K1.out).1).trans K1.out)
  have HM2 := Lib.hid (HM2.out.below hbw7)
  clear hbw7
  have K2 := Lib.hid k
  clear k
  generalize w6.heap.size = B2 at *
  obtain ⟨n1, hn1⟩ : ∃ n1, F1.length = n1 := ⟨_, rfl⟩
  obtain ⟨n2, hn2⟩ : ∃ n2, F2.length = n2 := ⟨_, rfl⟩
  have HN1 := Lib.hid hn1; have HN2 := Lib.hid hn2; rw [hn1, hn2] at HLE; clear hn1 hn2
  have hc := at_any l M1 _ _ w7 (by rw [HN.out]; have := HLT.out; omega) HWD.out HM1.out HK.out.i1 (by have := HK.out.n1; rw [HN.out] at this; have := HLT.out; omega)
  rw [HK.out.f1] at hc
  have HC := Lib.hid hc
  clear hc
  go_at_call 35
  refine (HC.out).mono ?_
  rintro e w8 ⟨m6, rfl, hoi, hbw8⟩
  have HF1 := Lib.hid hoi.wd
  obtain ⟨a1, k1, hm, -⟩ := hoi.wd.open; rw [HN1.out] at hm
  subst hm
  clear hoi HC
  have HBw8 := Lib.hid (HBw7.out.trans (hbw8.mono HBw7.out.size))
  have HWD := Lib.hid (HWD.out.below hbw8)
  have HM1 := Lib.hid (HM1.out.below hbw8)
  have K1 := Lib.hid ((hbw8.block _ (Array.getElem?_eq_some_iff.1 K1.out).1).trans K1.out)
  have HM2 := Lib.hid (HM2.out.below hbw8)
  have K2 := Lib.hid ((hbw8.block _ (Array.getElem?_eq_some_iff.1 K2.out).1).trans K2.out)
  clear hbw8
  go_wp2_with fail
  have hc := at_any l M2 _ _ w8 (by rw [HN.out]; have := HLT.out; omega) HWD.out HM2.out HK.out.i2 (by have := HK.out.n2; rw [HN.out] at this; have := HLT.out; omega)
  rw [HK.out.f2] at hc
  have HC := Lib.hid hc
  clear hc
  go_at_call 35
  refine (HC.out).mono ?_
  rintro e w9 ⟨m7, rfl, hoi, hbw9⟩
  have HF2 := Lib.hid hoi.wd
  obtain ⟨a2, k2, hm, -⟩ := hoi.wd.open; rw [HN2.out] at hm
  subst hm
  clear hoi HC
  have HBw9 := Lib.hid (HBw8.out.trans (hbw9.mono HBw8.out.size))
  have HWD := Lib.hid (HWD.out.below hbw9)
  have HM1 := Lib.hid (HM1.out.below hbw9)
  have K1 := Lib.hid ((hbw9.block _ (Array.getElem?_eq_some_iff.1 K1.out).1).trans K1.out)
  have HM2 := Lib.hid (HM2.out.below hbw9)
  have K2 := Lib.hid ((hbw9.block _ (Array.getElem?_eq_some_iff.1 K2.out).1).trans K2.out)
  have HF1 := Lib.hid (HF1.out.below hbw9)
  clear hbw9
  go_wp2_with fail
  clear HM2 HF2
  have hc : ∀ u, Wd w9 u F1 → Calls Tryd.prog 15 #[.slice ao N cap, u] w9 fun e w' => ∃ m, e = .returned (.tuple #[.agg #[.int .u32 (p1.toNat : Int), .int .u32 (q1.toNat : Int)], m, .int .i64 0]) ∧ OwnI w' w9.heap.size m M1 ∧ Below w9.heap.size w9 w' := fun u hu => by
    have h := closure_any l F1 _ u w9 HWD.out hu
    rw [HK.out.e3, HK.out.c3, HK.out.m3] at h
    exact h
  have HC := Lib.hid hc
  clear hc
  go_at_call 15
  refine (HC.out _ HF1.out).mono ?_
  rintro e w10 ⟨m8, rfl, hoi, hbw10⟩
  have HM3 := Lib.hid hoi.is
  clear hoi HC
  have HBw10 := Lib.hid (HBw9.out.trans (hbw10.mono HBw9.out.size))
  have HWD := Lib.hid (HWD.out.below hbw10)
  have HM1 := Lib.hid (HM1.out.below hbw10)
  have K1 := Lib.hid ((hbw10.block _ (Array.getElem?_eq_some_iff.1 K1.out).1).trans K1.out)
  have K2 := Lib.hid ((hbw10.block _ (Array.getElem?_eq_some_iff.1 K2.out).1).trans K2.out)
  have HF1 := Lib.hid (HF1.out.below hbw10)
  clear hbw10
  go_wp2_with fail
  have k := World.alloc_heap_new w10 (.cells #[.int .u32 (p1.toNat : Int), .int .u32 (q1.toNat : Int)] 27)
  have hbw11 : Below w10.heap.size w10 (w10.alloc (.cells #[.int .u32 (p1.toNat : Int), .int .u32 (q1.toNat : Int)] 27)) := (Below.refl _ _).alloc (Nat.le_refl _) _
  generalize w10.alloc (.cells #[.int .u32 (p1.toNat : Int), .int .u32 (q1.toNat : Int)] 27) = w11 at *
  have HBw11 := Lib.hid (HBw10.out.trans (hbw11.mono HBw10.out.size))
  have HWD := Lib.hid (HWD.out.below hbw11)
  have HM1 := Lib.hid (HM1.out.below hbw11)
  have K1 := Lib.hid ((hbw11.block _ (Array.getElem?_eq_some_iff.1 K1.out).1).trans K1.out)
  have K2 := Lib.hid ((hbw11.block _ (Array.getElem?_eq_some_iff.1 K2.out).1).trans K2.out)
  have HF1 := Lib.hid (HF1.out.below hbw11)
  have HM3 := Lib.hid (HM3.out.below hbw11)
  clear hbw11
  have K3 := Lib.hid k
  clear k
  generalize w10.heap.size = B3 at *
  have hc : Gives 17 #[.slice ao N cap, .slice a1 n1 k1] w11 (.tuple #[.bool true, .int .i64 0]) := by
    have h := is_any l F1 _ _ w11 HWD.out HF1.out
    rw [HK.out.is, HK.out.e3] at h
    exact h
  have HC := Lib.hid hc
  clear hc
  go_at_call 17
  (with_reducible refine Gives.then (HC.out) ?_)
  intro w12 hbw12
  have HBw12 := Lib.hid (HBw11.out.trans (hbw12.mono HBw11.out.size))
  have HWD := Lib.hid (HWD.out.below hbw12)
  have HM1 := Lib.hid (HM1.out.below hbw12)
  have K1 := Lib.hid ((hbw12.block _ (Array.getElem?_eq_some_iff.1 K1.out).1).trans K1.out)
  have K2 := Lib.hid ((hbw12.block _ (Array.getElem?_eq_some_iff.1 K2.out).1).trans K2.out)
  have HF1 := Lib.hid (HF1.out.below hbw12)
  have HM3 := Lib.hid (HM3.out.below hbw12)
  have K3 := Lib.hid ((hbw12.block _ (Array.getElem?_eq_some_iff.1 K3.out).1).trans K3.out)
  clear hbw12
  clear HC
  have e0 : w12.cell? ⟨B1, 0, none⟩ = some (.int .u32 (p1.toNat : Int)) := cell_block K1.out rfl
  have e1 : w12.cell? ⟨B1, 1, none⟩ = some (.int .u32 (q1.toNat : Int)) := cell_block K1.out rfl
  go_wp2_with fail
  have hc : Calls Tryd.prog 23 #[.slice ao N cap, .agg #[.int .u32 (p1.toNat : Int), .int .u32 (q1.toNat : Int)]] w12 fun e w' => ∃ m, e = .returned (.tuple #[m, .int .i64 0]) ∧ OwnI w' w12.heap.size m M1 ∧ Below w12.heap.size w12 w' := by
    have h := select_any l (p1, q1) _ w12 HWD.out
    rw [HK.out.se, HK.out.sm] at h
    exact h
  clear e0 e1
  have HC := Lib.hid hc
  clear hc
  go_at_call 23
  refine (HC.out).mono ?_
  rintro e w13 ⟨m9, rfl, hoi, hbw13⟩
  have HM4 := Lib.hid hoi.is
  clear hoi HC
  have HBw13 := Lib.hid (HBw12.out.trans (hbw13.mono HBw12.out.size))
  have HWD := Lib.hid (HWD.out.below hbw13)
  have HM1 := Lib.hid (HM1.out.below hbw13)
  have K1 := Lib.hid ((hbw13.block _ (Array.getElem?_eq_some_iff.1 K1.out).1).trans K1.out)
  have K2 := Lib.hid ((hbw13.block _ (Array.getElem?_eq_some_iff.1 K2.out).1).trans K2.out)
  have HF1 := Lib.hid (HF1.out.below hbw13)
  have HM3 := Lib.hid (HM3.out.below hbw13)
  have K3 := Lib.hid ((hbw13.block _ (Array.getElem?_eq_some_iff.1 K3.out).1).trans K3.out)
  clear hbw13
  have f10 : w13.cell? ⟨B1, 0, none⟩ = some (.int .u32 (p1.toNat : Int)) := cell_block K1.out rfl
  have f11 : w13.cell? ⟨B1, 1, none⟩ = some (.int .u32 (q1.toNat : Int)) := cell_block K1.out rfl
  have f30 : w13.cell? ⟨B3, 0, none⟩ = some (.int .u32 (p1.toNat : Int)) := cell_block K3.out rfl
  have f31 : w13.cell? ⟨B3, 1, none⟩ = some (.int .u32 (q1.toNat : Int)) := cell_block K3.out rfl
  go_wp2_with fail
  have hc := equal_any M1 M1 _ _ w13 HM3.out HM1.out
  rw [decide_eq_true rfl] at hc
  have HC := Lib.hid hc
  clear hc
  go_at_call 21
  refine Gives.then (HC.out) ?_
  intro w14 hbw14
  have HBw14 := Lib.hid (HBw13.out.trans (hbw14.mono HBw13.out.size))
  have HWD := Lib.hid (HWD.out.below hbw14)
  have HM1 := Lib.hid (HM1.out.below hbw14)
  have K1 := Lib.hid ((hbw14.block _ (Array.getElem?_eq_some_iff.1 K1.out).1).trans K1.out)
  have K2 := Lib.hid ((hbw14.block _ (Array.getElem?_eq_some_iff.1 K2.out).1).trans K2.out)
  have HF1 := Lib.hid (HF1.out.below hbw14)
  have HM3 := Lib.hid (HM3.out.below hbw14)
  have K3 := Lib.hid ((hbw14.block _ (Array.getElem?_eq_some_iff.1 K3.out).1).trans K3.out)
  have HM4 := Lib.hid (HM4.out.below hbw14)
  clear hbw14
  go_wp2_with fail
  clear HC f10 f11 f30 f31
  have hc := equal_any M1 M1 _ _ w14 HM4.out HM1.out
  rw [decide_eq_true rfl] at hc
  have HC := Lib.hid hc
  clear hc
  go_at_call 21
  refine Gives.then (HC.out) ?_
  intro w15 hbw15
  have HBw15 := Lib.hid (HBw14.out.trans (hbw15.mono HBw14.out.size))
  have HWD := Lib.hid (HWD.out.below hbw15)
  have HM1 := Lib.hid (HM1.out.below hbw15)
  have K1 := Lib.hid ((hbw15.block _ (Array.getElem?_eq_some_iff.1 K1.out).1).trans K1.out)
  have K2 := Lib.hid ((hbw15.block _ (Array.getElem?_eq_some_iff.1 K2.out).1).trans K2.out)
  have HF1 := Lib.hid (HF1.out.below hbw15)
  have HM3 := Lib.hid (HM3.out.below hbw15)
  have K3 := Lib.hid ((hbw15.block _ (Array.getElem?_eq_some_iff.1 K3.out).1).trans K3.out)
  have HM4 := Lib.hid (HM4.out.below hbw15)
  clear hbw15
  go_wp2_with fail
  clear HC
  clear HM1 HM3 HM4 K3
  go_at_call 34
  refine (HPA1.out _ _ HWD.out).mono ?_
  rintro e w16 ⟨m10, rfl, hop, hbw16⟩
  have HP1 := Lib.hid hop.wd
  obtain ⟨a3, k3, hm, -, -, hcc⟩ := hop.wd.open
  obtain ⟨n3, hn3⟩ : ∃ n3, P1.length = n3 := ⟨_, rfl⟩
  rw [hn3] at hm
  subst hm
  have HCC := Lib.hid hcc; have HN3 := Lib.hid hn3
  have l3 : n3 ≤ 9223372036854775807 := by have := hop.wd.lenle; omega
  clear hop hcc hn3
  have HBw16 := Lib.hid (HBw15.out.trans (hbw16.mono HBw15.out.size))
  have HWD := Lib.hid (HWD.out.below hbw16)
  have K1 := Lib.hid ((hbw16.block _ (Array.getElem?_eq_some_iff.1 K1.out).1).trans K1.out)
  have K2 := Lib.hid ((hbw16.block _ (Array.getElem?_eq_some_iff.1 K2.out).1).trans K2.out)
  have HF1 := Lib.hid (HF1.out.below hbw16)
  clear hbw16
  go_wp2_with fail
  go_loopw [26] (fun i wr => ∃ k : Nat, k ≤ n3 ∧ i = .int .i64 (k : Int) ∧ Below w16.heap.size w16 wr) (fun i _ => n3 - (intOf i).toNat)
  case atStart => exact ⟨0, by omega, rfl, Below.refl _ _⟩
  case round =>
  obtain ⟨k, hk, rfl, hw⟩ := hrel
  by_cases hlt : k < n3
  · have hkl : k < P1.length := by rw [HN3.out]; exact hlt
    obtain ⟨g, off, hao, lg, d0, d1⟩ := HCC.out k hkl
    subst hao
    have d0 := (hw.cell (p := ⟨g, _, none⟩) lg).trans d0
    have d1 := (hw.cell (p := ⟨g, _, none⟩) lg).trans d1
    have zb := (Array.getElem?_eq_some_iff.1 K1.out).1
    have c0 : wr.cell? ⟨B1, 0, none⟩ = some (.int .u32 (p1.toNat : Int)) := (hw.cell (p := ⟨B1, _, none⟩) zb).trans (cell_block K1.out rfl)
    have c1 : wr.cell? ⟨B1, 1, none⟩ = some (.int .u32 (q1.toNat : Int)) := (hw.cell (p := ⟨B1, _, none⟩) zb).trans (cell_block K1.out rfl)
    obtain ⟨hst, hxv⟩ := HK.out.p1 P1[k] (List.getElem_mem hkl)
    have hsc := gv_st P1[k] (p1, q1) hxv HK.out.v1
    rw [hst] at hsc
    generalize P1[k] = x at *
    obtain ⟨xp, xm⟩ := x
    simp only at d0 d1 hsc
    have HSC := Lib.hid hsc; have HW := Lib.hid hw
    have hk3 : (k : Int) < (n3 : Int) := by omega
    have hk0 : (0 : Int) ≤ (k : Int) := by omega
    clear hsc hw hst hxv HCC
    go_wp2_with fail
    go_region_with (go_at_call 36; (with_reducible refine Gives.then (HSC.out _) ?_); intro w90 hb90; have HW90 := Lib.hid (HW.out.drew.trans (hb90.mono HW.out.size)); clear hb90)
    all_goals clear d0 d1 c0 c1
    all_goals (
      go_wp2_with fail
      go_roundw
      case rel => exact ⟨k + 1, by omega, by go_num, HW90.out⟩
      case measure => simp [intOf]; omega)
  obtain rfl : k = n3 := by omega
  have hbR := hw
  clear hw hlt HCC
  have HBwr := Lib.hid (HBw16.out.trans (hbR.mono HBw16.out.size))
  have HF1 := Lib.hid (HF1.out.below hbR)
  have K2 := Lib.hid ((hbR.block _ (Array.getElem?_eq_some_iff.1 K2.out).1).trans K2.out)
  clear hbR
  obtain ⟨a1x, k1x, hm, -, -, hcc⟩ := HF1.out.open
  rw [HN1.out] at hm
  obtain ⟨rfl, rfl⟩ : a1 = a1x ∧ k1 = k1x := by injection hm with x y z; exact ⟨x, z⟩
  have HCC := Lib.hid hcc
  have l4 : n1 ≤ 9223372036854775807 := by have := HF1.out.lenle; rw [HN1.out] at this; omega
  clear hcc hm
  go_wp2_with fail
  have hz0 : s1 = 0 ∨ s1 ≠ 0 := by omega
  rcases hz0 with hs0 | hs0
  · subst hs0
    obtain ⟨wS, hS⟩ : ∃ x, x = wr := ⟨_, rfl⟩
    subst hS
    go_loopw [27] (fun i wi => i = .int .i64 0 ∧ wi = wS) (fun i _ => 0)
    case atStart => exact ⟨rfl, rfl⟩
    case round =>
    obtain ⟨rfl, rfl⟩ := hrel
    go_wp2_with fail
    all_goals (
      go_at_call 14
      refine Gives.then (works_any _ (HT.out.below HBwr.out LT.out) (Nat.lt_of_lt_of_le LT.out HBwr.out.size)) ?_
      intro w6 hb6
      have HW6 := Lib.hid (HBwr.out.trans (hb6.mono HBwr.out.size))
      clear hb6
      go_wp2_with fail
      go_returns
      exact ⟨rfl, HW6.out⟩)
  · obtain ⟨wS, hS⟩ : ∃ x, x = wr := ⟨_, rfl⟩
    subst hS
    have HP2 := Lib.hid (HK.out.p2 hs0)
    have hle := HLE.out hs0
    have q1 : ((s1 : Int) != 0) = true := by rw [bne_iff_ne]; omega
    have q2 : ((s1 : Int) == 0) = false := by rw [beq_eq_false_iff_ne]; omega
    have q3 : (s1 = 0) = False := by simpa using hs0
    have q4 : decide ((n1 : Int) ≤ (n2 : Int)) = true := decide_eq_true (by omega)
    have q4' : decide (n1 ≤ n2) = true := decide_eq_true hle
    go_loopw [27] (fun i wi => ∃ k : Nat, k ≤ n1 ∧ i = .int .i64 (k : Int) ∧ Below wS.heap.size wS wi) (fun i _ => n1 - (intOf i).toNat)
    case atStart => exact ⟨0, by omega, rfl, Below.refl _ _⟩
    case round =>
    obtain ⟨k, hk, rfl, hw⟩ := hrel
    by_cases hlt : k < n1
    · have hkl : k < F1.length := by rw [HN1.out]; exact hlt
      obtain ⟨g, off, hao, lg, d0, d1⟩ := HCC.out k hkl
      subst hao
      have d0 := (hw.cell (p := ⟨g, _, none⟩) lg).trans d0
      have d1 := (hw.cell (p := ⟨g, _, none⟩) lg).trans d1
      have zb := (Array.getElem?_eq_some_iff.1 K2.out).1
      have c0 : wr.cell? ⟨B2, 0, none⟩ = some (.int .u32 (p2.toNat : Int)) := (hw.cell (p := ⟨B2, _, none⟩) zb).trans (cell_block K2.out rfl)
      have c1 : wr.cell? ⟨B2, 1, none⟩ = some (.int .u32 (q2z.toNat : Int)) := (hw.cell (p := ⟨B2, _, none⟩) zb).trans (cell_block K2.out rfl)
      have hst := HP2.out F1[k] (List.getElem_mem hkl)
      have hsc := gv_st F1[k] (p2, q2z) (HK.out.pv F1[k] (List.getElem_mem hkl)) HK.out.v2
      rw [hst] at hsc
      generalize F1[k] = x at *
      obtain ⟨xp, xm⟩ := x
      simp only at d0 d1 hsc
      have HSC := Lib.hid hsc; have HW := Lib.hid hw
      have hk3 : (k : Int) < (n1 : Int) := by omega
      have hk0 : (0 : Int) ≤ (k : Int) := by omega
      clear hsc hw hst HCC
      go_wp2_with fail
      go_region_with (go_at_call 36; (with_reducible refine Gives.then (HSC.out _) ?_); intro w95 hb95; have HW95 := Lib.hid (HW.out.drew.trans (hb95.mono HW.out.size)); clear hb95)
      all_goals clear d0 d1 c0 c1
      all_goals (
        go_wp2_with fail
        go_roundw
        case rel => exact ⟨k + 1, by omega, by go_num, HW95.out⟩
        case measure => simp [intOf]; omega)
    · obtain rfl : k = n1 := by omega
      have HW := Lib.hid (HBwr.out.trans (hw.mono HBwr.out.size))
      clear hw hlt HCC
      go_wp2_with fail
      go_at_call 14
      refine Gives.then (works_any _ (HT.out.below HW.out LT.out) (Nat.lt_of_lt_of_le LT.out HW.out.size)) ?_
      intro w6 hb6
      have HW6 := Lib.hid (HW.out.trans (hb6.mono HW.out.size))
      clear hb6
      go_wp2_with fail
      go_returns
      exact ⟨rfl, HW6.out⟩
end Go.Proofs.YtpnmapfabjdfjaaDoor

/-
  NaturalTurns, walked.
-/
namespace Go.Proofs.YtpnmapfabjdfjaaDoor
open Go.RowKit Go.Sort
theorem gap_vld {l : List Snd} (hv : ∀ x ∈ l, vld x.1 x.2 = true) {g : Snd} (h : gapP l g) : vld g.1 g.2 = true ∧ g ∉ l := by
  obtain ⟨a, ha, b, hb, h1, z, hz, _, rfl, hn⟩ := (gapP_all l g).1 h
  refine ⟨?_, hn⟩
  have hf := (lon_val (dif_lt (hv a ha) (hv b hb)) (of_decide_eq_true h1)).1
  exact vld_with (hv z hz) _ _ (by show ((feN a b : Nat) : Int).toNat < 24; unfold feN; omega)
theorem Good.rev {l : List Snd} (h : Good l) : Good l.reverse := ⟨List.pairwise_reverse.2 (List.Pairwise.imp (fun h => Ne.symm h) h.1), fun s hs => h.2 s (List.mem_reverse.1 hs)⟩
theorem Pz.take8 {w : World} {b off N cap : Nat} {l : List (Nat × Nat)} (h : Pz w (.slice (some ⟨b, off, none⟩) N cap) l) (hN : 8 < N) : Pz w (.slice (some ⟨b, off, none⟩) 8 cap) (l.take 8) := by
  rcases h with ⟨h, -⟩ | ⟨b', off', cap', hv, h1, h2, h3, h4⟩
  · rcases h with h | ⟨aa, h⟩
    · cases h
    · injection h with _ h _; omega
  · injection hv with e1 e2 e3
    injection e1 with e1
    injection e1 with ea eb
    subst ea; subst eb; subst e3
    have hl : (l.take 8).length = 8 := by rw [List.length_take]; omega
    refine .inr ⟨b, off, cap, by rw [hl], by omega, h2, h3, fun i hi => ?_⟩
    have hi2 : i < l.length := by omega
    have := h4 i hi2
    rw [List.getElem_take]
    exact this
theorem ordS_any (x y : Snd) (w : World) : Gives 41 #[.agg #[.int .u32 (x.1.toNat : Int), .int .u32 (x.2.toNat : Int)], .agg #[.int .u32 (y.1.toNat : Int), .int .u32 (y.2.toNat : Int)]] w (.int .i64 (ordS x y)) := Calls.mono (Dn.orderF_d x.1 x.2 y.1 y.2 w) fun _ _ h => ⟨h.1, h.2.b⟩
theorem rev_drop {l : List Snd} {j : Nat} (h0 : 0 < j) (hj : j ≤ l.length) : (l.drop (j - 1)).reverse = (l.drop j).reverse ++ [l[j - 1]'(by omega)] := by
  rw [List.drop_eq_getElem_cons (i := j - 1) (by omega), List.reverse_cons, show j - 1 + 1 = j from by omega]
/-- Behind the cut. -/
theorem turns_in (l0 : List (Nat × Nat)) (v0 : Value) (w : World) (h0 : Pz w v0 l0) (h8 : l0.length ≤ 8) : Calls Tryd.prog 33 #[v0] w fun e w' => ∃ m S, e = .returned m ∧ Own w' w.heap.size m S ∧ Good S ∧ S.length ≤ 8 ∧ Below w.heap.size w w' := Calls.mono (different_len l0 v0 w h0) fun _ _ ⟨m, S, h1, h2, h3, _, h5, h6⟩ => ⟨m, S, h1, h2, h3, Nat.le_trans h5 h8, h6⟩
set_option maxRecDepth 100000 in
set_option maxHeartbeats 8000000 in
theorem turns_any (l0 : List (Nat × Nat)) (v0 : Value) (w : World) (h0 : Pz w v0 l0) (hT : Tab w) (lT : 0 < w.heap.size) : Gives 10 #[v0] w (.bool true) := by
  unfold Gives
  have HT := Lib.hid hT; have LT := Lib.hid lT
  clear hT lT
  have h0' := h0
  obtain ⟨ao0, cap0, rfl, hc0, -, hm0⟩ := h0.open
  obtain ⟨L, hL⟩ : ∃ L, l0.length = L := ⟨_, rfl⟩
  rw [hL] at h0' hc0 ⊢
  by_cases h8 : 8 < L
  · obtain ⟨b, off, hao, -⟩ := hm0 0 (by omega)
    subst hao
    have HDI := Lib.hid (turns_in _ _ w (h0'.take8 h8) (by rw [List.length_take]; omega))
    have g1 : decide ((8 : Int) < (L : Int)) = true := decide_eq_true (by omega)
    have g1' : decide (8 < L) = true := decide_eq_true h8
    have b1 : (8 : Int) ≤ (cap0 : Int) := by omega
    have b2 : 8 ≤ cap0 := by omega
    have b3 : (cap0 = 0) = False := by simp; omega
    clear h0 hm0 h0' hc0
    go_enter Tryd.func10, Tryd.ntmps10
    go_wp2_with fail
    go_at_call 33
    refine HDI.out.mono ?_
    rintro e w1 ⟨m1, l, rfl, ho1, hg1, hs1, hb1⟩
    clear HDI g1 g1'
    obtain ⟨ao, cap, hv1, c1, cm1, hc⟩ := ho1.wd.open
    obtain ⟨N, hN⟩ : ∃ N, l.length = N := ⟨_, rfl⟩
    have hwd := ho1.wd
    rw [hN] at hv1 hs1
    subst hv1
    have l1 : N ≤ 9223372036854775807 := by omega
    have HC := Lib.hid hc; have HWD := Lib.hid hwd; have HBw1 := Lib.hid hb1; have HN := Lib.hid hN; have HG := Lib.hid hg1
    have hww : IntKind.i64.wrap ((N : Int) - 1) = (N : Int) - 1 := by rw [IntKind.wrap_i64]; omega
    clear hc hwd hb1 ho1 c1 cm1 hN hg1
    go_wp2_with fail
    go_loopw [4, 5] (fun u i wr => ∃ j : Nat, j ≤ N ∧ i = .int .i64 ((j : Int) - 1) ∧ Own wr w1.heap.size u (l.drop j).reverse ∧ Below w1.heap.size w1 wr) (fun _ i _ => (intOf i + 1).toNat)
    case atStart => exact ⟨N, Nat.le_refl _, rfl, by rw [List.drop_of_length_le (by rw [HN.out]; exact Nat.le_refl _)]; exact Own.nil _ _, Below.refl _ _⟩
    case round =>
    obtain ⟨j, hj, rfl, ho, hw⟩ := hrel
    obtain ⟨oa, oc, hov, -, -, -⟩ := ho.wd.open
    rw [List.length_reverse, List.length_drop, HN.out] at hov
    subst hov
    by_cases hj0 : 0 < j
    · have hjl : j - 1 < l.length := by rw [HN.out]; omega
      obtain ⟨b, off, hao, lb, d0, d1⟩ := HC.out (j - 1) hjl
      subst hao
      have d0 := (hw.cell (p := ⟨b, _, none⟩) lb).trans d0
      have d1 := (hw.cell (p := ⟨b, _, none⟩) lb).trans d1
      have hsn := rev_drop hj0 (by rw [HN.out]; exact hj)
      generalize l[j - 1] = x at *
      obtain ⟨p, m⟩ := x
      simp only at d0 d1
      have hbo := (Below.refl wr.heap.size wr).alloc (Nat.le_refl _) (.cells #[.int .u32 (p.toNat : Int), .int .u32 (m.toNat : Int)] 27)
      have HSN := Lib.hid hsn; have HWO := Lib.hid (wd_one wr p m); have HZ := Lib.hid hw.size
      have HO3 := Lib.hid (ho.below hbo); have HW3 := Lib.hid (hw.trans (hbo.mono hw.size))
      have k1 : (0 : Int) ≤ (j : Int) - 1 := by omega
      have k2 : (j : Int) - 1 < (N : Int) := by omega
      have k3 : ((j : Int) - 1).toNat = j - 1 := by omega
      have k4 : decide ((0 : Int) ≤ (j : Int) - 1) = true := decide_eq_true k1
      have k5 : IntKind.i64.wrap ((j : Int) - 1 - 1) = (j : Int) - 1 - 1 := by rw [IntKind.wrap_i64]; omega
      clear hsn hbo HC ho hw
      go_wp2_with (at_builtin; refine wpList_app rfl (.tmp 34) (.tmp 39) 22 Tryd.underlying22 rfl w1.heap.size (.slice oa (N - j) oc) (.slice (some ⟨wr.heap.size, 0, none⟩) 1 1) _ [(p, m)] rfl rfl HO3.out HWO.out (by rw [List.length_reverse, List.length_drop, HN.out]; simp; omega) (by have := HZ.out; simp only [World.size_alloc]; omega) ?_; intro v4 w4 ho4 hk4 hz4; have HO4 := Lib.hid ho4; have HW4 := Lib.hid (hk4 _ _ (Nat.le_refl _) HW3.out); clear ho4 hk4 hz4)
      go_roundw
      case rel => exact ⟨j - 1, by omega, by rw [show ((j - 1 : Nat) : Int) = (j : Int) - 1 from by omega], by rw [HSN.out]; exact HO4.out, HW4.out⟩
      case measure => simp [intOf]; omega
    obtain rfl : j = 0 := by omega
    rw [List.drop_zero] at ho
    simp only [Nat.sub_zero] at ho ⊢
    have hgr := HG.out.rev
    have hrl : l.reverse.length = N := by rw [List.length_reverse]; exact HN.out
    have hck := HG.out.ck (most := 256) (by rw [HN.out]; omega)
    have hck2 := HG.out.ck (most := 12) (by rw [HN.out]; omega)
    have hcr := hgr.ck (most := 256) (by rw [hrl]; omega)
    have hcr2 := hgr.ck (most := 12) (by rw [hrl]; omega)
    have hmm : ∀ x, x ∈ l ↔ x ∈ l.reverse := fun x => List.mem_reverse.symm
    have hcn := cnt_same hck2 hcr2 hmm
    obtain ⟨hc1, hc2⟩ := cnt_bounds hck2
    rw [HN.out] at hc1 hc2
    have hnd : ndM l = ndM l.reverse := by rw [ndM_good hck, ndM_good hcr, ndF_same hmm]
    have hgp := gapP_same hmm
    obtain ⟨cn, hcne⟩ : ∃ c, cntN l = c := ⟨_, rfl⟩
    have hco1 := fun W v h => count_any l v W h
    have hco2 := fun W v h => count_any l.reverse v W h
    have hne1 := fun W v h => needed_any l v W h
    have hne2 := fun W v h => needed_any l.reverse v W h
    rw [hcne, hck2] at hco1
    rw [← hcn, hcne, hcr2] at hco2
    rw [hck] at hne1
    rw [← hnd, hcr] at hne2
    rw [hcne] at hc1 hc2
    generalize ndM l = nd at *
    have HCO1 := Lib.hid hco1; have HCO2 := Lib.hid hco2; have HNE1 := Lib.hid hne1; have HNE2 := Lib.hid hne2; have HGP := Lib.hid hgp; have HCK := Lib.hid hck; have HCR := Lib.hid hcr; have HCC1 := Lib.hid hc1; have HCC2 := Lib.hid hc2
    clear hgr hrl hck hck2 hcr hcr2 hmm hcn hnd hgp hco1 hco2 hne1 hne2 hcne hc1 hc2
    have HREV := Lib.hid ho.wd
    have HWDR := Lib.hid (HWD.out.below hw)
    have HBR := Lib.hid (HBw1.out.trans (hw.mono HBw1.out.size))
    have k4 : decide ((0 : Int) ≤ (((0 : Nat) : Int) - 1)) = false := decide_eq_false (by omega)
    clear ho hw HC hj0 hj HWD hww
    go_wp2_with fail
    go_at_call 31
    (with_reducible refine Gives.then (HCO1.out _ _ HWDR.out) ?_)
    intro w11 hbw11
    have HBw11 := Lib.hid (HBR.out.trans (hbw11.mono HBR.out.size))
    have HWDR := Lib.hid (HWDR.out.below hbw11)
    have HREV := Lib.hid (HREV.out.below hbw11)
    clear hbw11
    go_wp2_with fail
    go_at_call 31
    (with_reducible refine Gives.then (HCO2.out _ _ HREV.out) ?_)
    intro w12 hbw12
    have HBw12 := Lib.hid (HBw11.out.trans (hbw12.mono HBw11.out.size))
    have HWDR := Lib.hid (HWDR.out.below hbw12)
    have HREV := Lib.hid (HREV.out.below hbw12)
    clear hbw12
    go_wp2_with fail
    go_at_call 27
    (with_reducible refine Gives.then (HNE1.out _ _ HWDR.out) ?_)
    intro w13 hbw13
    have HBw13 := Lib.hid (HBw12.out.trans (hbw13.mono HBw12.out.size))
    have HWDR := Lib.hid (HWDR.out.below hbw13)
    have HREV := Lib.hid (HREV.out.below hbw13)
    clear hbw13
    go_wp2_with fail
    go_at_call 27
    (with_reducible refine Gives.then (HNE2.out _ _ HREV.out) ?_)
    intro w14 hbw14
    have HBw14 := Lib.hid (HBw13.out.trans (hbw14.mono HBw13.out.size))
    have HWDR := Lib.hid (HWDR.out.below hbw14)
    have HREV := Lib.hid (HREV.out.below hbw14)
    clear hbw14
    go_wp2_with fail
    go_at_call 29
    refine (gaps_any l _ w14 HWDR.out (HT.out.below HBw14.out LT.out) (Nat.lt_of_lt_of_le LT.out HBw14.out.size)).mono ?_
    rintro e w15 ⟨m2, Y, he, hwd, hy, -, hbw15⟩
    rw [HCK.out] at he
    subst he
    have HWY1 := Lib.hid hwd; have HY1 := Lib.hid (hy HCK.out)
    clear hwd hy
    have HBw15 := Lib.hid (HBw14.out.trans (hbw15.mono HBw14.out.size))
    have HWDR := Lib.hid (HWDR.out.below hbw15)
    have HREV := Lib.hid (HREV.out.below hbw15)
    clear hbw15
    go_wp2_with fail
    go_at_call 29
    refine (gaps_any l.reverse _ w15 HREV.out (HT.out.below HBw15.out LT.out) (Nat.lt_of_lt_of_le LT.out HBw15.out.size)).mono ?_
    rintro e w16 ⟨m3, Y2, he, hwd, hy, -, hbw16⟩
    rw [HCR.out] at he
    subst he
    have HWY2 := Lib.hid hwd; have HY2 := Lib.hid (hy HCR.out)
    clear hwd hy
    have HBw16 := Lib.hid (HBw15.out.trans (hbw16.mono HBw15.out.size))
    have HWDR := Lib.hid (HWDR.out.below hbw16)
    have HREV := Lib.hid (HREV.out.below hbw16)
    have HWY1 := Lib.hid (HWY1.out.below hbw16)
    clear hbw16
    have hYY : Y = Y2 := inc_same HY1.out.1 HY2.out.1 fun q => by rw [HY1.out.2, HY2.out.2]; exact HGP.out q
    subst hYY
    obtain ⟨ya, yc, hm2, hyc1, hyc2, hyc⟩ := HWY1.out.open
    obtain ⟨n, hn⟩ : ∃ n, Y.length = n := ⟨_, rfl⟩
    rw [hn] at hm2 hyc1
    subst hm2
    have HYC := Lib.hid hyc; have HNY := Lib.hid hn
    have ln : n ≤ 9223372036854775807 := by unfold maxLen at hyc2; omega
    clear hyc hn hyc2
    clear HREV
    go_wp2_with fail
    have hsm := same_any Y Y _ _ w16 HWY1.out HWY2.out
    rw [decide_eq_true rfl] at hsm
    have HSM := Lib.hid hsm
    clear hsm
    go_at_call 22
    refine Gives.then HSM.out ?_
    intro w17 hbw17
    have HBw17 := Lib.hid (HBw16.out.trans (hbw17.mono HBw16.out.size))
    have HWDR := Lib.hid (HWDR.out.below hbw17)
    have HWY1 := Lib.hid (HWY1.out.below hbw17)
    have HWY2 := Lib.hid (HWY2.out.below hbw17)
    clear hbw17
    clear HSM
    clear HWY2
    go_wp2_with fail
    obtain ⟨ax, cx, hvx, -, -, hcx⟩ := HWDR.out.open
    rw [HN.out] at hvx
    obtain ⟨rfl, rfl⟩ : ao = ax ∧ cap = cx := by injection hvx with x y z; exact ⟨x, z⟩
    obtain ⟨ay, cy, hvy, -, -, hcy⟩ := HWY1.out.open
    rw [HNY.out] at hvy
    obtain ⟨rfl, rfl⟩ : ya = ay ∧ yc = cy := by injection hvy with x y z; exact ⟨x, z⟩
    have HCX := Lib.hid hcx; have HCY := Lib.hid hcy
    clear hcx hcy hvx hvy
    go_loopw [18] (fun i wr2 => ∃ k : Nat, k ≤ n ∧ i = .int .i64 (k : Int) ∧ Below w17.heap.size w17 wr2) (fun i _ => n - (intOf i).toNat)
    case atStart => exact ⟨0, by omega, rfl, Below.refl _ _⟩
    case round =>
    obtain ⟨k, hk, rfl, hw⟩ := hrel
    by_cases hlt : k < n
    · have hkl : k < Y.length := by rw [HNY.out]; exact hlt
      obtain ⟨b, off, hao, lb, d0, d1⟩ := HCY.out k hkl
      subst hao
      have hgv := gap_vld (fun x hx => (HG.out.2 x hx).1) ((HY1.out.2 Y[k]).1 (List.getElem_mem hkl))
      have hvv := gv_vld Y[k]
      rw [hgv.1] at hvv
      have hpv : 0 < k → ∃ p q : BitVec 32, (w17.cell? ⟨b, off + (k - 1) * 2, none⟩ = some (.int .u32 (p.toNat : Int)) ∧ w17.cell? ⟨b, off + (k - 1) * 2 + 1, none⟩ = some (.int .u32 (q.toNat : Int))) ∧ ordS (p, q) Y[k] < 0 := fun hk0 => by
        have hkl1 : k - 1 < Y.length := by omega
        obtain ⟨b', off', hao', _, e0, e1⟩ := HCY.out (k - 1) hkl1
        cases hao'
        exact ⟨Y[k - 1].1, Y[k - 1].2, ⟨e0, e1⟩, (ordS_lt _ _).2 (HY1.out.1 (k - 1) k (by omega) hkl)⟩
      have hni := hgv.2
      generalize Y[k] = y at *
      obtain ⟨yp, ym⟩ := y
      simp only at d0 d1 hvv
      have HVV := Lib.hid hvv; have HW := Lib.hid hw; have HNI := Lib.hid hni; have D0 := Lib.hid d0; have D1 := Lib.hid d1; have LB := Lib.hid lb
      have hk3 : (k : Int) < (n : Int) := by omega
      have hk0 : (0 : Int) ≤ (k : Int) := by omega
      have hB0 : Below wr.heap.size wr wr.drew := Below.drew (Below.refl _ _)
      clear hw hvv hgv hni HCY
      have fin : ∀ w20, Below wr.heap.size wr w20 → Below w17.heap.size w17 w20 := fun w20 h => HW.out.trans (h.mono HW.out.size)
      have FIN := Lib.hid fin
      clear fin
      by_cases hkp : 0 < k
      · obtain ⟨pp, pq, ⟨e0, e1⟩, hord⟩ := hpv hkp
        have hoa := ordS_any (pp, pq) (yp, ym)
        have h0g : decide ((0 : Int) < (k : Int)) = true := decide_eq_true (by omega)
        have h0g' : decide (0 < k) = true := decide_eq_true hkp
        have hk5 : IntKind.i64.wrap ((k : Int) - 1) = (k : Int) - 1 := by rw [IntKind.wrap_i64]; omega
        have hk6 : (0 : Int) ≤ (k : Int) - 1 := by omega
        have hk7 : (k : Int) - 1 < (n : Int) := by omega
        have hk8 : ((k : Int) - 1).toNat = k - 1 := by omega
        have ho2 : decide ((0 : Int) ≤ ordS (pp, pq) (yp, ym)) = false := decide_eq_false (by omega)
        generalize ordS (pp, pq) (yp, ym) = od at *
        have HOA := Lib.hid hoa
        have KK : Hid (∀ W : World, Below wr.heap.size wr W → (W.cell? ⟨b, off + (k - 1) * 2, none⟩ = some (.int .u32 (pp.toNat : Int)) ∧ W.cell? ⟨b, off + (k - 1) * 2 + 1, none⟩ = some (.int .u32 (pq.toNat : Int))) ∧ W.cell? ⟨b, off + k * 2, none⟩ = some (.int .u32 (yp.toNat : Int)) ∧ W.cell? ⟨b, off + k * 2 + 1, none⟩ = some (.int .u32 (ym.toNat : Int))) := Lib.hid (fun W hW => ⟨⟨((FIN.out W hW).cell (p := ⟨b, _, none⟩) LB.out).trans e0, ((FIN.out W hW).cell (p := ⟨b, _, none⟩) LB.out).trans e1⟩, ((FIN.out W hW).cell (p := ⟨b, _, none⟩) LB.out).trans D0.out, ((FIN.out W hW).cell (p := ⟨b, _, none⟩) LB.out).trans D1.out⟩)
        clear hpv hoa e0 e1 d0 d1 hord lb
        go_wp2_with fail
        have x0 := cell_regrown (KK.out wr (Below.refl _ _)).1.1
        have x1 := cell_regrown (KK.out wr (Below.refl _ _)).1.2
        have x2 := cell_regrown (KK.out wr (Below.refl _ _)).2.1
        have x3 := cell_regrown (KK.out wr (Below.refl _ _)).2.2
        refine wp_region_quiet_below (by kernel_rfl) (by kernel_rfl) ?_
        try simp only [List.append]
        repeat (go_big_quiet_step (first | (go_at_call 40; with_reducible exact Calls.regrown_of (HVV.out _)) | (go_at_call 41; with_reducible exact Calls.regrown_of (HOA.out _))))
        refine wpQuiet_nil ?_
        intro w21 hw21
        have hB1 : Below wr.heap.size wr w21 := by obtain ⟨q, rfl⟩ := hw21; exact below_regrown _ _ _
        clear hw21 x0 x1 x2 x3
        have HW21 := Lib.hid (FIN.out _ hB1)
        clear hB0 hB1 KK HOA
        go_wp2_with fail
        go_loopw [19] (fun i wi => ∃ q : Nat, q ≤ N ∧ i = .int .i64 (q : Int) ∧ Below w17.heap.size w17 wi) (fun i _ => N - (intOf i).toNat)
        case atStart => exact ⟨0, by omega, rfl, HW21.out⟩
        case round =>
        obtain ⟨q, hq, rfl, hwq⟩ := hrel
        by_cases hq2 : q < N
        · have hql : q < l.length := by rw [HN.out]; exact hq2
          obtain ⟨b2, off2, hao2, lb2, c0, c1⟩ := HCX.out q hql
          subst hao2
          have c0 := (hwq.cell (p := ⟨b2, _, none⟩) lb2).trans c0
          have c1 := (hwq.cell (p := ⟨b2, _, none⟩) lb2).trans c1
          have d0 := (hwq.cell (p := ⟨b, _, none⟩) LB.out).trans D0.out
          have d1 := (hwq.cell (p := ⟨b, _, none⟩) LB.out).trans D1.out
          have heq := fun W => snd_eql (l[q].1.toNat : Int) (l[q].2.toNat : Int) (yp.toNat : Int) (ym.toNat : Int) W
          have hsb := snd_beq l[q] (yp, ym)
          simp only at hsb
          rw [hsb, decide_eq_false (fun e => HNI.out (by rw [← e]; exact List.getElem_mem hql))] at heq
          generalize l[q] = x at *
          obtain ⟨xp, xm⟩ := x
          simp only at c0 c1 heq
          have HWQ := Lib.hid hwq
          have hq3 : (q : Int) < (N : Int) := by omega
          have hq0 : (0 : Int) ≤ (q : Int) := by omega
          clear hwq hsb HCX
          go_wp2_with fail
          go_region
          all_goals go_wp2_with fail
          all_goals (
            go_roundw
            case rel => exact ⟨q + 1, by omega, by go_num, HWQ.out.drew⟩
            case measure => simp [intOf]; omega)
        · obtain rfl : q = N := by omega
          have HWQ := Lib.hid hwq
          clear hwq hq2
          go_wp2_with fail
          go_roundw
          case rel => exact ⟨k + 1, by omega, by go_num, HWQ.out⟩
          case measure => simp [intOf]; omega
      · have h0g : decide ((0 : Int) < (k : Int)) = false := decide_eq_false (by omega)
        have h0g' : decide (0 < k) = false := decide_eq_false hkp
        have KK : Hid (∀ W : World, Below wr.heap.size wr W → W.cell? ⟨b, off + k * 2, none⟩ = some (.int .u32 (yp.toNat : Int)) ∧ W.cell? ⟨b, off + k * 2 + 1, none⟩ = some (.int .u32 (ym.toNat : Int))) := Lib.hid (fun W hW => ⟨((FIN.out W hW).cell (p := ⟨b, _, none⟩) LB.out).trans D0.out, ((FIN.out W hW).cell (p := ⟨b, _, none⟩) LB.out).trans D1.out⟩)
        clear hpv d0 d1 lb
        go_wp2_with fail
        have x0 := cell_regrown (KK.out wr (Below.refl _ _)).1
        have x1 := cell_regrown (KK.out wr (Below.refl _ _)).2
        refine wp_region_quiet_below (by kernel_rfl) (by kernel_rfl) ?_
        try simp only [List.append]
        repeat (go_big_quiet_step (first | (go_at_call 40; with_reducible exact Calls.regrown_of (HVV.out _))))
        refine wpQuiet_nil ?_
        intro w21 hw21
        have hB1 : Below wr.heap.size wr w21 := by obtain ⟨q, rfl⟩ := hw21; exact below_regrown _ _ _
        clear hw21 x0 x1
        have HW21 := Lib.hid (FIN.out _ hB1)
        clear hB0 hB1 KK
        go_wp2_with fail
        go_loopw [19] (fun i wi => ∃ q : Nat, q ≤ N ∧ i = .int .i64 (q : Int) ∧ Below w17.heap.size w17 wi) (fun i _ => N - (intOf i).toNat)
        case atStart => exact ⟨0, by omega, rfl, HW21.out⟩
        case round =>
        obtain ⟨q, hq, rfl, hwq⟩ := hrel
        by_cases hq2 : q < N
        · have hql : q < l.length := by rw [HN.out]; exact hq2
          obtain ⟨b2, off2, hao2, lb2, c0, c1⟩ := HCX.out q hql
          subst hao2
          have c0 := (hwq.cell (p := ⟨b2, _, none⟩) lb2).trans c0
          have c1 := (hwq.cell (p := ⟨b2, _, none⟩) lb2).trans c1
          have d0 := (hwq.cell (p := ⟨b, _, none⟩) LB.out).trans D0.out
          have d1 := (hwq.cell (p := ⟨b, _, none⟩) LB.out).trans D1.out
          have heq := fun W => snd_eql (l[q].1.toNat : Int) (l[q].2.toNat : Int) (yp.toNat : Int) (ym.toNat : Int) W
          have hsb := snd_beq l[q] (yp, ym)
          simp only at hsb
          rw [hsb, decide_eq_false (fun e => HNI.out (by rw [← e]; exact List.getElem_mem hql))] at heq
          generalize l[q] = x at *
          obtain ⟨xp, xm⟩ := x
          simp only at c0 c1 heq
          have HWQ := Lib.hid hwq
          have hq3 : (q : Int) < (N : Int) := by omega
          have hq0 : (0 : Int) ≤ (q : Int) := by omega
          clear hwq hsb HCX
          go_wp2_with fail
          go_region
          all_goals go_wp2_with fail
          all_goals (
            go_roundw
            case rel => exact ⟨q + 1, by omega, by go_num, HWQ.out.drew⟩
            case measure => simp [intOf]; omega)
        · obtain rfl : q = N := by omega
          have HWQ := Lib.hid hwq
          clear hwq hq2
          go_wp2_with fail
          go_roundw
          case rel => exact ⟨k + 1, by omega, by go_num, HWQ.out⟩
          case measure => simp [intOf]; omega
    obtain rfl : k = n := by omega
    have HE := Lib.hid (HBw17.out.trans (hw.mono HBw17.out.size))
    clear hw hlt HCX HCY
    obtain ⟨P, hP⟩ : ∃ P : Nat, 2 ^ N = P := ⟨_, rfl⟩
    have hP2 : P ≤ 256 := by rw [← hP]; exact Nat.le_trans (Nat.pow_le_pow_right (by decide) hs1) (by decide)
    have hPi : ((2 : Int) ^ N) = (P : Int) := by rw [← hP]; simp
    have hPw : IntKind.i64.wrap ((2 : Int) ^ N) = (P : Int) := by rw [hPi, IntKind.wrap_i64]; omega
    have hPm : IntKind.i64.wrap ((P : Int) - 1) = (P : Int) - 1 := by rw [IntKind.wrap_i64]; omega
    have q1 := HCC1.out
    have q2 := HCC2.out
    rw [hP] at q2
    have q3 : decide ((min (N : Int) 1) ≤ cn) = true := decide_eq_true (by omega)
    have q4 : decide (cn ≤ (P : Int) - 1) = true := decide_eq_true q2
    have HPI := Lib.hid hPi
    clear hP hPi q1 q2
    go_wp2_with fail
    go_at_call 14
    refine Gives.then (works_any _ (HT.out.below HE.out LT.out) (Nat.lt_of_lt_of_le LT.out HE.out.size)) ?_
    intro w6 hb6
    have HW6 := Lib.hid (HE.out.trans (hb6.mono HE.out.size))
    clear hb6
    go_wp2_with fail
    go_returns
    exact ⟨rfl, HW6.out⟩
  · have HDI := Lib.hid (turns_in _ _ w h0' (by omega))
    have g1 : decide ((8 : Int) < (L : Int)) = false := decide_eq_false (by omega)
    have g1' : decide (8 < L) = false := decide_eq_false h8
    clear h0 hm0 h0' hc0
    go_enter Tryd.func10, Tryd.ntmps10
    go_wp2_with fail
    go_at_call 33
    refine HDI.out.mono ?_
    rintro e w1 ⟨m1, l, rfl, ho1, hg1, hs1, hb1⟩
    clear HDI g1 g1'
    obtain ⟨ao, cap, hv1, c1, cm1, hc⟩ := ho1.wd.open
    obtain ⟨N, hN⟩ : ∃ N, l.length = N := ⟨_, rfl⟩
    have hwd := ho1.wd
    rw [hN] at hv1 hs1
    subst hv1
    have l1 : N ≤ 9223372036854775807 := by omega
    have HC := Lib.hid hc; have HWD := Lib.hid hwd; have HBw1 := Lib.hid hb1; have HN := Lib.hid hN; have HG := Lib.hid hg1
    have hww : IntKind.i64.wrap ((N : Int) - 1) = (N : Int) - 1 := by rw [IntKind.wrap_i64]; omega
    clear hc hwd hb1 ho1 c1 cm1 hN hg1
    go_wp2_with fail
    go_loopw [4, 5] (fun u i wr => ∃ j : Nat, j ≤ N ∧ i = .int .i64 ((j : Int) - 1) ∧ Own wr w1.heap.size u (l.drop j).reverse ∧ Below w1.heap.size w1 wr) (fun _ i _ => (intOf i + 1).toNat)
    case atStart => exact ⟨N, Nat.le_refl _, rfl, by rw [List.drop_of_length_le (by rw [HN.out]; exact Nat.le_refl _)]; exact Own.nil _ _, Below.refl _ _⟩
    case round =>
    obtain ⟨j, hj, rfl, ho, hw⟩ := hrel
    obtain ⟨oa, oc, hov, -, -, -⟩ := ho.wd.open
    rw [List.length_reverse, List.length_drop, HN.out] at hov
    subst hov
    by_cases hj0 : 0 < j
    · have hjl : j - 1 < l.length := by rw [HN.out]; omega
      obtain ⟨b, off, hao, lb, d0, d1⟩ := HC.out (j - 1) hjl
      subst hao
      have d0 := (hw.cell (p := ⟨b, _, none⟩) lb).trans d0
      have d1 := (hw.cell (p := ⟨b, _, none⟩) lb).trans d1
      have hsn := rev_drop hj0 (by rw [HN.out]; exact hj)
      generalize l[j - 1] = x at *
      obtain ⟨p, m⟩ := x
      simp only at d0 d1
      have hbo := (Below.refl wr.heap.size wr).alloc (Nat.le_refl _) (.cells #[.int .u32 (p.toNat : Int), .int .u32 (m.toNat : Int)] 27)
      have HSN := Lib.hid hsn; have HWO := Lib.hid (wd_one wr p m); have HZ := Lib.hid hw.size
      have HO3 := Lib.hid (ho.below hbo); have HW3 := Lib.hid (hw.trans (hbo.mono hw.size))
      have k1 : (0 : Int) ≤ (j : Int) - 1 := by omega
      have k2 : (j : Int) - 1 < (N : Int) := by omega
      have k3 : ((j : Int) - 1).toNat = j - 1 := by omega
      have k4 : decide ((0 : Int) ≤ (j : Int) - 1) = true := decide_eq_true k1
      have k5 : IntKind.i64.wrap ((j : Int) - 1 - 1) = (j : Int) - 1 - 1 := by rw [IntKind.wrap_i64]; omega
      clear hsn hbo HC ho hw
      go_wp2_with (at_builtin; refine wpList_app rfl (.tmp 34) (.tmp 39) 22 Tryd.underlying22 rfl w1.heap.size (.slice oa (N - j) oc) (.slice (some ⟨wr.heap.size, 0, none⟩) 1 1) _ [(p, m)] rfl rfl HO3.out HWO.out (by rw [List.length_reverse, List.length_drop, HN.out]; simp; omega) (by have := HZ.out; simp only [World.size_alloc]; omega) ?_; intro v4 w4 ho4 hk4 hz4; have HO4 := Lib.hid ho4; have HW4 := Lib.hid (hk4 _ _ (Nat.le_refl _) HW3.out); clear ho4 hk4 hz4)
      go_roundw
      case rel => exact ⟨j - 1, by omega, by rw [show ((j - 1 : Nat) : Int) = (j : Int) - 1 from by omega], by rw [HSN.out]; exact HO4.out, HW4.out⟩
      case measure => simp [intOf]; omega
    obtain rfl : j = 0 := by omega
    rw [List.drop_zero] at ho
    simp only [Nat.sub_zero] at ho ⊢
    have hgr := HG.out.rev
    have hrl : l.reverse.length = N := by rw [List.length_reverse]; exact HN.out
    have hck := HG.out.ck (most := 256) (by rw [HN.out]; omega)
    have hck2 := HG.out.ck (most := 12) (by rw [HN.out]; omega)
    have hcr := hgr.ck (most := 256) (by rw [hrl]; omega)
    have hcr2 := hgr.ck (most := 12) (by rw [hrl]; omega)
    have hmm : ∀ x, x ∈ l ↔ x ∈ l.reverse := fun x => List.mem_reverse.symm
    have hcn := cnt_same hck2 hcr2 hmm
    obtain ⟨hc1, hc2⟩ := cnt_bounds hck2
    rw [HN.out] at hc1 hc2
    have hnd : ndM l = ndM l.reverse := by rw [ndM_good hck, ndM_good hcr, ndF_same hmm]
    have hgp := gapP_same hmm
    obtain ⟨cn, hcne⟩ : ∃ c, cntN l = c := ⟨_, rfl⟩
    have hco1 := fun W v h => count_any l v W h
    have hco2 := fun W v h => count_any l.reverse v W h
    have hne1 := fun W v h => needed_any l v W h
    have hne2 := fun W v h => needed_any l.reverse v W h
    rw [hcne, hck2] at hco1
    rw [← hcn, hcne, hcr2] at hco2
    rw [hck] at hne1
    rw [← hnd, hcr] at hne2
    rw [hcne] at hc1 hc2
    generalize ndM l = nd at *
    have HCO1 := Lib.hid hco1; have HCO2 := Lib.hid hco2; have HNE1 := Lib.hid hne1; have HNE2 := Lib.hid hne2; have HGP := Lib.hid hgp; have HCK := Lib.hid hck; have HCR := Lib.hid hcr; have HCC1 := Lib.hid hc1; have HCC2 := Lib.hid hc2
    clear hgr hrl hck hck2 hcr hcr2 hmm hcn hnd hgp hco1 hco2 hne1 hne2 hcne hc1 hc2
    have HREV := Lib.hid ho.wd
    have HWDR := Lib.hid (HWD.out.below hw)
    have HBR := Lib.hid (HBw1.out.trans (hw.mono HBw1.out.size))
    have k4 : decide ((0 : Int) ≤ (((0 : Nat) : Int) - 1)) = false := decide_eq_false (by omega)
    clear ho hw HC hj0 hj HWD hww
    go_wp2_with fail
    go_at_call 31
    (with_reducible refine Gives.then (HCO1.out _ _ HWDR.out) ?_)
    intro w11 hbw11
    have HBw11 := Lib.hid (HBR.out.trans (hbw11.mono HBR.out.size))
    have HWDR := Lib.hid (HWDR.out.below hbw11)
    have HREV := Lib.hid (HREV.out.below hbw11)
    clear hbw11
    go_wp2_with fail
    go_at_call 31
    (with_reducible refine Gives.then (HCO2.out _ _ HREV.out) ?_)
    intro w12 hbw12
    have HBw12 := Lib.hid (HBw11.out.trans (hbw12.mono HBw11.out.size))
    have HWDR := Lib.hid (HWDR.out.below hbw12)
    have HREV := Lib.hid (HREV.out.below hbw12)
    clear hbw12
    go_wp2_with fail
    go_at_call 27
    (with_reducible refine Gives.then (HNE1.out _ _ HWDR.out) ?_)
    intro w13 hbw13
    have HBw13 := Lib.hid (HBw12.out.trans (hbw13.mono HBw12.out.size))
    have HWDR := Lib.hid (HWDR.out.below hbw13)
    have HREV := Lib.hid (HREV.out.below hbw13)
    clear hbw13
    go_wp2_with fail
    go_at_call 27
    (with_reducible refine Gives.then (HNE2.out _ _ HREV.out) ?_)
    intro w14 hbw14
    have HBw14 := Lib.hid (HBw13.out.trans (hbw14.mono HBw13.out.size))
    have HWDR := Lib.hid (HWDR.out.below hbw14)
    have HREV := Lib.hid (HREV.out.below hbw14)
    clear hbw14
    go_wp2_with fail
    go_at_call 29
    refine (gaps_any l _ w14 HWDR.out (HT.out.below HBw14.out LT.out) (Nat.lt_of_lt_of_le LT.out HBw14.out.size)).mono ?_
    rintro e w15 ⟨m2, Y, he, hwd, hy, -, hbw15⟩
    rw [HCK.out] at he
    subst he
    have HWY1 := Lib.hid hwd; have HY1 := Lib.hid (hy HCK.out)
    clear hwd hy
    have HBw15 := Lib.hid (HBw14.out.trans (hbw15.mono HBw14.out.size))
    have HWDR := Lib.hid (HWDR.out.below hbw15)
    have HREV := Lib.hid (HREV.out.below hbw15)
    clear hbw15
    go_wp2_with fail
    go_at_call 29
    refine (gaps_any l.reverse _ w15 HREV.out (HT.out.below HBw15.out LT.out) (Nat.lt_of_lt_of_le LT.out HBw15.out.size)).mono ?_
    rintro e w16 ⟨m3, Y2, he, hwd, hy, -, hbw16⟩
    rw [HCR.out] at he
    subst he
    have HWY2 := Lib.hid hwd; have HY2 := Lib.hid (hy HCR.out)
    clear hwd hy
    have HBw16 := Lib.hid (HBw15.out.trans (hbw16.mono HBw15.out.size))
    have HWDR := Lib.hid (HWDR.out.below hbw16)
    have HREV := Lib.hid (HREV.out.below hbw16)
    have HWY1 := Lib.hid (HWY1.out.below hbw16)
    clear hbw16
    have hYY : Y = Y2 := inc_same HY1.out.1 HY2.out.1 fun q => by rw [HY1.out.2, HY2.out.2]; exact HGP.out q
    subst hYY
    obtain ⟨ya, yc, hm2, hyc1, hyc2, hyc⟩ := HWY1.out.open
    obtain ⟨n, hn⟩ : ∃ n, Y.length = n := ⟨_, rfl⟩
    rw [hn] at hm2 hyc1
    subst hm2
    have HYC := Lib.hid hyc; have HNY := Lib.hid hn
    have ln : n ≤ 9223372036854775807 := by unfold maxLen at hyc2; omega
    clear hyc hn hyc2
    clear HREV
    go_wp2_with fail
    have hsm := same_any Y Y _ _ w16 HWY1.out HWY2.out
    rw [decide_eq_true rfl] at hsm
    have HSM := Lib.hid hsm
    clear hsm
    go_at_call 22
    refine Gives.then HSM.out ?_
    intro w17 hbw17
    have HBw17 := Lib.hid (HBw16.out.trans (hbw17.mono HBw16.out.size))
    have HWDR := Lib.hid (HWDR.out.below hbw17)
    have HWY1 := Lib.hid (HWY1.out.below hbw17)
    have HWY2 := Lib.hid (HWY2.out.below hbw17)
    clear hbw17
    clear HSM
    clear HWY2
    go_wp2_with fail
    obtain ⟨ax, cx, hvx, -, -, hcx⟩ := HWDR.out.open
    rw [HN.out] at hvx
    obtain ⟨rfl, rfl⟩ : ao = ax ∧ cap = cx := by injection hvx with x y z; exact ⟨x, z⟩
    obtain ⟨ay, cy, hvy, -, -, hcy⟩ := HWY1.out.open
    rw [HNY.out] at hvy
    obtain ⟨rfl, rfl⟩ : ya = ay ∧ yc = cy := by injection hvy with x y z; exact ⟨x, z⟩
    have HCX := Lib.hid hcx; have HCY := Lib.hid hcy
    clear hcx hcy hvx hvy
    go_loopw [18] (fun i wr2 => ∃ k : Nat, k ≤ n ∧ i = .int .i64 (k : Int) ∧ Below w17.heap.size w17 wr2) (fun i _ => n - (intOf i).toNat)
    case atStart => exact ⟨0, by omega, rfl, Below.refl _ _⟩
    case round =>
    obtain ⟨k, hk, rfl, hw⟩ := hrel
    by_cases hlt : k < n
    · have hkl : k < Y.length := by rw [HNY.out]; exact hlt
      obtain ⟨b, off, hao, lb, d0, d1⟩ := HCY.out k hkl
      subst hao
      have hgv := gap_vld (fun x hx => (HG.out.2 x hx).1) ((HY1.out.2 Y[k]).1 (List.getElem_mem hkl))
      have hvv := gv_vld Y[k]
      rw [hgv.1] at hvv
      have hpv : 0 < k → ∃ p q : BitVec 32, (w17.cell? ⟨b, off + (k - 1) * 2, none⟩ = some (.int .u32 (p.toNat : Int)) ∧ w17.cell? ⟨b, off + (k - 1) * 2 + 1, none⟩ = some (.int .u32 (q.toNat : Int))) ∧ ordS (p, q) Y[k] < 0 := fun hk0 => by
        have hkl1 : k - 1 < Y.length := by omega
        obtain ⟨b', off', hao', _, e0, e1⟩ := HCY.out (k - 1) hkl1
        cases hao'
        exact ⟨Y[k - 1].1, Y[k - 1].2, ⟨e0, e1⟩, (ordS_lt _ _).2 (HY1.out.1 (k - 1) k (by omega) hkl)⟩
      have hni := hgv.2
      generalize Y[k] = y at *
      obtain ⟨yp, ym⟩ := y
      simp only at d0 d1 hvv
      have HVV := Lib.hid hvv; have HW := Lib.hid hw; have HNI := Lib.hid hni; have D0 := Lib.hid d0; have D1 := Lib.hid d1; have LB := Lib.hid lb
      have hk3 : (k : Int) < (n : Int) := by omega
      have hk0 : (0 : Int) ≤ (k : Int) := by omega
      have hB0 : Below wr.heap.size wr wr.drew := Below.drew (Below.refl _ _)
      clear hw hvv hgv hni HCY
      have fin : ∀ w20, Below wr.heap.size wr w20 → Below w17.heap.size w17 w20 := fun w20 h => HW.out.trans (h.mono HW.out.size)
      have FIN := Lib.hid fin
      clear fin
      by_cases hkp : 0 < k
      · obtain ⟨pp, pq, ⟨e0, e1⟩, hord⟩ := hpv hkp
        have hoa := ordS_any (pp, pq) (yp, ym)
        have h0g : decide ((0 : Int) < (k : Int)) = true := decide_eq_true (by omega)
        have h0g' : decide (0 < k) = true := decide_eq_true hkp
        have hk5 : IntKind.i64.wrap ((k : Int) - 1) = (k : Int) - 1 := by rw [IntKind.wrap_i64]; omega
        have hk6 : (0 : Int) ≤ (k : Int) - 1 := by omega
        have hk7 : (k : Int) - 1 < (n : Int) := by omega
        have hk8 : ((k : Int) - 1).toNat = k - 1 := by omega
        have ho2 : decide ((0 : Int) ≤ ordS (pp, pq) (yp, ym)) = false := decide_eq_false (by omega)
        generalize ordS (pp, pq) (yp, ym) = od at *
        have HOA := Lib.hid hoa
        have KK : Hid (∀ W : World, Below wr.heap.size wr W → (W.cell? ⟨b, off + (k - 1) * 2, none⟩ = some (.int .u32 (pp.toNat : Int)) ∧ W.cell? ⟨b, off + (k - 1) * 2 + 1, none⟩ = some (.int .u32 (pq.toNat : Int))) ∧ W.cell? ⟨b, off + k * 2, none⟩ = some (.int .u32 (yp.toNat : Int)) ∧ W.cell? ⟨b, off + k * 2 + 1, none⟩ = some (.int .u32 (ym.toNat : Int))) := Lib.hid (fun W hW => ⟨⟨((FIN.out W hW).cell (p := ⟨b, _, none⟩) LB.out).trans e0, ((FIN.out W hW).cell (p := ⟨b, _, none⟩) LB.out).trans e1⟩, ((FIN.out W hW).cell (p := ⟨b, _, none⟩) LB.out).trans D0.out, ((FIN.out W hW).cell (p := ⟨b, _, none⟩) LB.out).trans D1.out⟩)
        clear hpv hoa e0 e1 d0 d1 hord lb
        go_wp2_with fail
        have x0 := cell_regrown (KK.out wr (Below.refl _ _)).1.1
        have x1 := cell_regrown (KK.out wr (Below.refl _ _)).1.2
        have x2 := cell_regrown (KK.out wr (Below.refl _ _)).2.1
        have x3 := cell_regrown (KK.out wr (Below.refl _ _)).2.2
        refine wp_region_quiet_below (by kernel_rfl) (by kernel_rfl) ?_
        try simp only [List.append]
        repeat (go_big_quiet_step (first | (go_at_call 40; with_reducible exact Calls.regrown_of (HVV.out _)) | (go_at_call 41; with_reducible exact Calls.regrown_of (HOA.out _))))
        refine wpQuiet_nil ?_
        intro w21 hw21
        have hB1 : Below wr.heap.size wr w21 := by obtain ⟨q, rfl⟩ := hw21; exact below_regrown _ _ _
        clear hw21 x0 x1 x2 x3
        have HW21 := Lib.hid (FIN.out _ hB1)
        clear hB0 hB1 KK HOA
        go_wp2_with fail
        go_loopw [19] (fun i wi => ∃ q : Nat, q ≤ N ∧ i = .int .i64 (q : Int) ∧ Below w17.heap.size w17 wi) (fun i _ => N - (intOf i).toNat)
        case atStart => exact ⟨0, by omega, rfl, HW21.out⟩
        case round =>
        obtain ⟨q, hq, rfl, hwq⟩ := hrel
        by_cases hq2 : q < N
        · have hql : q < l.length := by rw [HN.out]; exact hq2
          obtain ⟨b2, off2, hao2, lb2, c0, c1⟩ := HCX.out q hql
          subst hao2
          have c0 := (hwq.cell (p := ⟨b2, _, none⟩) lb2).trans c0
          have c1 := (hwq.cell (p := ⟨b2, _, none⟩) lb2).trans c1
          have d0 := (hwq.cell (p := ⟨b, _, none⟩) LB.out).trans D0.out
          have d1 := (hwq.cell (p := ⟨b, _, none⟩) LB.out).trans D1.out
          have heq := fun W => snd_eql (l[q].1.toNat : Int) (l[q].2.toNat : Int) (yp.toNat : Int) (ym.toNat : Int) W
          have hsb := snd_beq l[q] (yp, ym)
          simp only at hsb
          rw [hsb, decide_eq_false (fun e => HNI.out (by rw [← e]; exact List.getElem_mem hql))] at heq
          generalize l[q] = x at *
          obtain ⟨xp, xm⟩ := x
          simp only at c0 c1 heq
          have HWQ := Lib.hid hwq
          have hq3 : (q : Int) < (N : Int) := by omega
          have hq0 : (0 : Int) ≤ (q : Int) := by omega
          clear hwq hsb HCX
          go_wp2_with fail
          go_region
          all_goals go_wp2_with fail
          all_goals (
            go_roundw
            case rel => exact ⟨q + 1, by omega, by go_num, HWQ.out.drew⟩
            case measure => simp [intOf]; omega)
        · obtain rfl : q = N := by omega
          have HWQ := Lib.hid hwq
          clear hwq hq2
          go_wp2_with fail
          go_roundw
          case rel => exact ⟨k + 1, by omega, by go_num, HWQ.out⟩
          case measure => simp [intOf]; omega
      · have h0g : decide ((0 : Int) < (k : Int)) = false := decide_eq_false (by omega)
        have h0g' : decide (0 < k) = false := decide_eq_false hkp
        have KK : Hid (∀ W : World, Below wr.heap.size wr W → W.cell? ⟨b, off + k * 2, none⟩ = some (.int .u32 (yp.toNat : Int)) ∧ W.cell? ⟨b, off + k * 2 + 1, none⟩ = some (.int .u32 (ym.toNat : Int))) := Lib.hid (fun W hW => ⟨((FIN.out W hW).cell (p := ⟨b, _, none⟩) LB.out).trans D0.out, ((FIN.out W hW).cell (p := ⟨b, _, none⟩) LB.out).trans D1.out⟩)
        clear hpv d0 d1 lb
        go_wp2_with fail
        have x0 := cell_regrown (KK.out wr (Below.refl _ _)).1
        have x1 := cell_regrown (KK.out wr (Below.refl _ _)).2
        refine wp_region_quiet_below (by kernel_rfl) (by kernel_rfl) ?_
        try simp only [List.append]
        repeat (go_big_quiet_step (first | (go_at_call 40; with_reducible exact Calls.regrown_of (HVV.out _))))
        refine wpQuiet_nil ?_
        intro w21 hw21
        have hB1 : Below wr.heap.size wr w21 := by obtain ⟨q, rfl⟩ := hw21; exact below_regrown _ _ _
        clear hw21 x0 x1
        have HW21 := Lib.hid (FIN.out _ hB1)
        clear hB0 hB1 KK
        go_wp2_with fail
        go_loopw [19] (fun i wi => ∃ q : Nat, q ≤ N ∧ i = .int .i64 (q : Int) ∧ Below w17.heap.size w17 wi) (fun i _ => N - (intOf i).toNat)
        case atStart => exact ⟨0, by omega, rfl, HW21.out⟩
        case round =>
        obtain ⟨q, hq, rfl, hwq⟩ := hrel
        by_cases hq2 : q < N
        · have hql : q < l.length := by rw [HN.out]; exact hq2
          obtain ⟨b2, off2, hao2, lb2, c0, c1⟩ := HCX.out q hql
          subst hao2
          have c0 := (hwq.cell (p := ⟨b2, _, none⟩) lb2).trans c0
          have c1 := (hwq.cell (p := ⟨b2, _, none⟩) lb2).trans c1
          have d0 := (hwq.cell (p := ⟨b, _, none⟩) LB.out).trans D0.out
          have d1 := (hwq.cell (p := ⟨b, _, none⟩) LB.out).trans D1.out
          have heq := fun W => snd_eql (l[q].1.toNat : Int) (l[q].2.toNat : Int) (yp.toNat : Int) (ym.toNat : Int) W
          have hsb := snd_beq l[q] (yp, ym)
          simp only at hsb
          rw [hsb, decide_eq_false (fun e => HNI.out (by rw [← e]; exact List.getElem_mem hql))] at heq
          generalize l[q] = x at *
          obtain ⟨xp, xm⟩ := x
          simp only at c0 c1 heq
          have HWQ := Lib.hid hwq
          have hq3 : (q : Int) < (N : Int) := by omega
          have hq0 : (0 : Int) ≤ (q : Int) := by omega
          clear hwq hsb HCX
          go_wp2_with fail
          go_region
          all_goals go_wp2_with fail
          all_goals (
            go_roundw
            case rel => exact ⟨q + 1, by omega, by go_num, HWQ.out.drew⟩
            case measure => simp [intOf]; omega)
        · obtain rfl : q = N := by omega
          have HWQ := Lib.hid hwq
          clear hwq hq2
          go_wp2_with fail
          go_roundw
          case rel => exact ⟨k + 1, by omega, by go_num, HWQ.out⟩
          case measure => simp [intOf]; omega
    obtain rfl : k = n := by omega
    have HE := Lib.hid (HBw17.out.trans (hw.mono HBw17.out.size))
    clear hw hlt HCX HCY
    obtain ⟨P, hP⟩ : ∃ P : Nat, 2 ^ N = P := ⟨_, rfl⟩
    have hP2 : P ≤ 256 := by rw [← hP]; exact Nat.le_trans (Nat.pow_le_pow_right (by decide) hs1) (by decide)
    have hPi : ((2 : Int) ^ N) = (P : Int) := by rw [← hP]; simp
    have hPw : IntKind.i64.wrap ((2 : Int) ^ N) = (P : Int) := by rw [hPi, IntKind.wrap_i64]; omega
    have hPm : IntKind.i64.wrap ((P : Int) - 1) = (P : Int) - 1 := by rw [IntKind.wrap_i64]; omega
    have q1 := HCC1.out
    have q2 := HCC2.out
    rw [hP] at q2
    have q3 : decide ((min (N : Int) 1) ≤ cn) = true := decide_eq_true (by omega)
    have q4 : decide (cn ≤ (P : Int) - 1) = true := decide_eq_true q2
    have HPI := Lib.hid hPi
    clear hP hPi q1 q2
    go_wp2_with fail
    go_at_call 14
    refine Gives.then (works_any _ (HT.out.below HE.out LT.out) (Nat.lt_of_lt_of_le LT.out HE.out.size)) ?_
    intro w6 hb6
    have HW6 := Lib.hid (HE.out.trans (hb6.mono HE.out.size))
    clear hb6
    go_wp2_with fail
    go_returns
    exact ⟨rfl, HW6.out⟩
end Go.Proofs.YtpnmapfabjdfjaaDoor

/-
  The specification's Gaps.
-/
namespace Go.Proofs.YtpnmapfabjdfjaaDoor
open Go.RowKit Go.Sort
/-- The sound that three sounds show to be missing. -/
def trip (l : List Snd) (i j k : Nat) (g : Snd) : Prop := i < l.length ∧ j < l.length ∧ k < l.length ∧ one (l.getD i zs) (l.getD j zs) = true ∧ getV (l.getD k zs).1 (l.getD k zs).2 (feN (l.getD i zs) (l.getD j zs)) = getV (l.getD i zs).1 (l.getD i zs).2 (feN (l.getD i zs) (l.getD j zs)) ∧ g = gapS (l.getD k zs) (swp (l.getD i zs) (l.getD j zs)) ∧ g ∉ l
/-- Those that were met before three places. -/
def Pd (l : List Snd) (i j k : Nat) (g : Snd) : Prop := ∃ a b c, trip l a b c g ∧ (a < i ∨ (a = i ∧ (b < j ∨ (b = j ∧ c < k))))
theorem Pd.next {l : List Snd} {i j k : Nat} {g : Snd} : Pd l i j (k + 1) g ↔ Pd l i j k g ∨ trip l i j k g := by
  constructor
  · rintro ⟨a, b, c, ht, h⟩
    by_cases e : a = i ∧ b = j ∧ c = k
    · obtain ⟨rfl, rfl, rfl⟩ := e; exact .inr ht
    · exact .inl ⟨a, b, c, ht, by omega⟩
  · rintro (⟨a, b, c, ht, h⟩ | ht)
    · exact ⟨a, b, c, ht, by omega⟩
    · exact ⟨i, j, k, ht, by omega⟩
theorem Pd.row {l : List Snd} {i j : Nat} {g : Snd} : Pd l i j l.length g ↔ Pd l i (j + 1) 0 g := by
  constructor
  · rintro ⟨a, b, c, ht, h⟩; exact ⟨a, b, c, ht, by omega⟩
  · rintro ⟨a, b, c, ht, h⟩; exact ⟨a, b, c, ht, by have := ht.2.2.1; omega⟩
theorem Pd.skip {l : List Snd} {i j : Nat} {g : Snd} (h1 : one (l.getD i zs) (l.getD j zs) = false) : Pd l i j 0 g ↔ Pd l i (j + 1) 0 g := by
  constructor
  · rintro ⟨a, b, c, ht, h⟩; exact ⟨a, b, c, ht, by omega⟩
  · rintro ⟨a, b, c, ht, h⟩
    refine ⟨a, b, c, ht, ?_⟩
    by_cases e : a = i ∧ b = j
    · obtain ⟨rfl, rfl⟩ := e
      have := ht.2.2.2.1
      rw [h1] at this; cases this
    · omega
theorem Pd.out {l : List Snd} {i : Nat} {g : Snd} : Pd l i l.length 0 g ↔ Pd l (i + 1) 0 0 g := by
  constructor
  · rintro ⟨a, b, c, ht, h⟩; exact ⟨a, b, c, ht, by omega⟩
  · rintro ⟨a, b, c, ht, h⟩; exact ⟨a, b, c, ht, by have := ht.2.1; omega⟩
theorem Pd.start {l : List Snd} {g : Snd} : ¬ Pd l 0 0 0 g := by rintro ⟨a, b, c, ht, h⟩; omega
theorem Pd.gap {l : List Snd} {i j k : Nat} {g : Snd} (h : Pd l i j k g) : gapP l g := by
  obtain ⟨a, b, c, ⟨h1, h2, h3, h4, h5, h6, h7⟩, -⟩ := h
  have hg : ∀ i (h : i < l.length), l.getD i zs = l[i] := fun i h => by simp [List.getD, List.getElem?_eq_getElem h]
  rw [hg a h1, hg b h2] at h4 h5 h6
  rw [hg c h3] at h5 h6
  exact (gapP_all l g).2 ⟨_, List.getElem_mem h1, _, List.getElem_mem h2, h4, _, List.getElem_mem h3, h5, h6, h7⟩
theorem Pd.all {l : List Snd} {g : Snd} : Pd l l.length 0 0 g ↔ gapP l g := by
  refine ⟨Pd.gap, fun h => ?_⟩
  obtain ⟨a, ha, b, hb, h1, z, hz, h2, h3, h4⟩ := (gapP_all l g).1 h
  have hg : ∀ i (h : i < l.length), l.getD i zs = l[i] := fun i h => by simp [List.getD, List.getElem?_eq_getElem h]
  obtain ⟨i, hi, rfl⟩ := List.getElem_of_mem ha
  obtain ⟨j, hj, rfl⟩ := List.getElem_of_mem hb
  obtain ⟨k, hk, rfl⟩ := List.getElem_of_mem hz
  exact ⟨i, j, k, ⟨hi, hj, hk, by rw [hg i hi, hg j hj]; exact h1, by rw [hg i hi, hg j hj, hg k hk]; exact h2, by rw [hg i hi, hg j hj, hg k hk]; exact h3, h4⟩, .inl hi⟩
/-- The list so far. -/
def GpI (l : List Snd) (i j k : Nat) (Y : List Snd) : Prop := IncS Y ∧ ∀ g, g ∈ Y ↔ Pd l i j k g
theorem GpI.len {l : List Snd} {i j k : Nat} {Y : List Snd} (h : GpI l i j k Y) (hl : l.length ≤ 256) : Y.length ≤ 33554432 := by
  have hnd : Y.Nodup := List.nodup_iff_pairwise_ne.2 (List.Pairwise.imp (S := fun a b => a ≠ b) (fun {a b} hxy (e : a = b) => ltS_irr a (by rw [← e] at hxy; exact hxy)) h.1.pw)
  have h1 : Y.length ≤ (gpL l (swS l (prs l))).length := len_of_sub _ _ hnd fun g hg => (gpL_mem l g _).2 ((h.2 g).1 hg).gap
  have h2 := gpL_len l (swS l (prs l))
  have h3 := swS_len l (prs l)
  have h4 := prs_len l
  have h5 : l.length * l.length ≤ 256 * 256 := Nat.mul_le_mul hl hl
  have h6 : (swS l (prs l)).length * l.length ≤ 131072 * 256 := Nat.mul_le_mul (by omega) hl
  omega
theorem IncS.nil : IncS [] := fun i j _ hj => by simp at hj
theorem GpI.start (l : List Snd) : GpI l 0 0 0 [] := ⟨IncS.nil, fun g => ⟨fun h => by simp at h, fun h => absurd h Pd.start⟩⟩
theorem GpI.congr {l : List Snd} {i j k i' j' k' : Nat} {Y : List Snd} (h : GpI l i j k Y) (he : ∀ g, Pd l i j k g ↔ Pd l i' j' k' g) : GpI l i' j' k' Y := ⟨h.1, fun g => (h.2 g).trans (he g)⟩
/-- One more place. -/
theorem GpI.no {l : List Snd} {i j k : Nat} {Y : List Snd} (h : GpI l i j k Y) (hn : ∀ g, ¬ trip l i j k g) : GpI l i j (k + 1) Y := h.congr fun g => by rw [Pd.next]; exact ⟨.inl, fun h => h.elim id fun h => absurd h (hn g)⟩
theorem GpI.yes {l : List Snd} {i j k : Nat} {Y Z : List Snd} {s : Snd} (h : GpI l i j k Y) (ht : trip l i j k s) (hz : IncS Z) (hi : InX Y s Z) : GpI l i j (k + 1) Z := ⟨hz, fun g => by
  rw [hi g, h.2 g, Pd.next]
  refine or_congr Iff.rfl ⟨fun e => e ▸ ht, fun h2 => ?_⟩
  rw [h2.2.2.2.2.2.1, ht.2.2.2.2.2.1]⟩
/-- What Gaps returns. -/
def GpY (l Y : List Snd) : Prop := (ckE l 256 = 0 → IncS Y ∧ ∀ g, g ∈ Y ↔ gapP l g) ∧ (ckE l 256 ≠ 0 → Y = [])
set_option maxRecDepth 100000 in
set_option maxHeartbeats 8000000 in
theorem rgaps_any (l : List Snd) (v : Value) (w : World) (h : Wd w v l) : Calls Tryd.prog 30 #[v] w fun e w' => ∃ m Y, e = .returned (.tuple #[m, .int .i64 (ckE l 256)]) ∧ Wd w' m Y ∧ GpY l Y ∧ Below w.heap.size w w' := by
  have hck := rcheck_any l v 256 w (by decide) h
  rw [show ((256 : Nat) : Int) = 256 from rfl] at hck
  have hvl := fun (h1 : ckE l 256 = 0) => ckE_vld h1
  have hln := fun (h1 : ckE l 256 = 0) => ckE_len h1
  have HWD0 := Lib.hid h
  obtain ⟨ao, cap, rfl, c1, m1, hc⟩ := h.open
  obtain ⟨N, hN⟩ : ∃ N, l.length = N := ⟨_, rfl⟩
  obtain ⟨E, hE⟩ : ∃ E, ckE l 256 = E := ⟨_, rfl⟩
  have HC := Lib.hid hc; have HN := Lib.hid hN; have HEE := Lib.hid hE
  rw [hN] at c1 hck hln HWD0 ⊢
  rw [hE] at hck hvl hln ⊢
  have HCK := Lib.hid hck; have HVL := Lib.hid hvl; have HLN := Lib.hid hln
  clear hc hck hvl hln h hN m1 hE
  by_cases h0 : E = 0
  · subst h0
    have l2 : N ≤ 256 := HLN.out rfl
    have l1 : N ≤ 9223372036854775807 := by omega
    have HV := Lib.hid (HVL.out rfl)
    clear HLN HVL
    go_enter Tryd.func30, Tryd.ntmps30
    go_wp2_with fail
    go_at_call 51
    refine Gives.then HCK.out ?_
    intro w1 hb1
    have HW1 := Lib.hid hb1
    clear hb1 HCK
    go_wp2_with fail
    go_loopw [5, 6] (fun u i wr => ∃ (k : Nat) (Y : List Snd), k ≤ N ∧ i = .int .i64 (k : Int) ∧ Wd wr u Y ∧ GpI l k 0 0 Y ∧ Below w.heap.size w wr) (fun _ i _ => N - (intOf i).toNat)
    case atStart => exact ⟨0, [], by omega, rfl, Wd.nil _, GpI.start l, HW1.out⟩
    case round =>
    obtain ⟨i, Y, hi, rfl, ho, hg, hw⟩ := hrel
    by_cases hlt : i < N
    · have hil : i < l.length := by rw [HN.out]; exact hlt
      have HO := Lib.hid ho; have HG := Lib.hid hg; have HW := Lib.hid hw
      obtain ⟨oa, oc, hov, -, -, -⟩ := ho.open
      obtain ⟨n, hn⟩ : ∃ n, Y.length = n := ⟨_, rfl⟩
      rw [hn] at hov
      subst hov
      clear ho hg hw hn
      go_wp2_with fail
      go_loopw [5, 7] (fun u j wr => ∃ (k : Nat) (Y : List Snd), k ≤ N ∧ j = .int .i64 (k : Int) ∧ Wd wr u Y ∧ GpI l i k 0 Y ∧ Below w.heap.size w wr) (fun _ j _ => N - (intOf j).toNat)
      case atStart => exact ⟨0, Y, by omega, rfl, HO.out, HG.out, HW.out⟩
      case round =>
      clear HO HG HW
      obtain ⟨j, Y, hj, rfl, ho, hg, hw⟩ := hrel
      have HO := Lib.hid ho; have HG := Lib.hid hg; have HW := Lib.hid hw
      obtain ⟨oa, oc, hov, -, -, -⟩ := ho.open
      obtain ⟨n, hn⟩ : ∃ n, Y.length = n := ⟨_, rfl⟩
      rw [hn] at hov
      subst hov
      have HNY := Lib.hid hn
      clear ho hg hw hn
      by_cases hltj : j < N
      · have hjl : j < l.length := by rw [HN.out]; exact hltj
        obtain ⟨b, off, hao, lb, d0, d1⟩ := HC.out i hil
        subst hao
        obtain ⟨b', off', hao', _, d2, d3⟩ := HC.out j hjl
        cases hao'
        have hg0 : ∀ i (h : i < l.length), l.getD i zs = l[i] := fun i h => by simp [List.getD, List.getElem?_eq_getElem h]
        obtain ⟨x, hx⟩ : ∃ x, l[i] = x := ⟨_, rfl⟩
        obtain ⟨y, hy⟩ : ∃ y, l[j] = y := ⟨_, rfl⟩
        have hxg := (hg0 i hil).trans hx
        have hyg := (hg0 j hjl).trans hy
        have hxv := HV.out l[i] (List.getElem_mem hil)
        have hyv := HV.out l[j] (List.getElem_mem hjl)
        rw [hx] at d0 d1 hxv; rw [hy] at d2 d3 hyv
        have HXG := Lib.hid hxg; have HYG := Lib.hid hyg; have HXV := Lib.hid hxv; have HYV := Lib.hid hyv
        have D0 := Lib.hid d0; have D1 := Lib.hid d1; have D2 := Lib.hid d2; have D3 := Lib.hid d3; have LB := Lib.hid lb
        have hal := ralone_any x y hxv hyv
        rw [lon_dif hxv hyv] at hal
        have hfe : (lonF (dif x y)).1 = feN x y := rfl
        rw [hfe] at hal
        have hfl : one x y = true → feN x y < 24 := fun h => (lon_val (dif_lt hxv hyv) (of_decide_eq_true h)).1
        have hon : one (l.getD i zs) (l.getD j zs) = one x y := by rw [hxg, hyg]
        have HFL := Lib.hid hfl; have HAL := Lib.hid hal; have HON := Lib.hid hon
        clear hx hy hxg hyg hxv hyv hg0 hal hfe hfl hon d0 d1 d2 d3 lb
        have c0 := (HW.out.cell (p := ⟨b, _, none⟩) LB.out).trans D0.out
        have c1' := (HW.out.cell (p := ⟨b, _, none⟩) LB.out).trans D1.out
        have c2 := (HW.out.cell (p := ⟨b, _, none⟩) LB.out).trans D2.out
        have c3 := (HW.out.cell (p := ⟨b, _, none⟩) LB.out).trans D3.out
        have hi3 : (i : Int) < (N : Int) := by omega
        have hi0 : (0 : Int) ≤ (i : Int) := by omega
        have hj3 : (j : Int) < (N : Int) := by omega
        have hj0 : (0 : Int) ≤ (j : Int) := by omega
        obtain ⟨f, hf⟩ : ∃ f, feN x y = f := ⟨_, rfl⟩
        have HF := Lib.hid hf
        rw [hf] at HAL HFL
        clear hf
        obtain ⟨B, hB⟩ : ∃ B, one x y = B := ⟨_, rfl⟩
        rw [hB] at HAL HFL HON
        clear hB
        have HXx := Lib.hid (rfl : x = x)
        obtain ⟨xp, xm⟩ := x
        obtain ⟨yp, ym⟩ := y
        simp only at c0 c1' c2 c3 D0 D1 D2 D3
        clear HXx
        go_wp2_with fail
        have x0 := cell_regrown c0
        have x1 := cell_regrown c1'
        have x2 := cell_regrown c2
        have x3 := cell_regrown c3
        refine wp_region_quiet_below (by kernel_rfl) (by kernel_rfl) ?_
        try simp only [List.append]
        repeat (go_big_quiet_step (first | (go_at_call 61; with_reducible exact Calls.regrown_of (HAL.out _))))
        refine wpQuiet_nil ?_
        intro w11 hw11
        have hB1 : Below wr.heap.size wr w11 := by obtain ⟨q, rfl⟩ := hw11; exact below_regrown _ _ _
        have HW11 := Lib.hid (HW.out.trans (hB1.mono HW.out.size)); have HO11 := Lib.hid (HO.out.below hB1)
        clear hw11 x0 x1 x2 x3 c0 c1' c2 c3 hB1 HW HO HAL
        cases B with
        | false =>
          have HG11 := Lib.hid (HG.out.congr fun g => Pd.skip HON.out)
          go_wp2_with fail
          go_roundw
          case rel => exact ⟨j + 1, Y, by omega, by go_num, HO11.out, HG11.out, HW11.out⟩
          case measure => simp [intOf]; omega
        | true =>
        have hf24 := HFL.out rfl
        have HF24 := Lib.hid hf24
        clear hf24 HFL
        go_wp2_with fail
        go_loopw [5, 10] (fun u k wr => ∃ (q : Nat) (Y : List Snd), q ≤ N ∧ k = .int .i64 (q : Int) ∧ Wd wr u Y ∧ GpI l i j q Y ∧ Below w.heap.size w wr) (fun _ k _ => N - (intOf k).toNat)
        case atStart => exact ⟨0, Y, by omega, rfl, HO11.out, HG.out, HW11.out⟩
        case round =>
        clear HO11 HG HW11 HNY
        obtain ⟨k, Y, hk, rfl, ho, hg, hw⟩ := hrel
        have HO := Lib.hid ho; have HG := Lib.hid hg; have HW := Lib.hid hw
        obtain ⟨oa, oc, hov, -, -, -⟩ := ho.open
        obtain ⟨n, hn⟩ : ∃ n, Y.length = n := ⟨_, rfl⟩
        rw [hn] at hov
        subst hov
        clear ho hg hw hn
        by_cases hltk : k < N
        · have hkl : k < l.length := by rw [HN.out]; exact hltk
          obtain ⟨b', off', hao', _, d4, d5⟩ := HC.out k hkl
          cases hao'
          have hzg : l.getD k zs = l[k] := by simp [List.getD, List.getElem?_eq_getElem hkl]
          have hzv := HV.out l[k] (List.getElem_mem hkl)
          generalize l[k] = z at *
          obtain ⟨zp, zm⟩ := z
          simp only at d4 d5
          have g1 := rget_ok zp zm f hzv HF24.out
          have g2 := rget_ok xp xm f HXV.out HF24.out
          have g3 := rget_ok yp ym f HYV.out HF24.out
          have hvz : vld zp zm = true := hzv
          have hwi : ∀ W, Gives 66 #[.agg #[.int .u32 (zp.toNat : Int), .int .u32 (zm.toNat : Int)], .int .i64 (f : Int), .int .i64 (getV yp ym f)] W (.tuple #[.agg #[.int .u32 ((gapS (zp, zm) (swp (xp, xm) (yp, ym))).1.toNat : Int), .int .u32 ((gapS (zp, zm) (swp (xp, xm) (yp, ym))).2.toNat : Int)], .int .i64 0]) := fun W => by
            have h := rwith_any zp zm (f : Int) (getV yp ym f) W
            have hin : 0 ≤ (f : Int) ∧ (f : Int) < 24 := ⟨by omega, by have := HF24.out; omega⟩
            have hv3 : getV yp ym f = 1 ∨ getV yp ym f = 0 ∨ getV yp ym f = -1 := getV_three _ _ _
            have hsw : gapS (zp, zm) (swp (xp, xm) (yp, ym)) = (withP zp f (getV yp ym f), withM zm f (getV yp ym f)) := by
              unfold gapS swp
              simp only [HF.out]
              rfl
            rw [hvz, if_pos rfl, if_pos hin, show (f : Int).toNat = f from by omega] at h
            rw [hsw]
            unfold withV at h
            rcases hv3 with e | e | e <;> (rw [e] at h ⊢; simpa using h)
          have htr : ∀ g, trip l i j k g ↔ getV zp zm f = getV xp xm f ∧ g = gapS (zp, zm) (swp (xp, xm) (yp, ym)) ∧ g ∉ l := fun g => by
            unfold trip
            rw [HXG.out, HYG.out, hzg, HF.out]
            have hone : one (xp, xm) (yp, ym) = true := by rw [← HXG.out, ← HYG.out]; exact HON.out
            exact ⟨fun h => h.2.2.2.2, fun h => ⟨hil, hjl, hkl, hone, h⟩⟩
          have HTR := Lib.hid htr
          generalize gapS (zp, zm) (swp (xp, xm) (yp, ym)) = gp at *
          have HG1 := Lib.hid g1; have HG2 := Lib.hid g2; have HG3 := Lib.hid g3; have HWI := Lib.hid hwi
          generalize getV zp zm f = vz at *
          generalize getV xp xm f = vx at *
          generalize getV yp ym f = vy at *
          clear g1 g2 g3 hwi htr hzg hzv hvz
          have KK : Hid (∀ W : World, Below w.heap.size w W → (W.cell? ⟨b, off + i * 2, none⟩ = some (.int .u32 (xp.toNat : Int)) ∧ W.cell? ⟨b, off + i * 2 + 1, none⟩ = some (.int .u32 (xm.toNat : Int))) ∧ (W.cell? ⟨b, off + j * 2, none⟩ = some (.int .u32 (yp.toNat : Int)) ∧ W.cell? ⟨b, off + j * 2 + 1, none⟩ = some (.int .u32 (ym.toNat : Int))) ∧ W.cell? ⟨b, off + k * 2, none⟩ = some (.int .u32 (zp.toNat : Int)) ∧ W.cell? ⟨b, off + k * 2 + 1, none⟩ = some (.int .u32 (zm.toNat : Int))) := Lib.hid (fun W hW => ⟨⟨(hW.cell (p := ⟨b, _, none⟩) LB.out).trans D0.out, (hW.cell (p := ⟨b, _, none⟩) LB.out).trans D1.out⟩, ⟨(hW.cell (p := ⟨b, _, none⟩) LB.out).trans D2.out, (hW.cell (p := ⟨b, _, none⟩) LB.out).trans D3.out⟩, (hW.cell (p := ⟨b, _, none⟩) LB.out).trans d4, (hW.cell (p := ⟨b, _, none⟩) LB.out).trans d5⟩)
          clear d4 d5
          have hk3 : (k : Int) < (N : Int) := by omega
          have hk0 : (0 : Int) ≤ (k : Int) := by omega
          obtain ⟨⟨k0, k1⟩, ⟨k2, k3⟩, k4, k5⟩ := KK.out wr HW.out
          have x0 := cell_regrown k0
          have x1 := cell_regrown k1
          have x4 := cell_regrown k4
          have x5 := cell_regrown k5
          go_wp2_with fail
          refine wp_region_quiet_below (by kernel_rfl) (by kernel_rfl) ?_
          try simp only [List.append]
          repeat (go_big_quiet_step (first | (go_at_call 65; with_reducible exact Calls.regrown_of (HG1.out _)) | (go_at_call 65; with_reducible exact Calls.regrown_of (HG2.out _))))
          refine wpQuiet_nil ?_
          intro w12 hw12
          have hB2 : Below wr.heap.size wr w12 := by obtain ⟨q, rfl⟩ := hw12; exact below_regrown _ _ _
          have HW12 := Lib.hid (HW.out.trans (hB2.mono HW.out.size)); have HO12 := Lib.hid (HO.out.below hB2)
          clear hw12 x0 x1 x4 x5 k0 k1 k2 k3 k4 k5 hB2 HW HO
          by_cases hvv : vz = vx
          · subst hvv
            have g9 : (vz != vz) = false := by simp
            rw [g9]
            clear g9
            go_wp2_with fail
            refine wp_region_late 14 16 [(15, .cells #[.int .u32 0, .int .u32 0] 27 (0, 0))] [0, 1, 2, 3, 4, 5, 6, 7, 8, 9, 10, 11, 12, 13, 14, 15] ?A8 _ (by simp [edged]; rfl) rfl rfl (by kernel_rfl) (by kernel_rfl) (by kernel_rfl) ?hrun8 (by simp [quiets, mkOf]; rfl) ?walk8 ?fin8
            case hrun8 =>
              intro x hx
              simp only [List.mem_cons, List.not_mem_nil, or_false] at hx
              rcases hx with rfl
              exact ⟨_, rfl, rfl, fun a w => by simp [go_sem, ptr]⟩
            case walk8 =>
              intro W2 hW2
              obtain ⟨⟨k0, k1⟩, ⟨k2, k3⟩, k4, k5⟩ := KK.out W2 (HW12.out.trans (hW2.mono HW12.out.size))
              have x2 := cell_regrown k2
              have x3 := cell_regrown k3
              have x4 := cell_regrown k4
              have x5 := cell_regrown k5
              repeat (go_big_quiet_step (first
                | (go_at_call 65; with_reducible exact Calls.regrown_of (HG3.out _))
                | (go_at_call 66; with_reducible exact Calls.regrown_of (HWI.out _))))
              refine wpQuiet_nil ?_
              rfl
            intro bs w13 hb hF hN
            obtain ⟨hq, hqb⟩ := hF (15, .cells #[.int .u32 0, .int .u32 0] 27 (0, 0)) (by simp)
            simp only [List.map_cons, List.map_nil, List.foldr_cons, List.foldr_nil] at *
            generalize bs 15 = q at *
            obtain ⟨gpp, gpm⟩ := gp
            have HB13 := Lib.hid (hb.setCell2 hq (.int .u32 (gpp.toNat : Int)) (.int .u32 (gpm.toNat : Int)))
            have R3 := Lib.hid (two_set (x' := .int .u32 (gpp.toNat : Int)) (y' := .int .u32 (gpm.toNat : Int)) hqb)
            have c0 := cell_block hqb (o := 0) rfl
            have c1 := cell_block hqb (o := 1) rfl
            have f0 := frozen_block hqb (o := 0)
            have f1 := frozen_block hqb (o := 1)
            clear bs hF hN hb hqb KK HG1 HG2 HG3 HWI hq
            simp only [dstOf, ptr, Act.put, List.getElem?_toArray, List.getElem?_cons_succ, List.getElem?_cons_zero, Option.bind_some, List.setIfInBounds_toArray, List.set_cons_zero, List.set_cons_succ, List.drop_succ_cons, List.drop_zero]
            go_wp2_with fail
            generalize ((w13.setCell ⟨q, 0, none⟩ (.int .u32 (gpp.toNat : Int))).setCell ⟨q, 1, none⟩ (.int .u32 (gpm.toNat : Int))) = w14 at *
            have HW14 := Lib.hid (HW12.out.trans (HB13.out.mono HW12.out.size)); have HO14 := Lib.hid (HO12.out.below HB13.out)
            have HWL := Lib.hid (HWD0.out.below HW14.out)
            clear c0 c1 f0 f1 HB13 HW12 HO12
            have c0 := cell_block R3.out (o := 0) rfl
            have c1 := cell_block R3.out (o := 1) rfl
            have hha := rhas_any l (gpp, gpm) _ w14 HWL.out
            have HHA := Lib.hid hha
            clear hha
            refine ⟨rfl, ?_⟩
            go_wp2_with fail
            go_at_call 52
            refine Gives.then HHA.out ?_
            intro w15 hb15
            have HW15 := Lib.hid (HW14.out.trans (hb15.mono HW14.out.size)); have HO15 := Lib.hid (HO14.out.below hb15)
            have R15 := Lib.hid ((hb15.block _ (Array.getElem?_eq_some_iff.1 R3.out).1).trans R3.out)
            clear hb15 c0 c1 R3 HHA HWL HW14 HO14
            by_cases hml : (gpp, gpm) ∈ l
            · have HGN := Lib.hid (HG.out.no fun g h => by
                have h2 := (HTR.out g).1 h
                rw [h2.2.1] at h2
                exact h2.2.2 hml)
              rw [decide_eq_true hml]
              clear hml
              go_wp2_with fail
              go_roundw
              case rel => exact ⟨k + 1, Y, by omega, by go_num, HO15.out, HGN.out, HW15.out⟩
              case measure => simp [intOf]; omega
            · have htt : trip l i j k (gpp, gpm) := (HTR.out (gpp, gpm)).2 (by refine ⟨?_, ?_, hml⟩ <;> first | exact True.intro | rfl)
              rw [decide_eq_false hml]
              have hY := HG.out.len (by rw [HN.out]; exact l2)
              have had := add_any Y (gpp, gpm) _ w15 HO15.out HG.out.1 (by omega)
              have HAD := Lib.hid had; have HTT := Lib.hid htt
              clear hml had htt hY
              have c0 := cell_block R15.out (o := 0) rfl
              have c1 := cell_block R15.out (o := 1) rfl
              go_wp2_with fail
              go_at_call 67
              refine HAD.out.mono ?_
              rintro e w16 ⟨m16, Z, rfl, hwz, hiz, hnz, hb16⟩
              have HW16 := Lib.hid (HW15.out.trans (hb16.mono HW15.out.size)); have HZ := Lib.hid hwz; have HGZ := Lib.hid (HG.out.yes HTT.out hiz hnz)
              clear hb16 hwz hiz hnz c0 c1
              go_wp2_with fail
              go_roundw
              case rel => exact ⟨k + 1, Z, by omega, by go_num, HZ.out, HGZ.out, HW16.out⟩
              case measure => simp [intOf]; omega
          · have g9 : (vz != vx) = true := by rw [bne_iff_ne]; exact hvv
            rw [g9]
            clear g9
            have HGN := Lib.hid (HG.out.no fun g h => hvv ((HTR.out g).1 h).1)
            clear hvv KK
            go_wp2_with fail
            go_roundw
            case rel => exact ⟨k + 1, Y, by omega, by go_num, HO12.out, HGN.out, HW12.out⟩
            case measure => simp [intOf]; omega
        · obtain rfl : k = N := by omega
          have HGE := Lib.hid (HG.out.congr fun g => (by have h := @Pd.row l i j g; rw [HN.out] at h; exact h : Pd l i j k g ↔ Pd l i (j + 1) 0 g))
          clear hltk
          go_wp2_with fail
          go_roundw
          case rel => exact ⟨j + 1, Y, by omega, by go_num, HO.out, HGE.out, HW.out⟩
          case measure => simp [intOf]; omega
      · obtain rfl : j = N := by omega
        have HGE := Lib.hid (HG.out.congr fun g => (by have h := @Pd.out l i g; rw [HN.out] at h; exact h : Pd l i j 0 g ↔ Pd l (i + 1) 0 0 g))
        clear hltj
        go_wp2_with fail
        go_roundw
        case rel => exact ⟨i + 1, Y, by omega, by go_num, HO.out, HGE.out, HW.out⟩
        case measure => simp [intOf]; omega
    · obtain rfl : i = N := by omega
      have HO := Lib.hid ho; have HG := Lib.hid hg; have HW := Lib.hid hw
      have hfin : GpY l Y := ⟨fun _ => ⟨hg.1, fun g => by rw [hg.2 g]; have h := @Pd.all l g; rw [HN.out] at h; exact h⟩, fun h => absurd HEE.out h⟩
      have HFIN := Lib.hid hfin
      clear ho hg hw hlt hfin
      go_wp2_with fail
      go_ret2
      exact ⟨_, Y, rfl, HO.out, HFIN.out, HW.out⟩
  · have g1 : (E == 0) = false := by simpa using h0
    have HFIN := Lib.hid (show GpY l [] from ⟨fun h => absurd (HEE.out.symm.trans h) h0, fun _ => rfl⟩)
    clear HVL HLN
    go_enter Tryd.func30, Tryd.ntmps30
    go_wp2_with fail
    go_at_call 51
    refine Gives.then HCK.out ?_
    intro w1 hb1
    have HB1 := Lib.hid hb1
    clear hb1
    go_wp2_with fail
    go_ret2
    exact ⟨_, [], rfl, Wd.nil _, HFIN.out, HB1.out⟩
end Go.Proofs.YtpnmapfabjdfjaaDoor

/-
  NaturalPairs, walked.
-/
namespace Go.Proofs.YtpnmapfabjdfjaaDoor
open Go.RowKit Go.Sort
theorem gpY_same {l Y Z : List Snd} (h1 : GpY l Y) (h2 : GpY l Z) : Y = Z := by
  by_cases h : ckE l 256 = 0
  · exact inc_same (h1.1 h).1 (h2.1 h).1 fun g => by rw [(h1.1 h).2, (h2.1 h).2]
  · rw [h1.2 h, h2.2 h]
theorem few_len {n : Nat} (h : fewB n = true) : n ≤ 300 := by
  unfold fewB at h
  simp at h
  omega
set_option maxRecDepth 100000 in
set_option maxHeartbeats 8000000 in
theorem natpairs_any (l : List Snd) (v : Value) (w : World) (h : Wd w v l) (hT : Tab w) (lT : 0 < w.heap.size) : Gives 5 #[v] w (.bool true) := by
  unfold Gives
  have HT := Lib.hid hT; have LT := Lib.hid lT; have HV0 := Lib.hid h; have HB0 := Lib.hid (Below.refl w.heap.size w)
  have hfew := few_any l v w h
  clear hT lT
  obtain ⟨ao, cap, rfl, -, -, -⟩ := h.open
  clear h
  obtain ⟨N, hN⟩ : ∃ N, l.length = N := ⟨_, rfl⟩
  rw [hN] at hfew HV0 ⊢
  have HF := Lib.hid hfew; have HN := Lib.hid hN
  clear hfew hN
  rcases hfw : fewB N with _ | _
  · rw [hfw] at HF
    clear hfw
    go_enter Tryd.func5, Tryd.ntmps5
    go_wp2_with fail
    go_at_call 13
    refine Gives.then HF.out ?_
    intro w1 hb1
    have HW1 := Lib.hid hb1
    clear hb1
    go_wp2_with fail
    go_at_call 14
    refine Gives.then (works_any _ (HT.out.below HW1.out LT.out) (Nat.lt_of_lt_of_le LT.out HW1.out.size)) ?_
    intro w2 hb2
    have HW2 := Lib.hid (HW1.out.trans (hb2.mono HW1.out.size))
    clear hb2
    go_wp2_with fail
    go_returns
    exact ⟨rfl, HW2.out⟩
  rw [hfw] at HF
  have hn3 := few_len hfw
  clear hfw
  go_enter Tryd.func5, Tryd.ntmps5
  go_wp2_with fail
  go_at_call 13
  refine Gives.then HF.out ?_
  intro w1 hbw1
  have HBw1 := Lib.hid (HB0.out.trans (hbw1.mono HB0.out.size))
  have HV0 := Lib.hid (HV0.out.below hbw1)
  clear hbw1
  clear HF
  have hem := (Below.refl w1.heap.size w1).alloc (Nat.le_refl _) (.cells #[] 27)
  have HEM := Lib.hid hem; have HOE := Lib.hid (Own.empty w1); have HVE := Lib.hid (HV0.out.below hem)
  clear hem
  go_wp2_with (at_builtin; refine wpList_app rfl (.tmp 21) (.tmp 22) 22 Tryd.underlying22 rfl w1.heap.size _ _ [] l rfl rfl HOE.out HVE.out (by rw [HN.out]; simp; omega) (by rw [World.size_alloc]; omega) ?_; intro v2 w2 ho2 hk2 hz2; have HIN := Lib.hid ho2.wd; have hbw2 : Below w1.heap.size w1 w2 := hk2 _ _ (Nat.le_refl _) HEM.out; clear ho2 hk2 hz2)
  rw [List.nil_append] at HIN
  obtain ⟨a2, c2, hv2, -⟩ := HIN.out.open
  rw [HN.out] at hv2
  subst hv2
  clear HEM HOE HVE
  have HBw2 := Lib.hid (HBw1.out.trans (hbw2.mono HBw1.out.size))
  have HV0 := Lib.hid (HV0.out.below hbw2)
  clear hbw2
  go_at_call 25
  refine (pairs_any l _ w2 HIN.out).mono ?_
  rintro e w3 ⟨m1, rfl, hop, hbw3⟩
  have HPS1 := Lib.hid hop.ps
  obtain ⟨a4, k4, hm⟩ := hop.slice
  clear hop
  obtain ⟨M, hM⟩ : ∃ M, (prsM l).length = M := ⟨_, rfl⟩
  have HM := Lib.hid hM
  clear hM
  rw [HM.out] at hm
  subst hm
  have HBw3 := Lib.hid (HBw2.out.trans (hbw3.mono HBw2.out.size))
  have HV0 := Lib.hid (HV0.out.below hbw3)
  have HIN := Lib.hid (HIN.out.below hbw3)
  clear hbw3
  go_wp2_with fail
  go_at_call 26
  refine (rpairs_any l _ w3 HV0.out).mono ?_
  rintro e w4 ⟨m2, rfl, hop, hbw4⟩
  have HPS2 := Lib.hid hop.ps
  obtain ⟨a6, k6, hm⟩ := hop.slice
  clear hop
  rw [HM.out] at hm
  subst hm
  have HBw4 := Lib.hid (HBw3.out.trans (hbw4.mono HBw3.out.size))
  have HV0 := Lib.hid (HV0.out.below hbw4)
  have HIN := Lib.hid (HIN.out.below hbw4)
  have HPS1 := Lib.hid (HPS1.out.below hbw4)
  clear hbw4
  obtain ⟨E, hE⟩ : ∃ E, ckE l 256 = E := ⟨_, rfl⟩
  rw [hE]
  have HE := Lib.hid hE
  clear hE
  go_wp2_with fail
  obtain ⟨ax, kx, hax, -, hxm, hxc⟩ := HPS1.out.open
  rw [HM.out] at hax
  obtain ⟨rfl, rfl⟩ : a4 = ax ∧ k4 = kx := by injection hax with x y z; exact ⟨x, z⟩
  obtain ⟨ay, ky, hay, hyk, hym, hyc⟩ := HPS2.out.open
  rw [HM.out] at hay hyk
  obtain ⟨rfl, rfl⟩ : a6 = ay ∧ k6 = ky := by injection hay with x y z; exact ⟨x, z⟩
  have lM : M ≤ 9223372036854775807 := by unfold maxLen at hym; omega
  have HXC := Lib.hid hxc; have HYC := Lib.hid hyc
  clear hax hay hxc hyc hxm hym hyk
  go_loopw [8] (fun i wr => ∃ k : Nat, k ≤ M ∧ i = .int .i64 (k : Int) ∧ Below w4.heap.size w4 wr) (fun i _ => M - (intOf i).toNat)
  case atStart => exact ⟨0, by omega, rfl, Below.refl _ _⟩
  case round =>
  obtain ⟨k, hk, rfl, hw⟩ := hrel
  by_cases hlt : k < M
  · have hkl : k < (prsM l).length := by rw [HM.out]; exact hlt
    obtain ⟨bx, hbx, lx, d0, d1⟩ := HXC.out k hkl
    obtain ⟨b2, hby, ly, d2, d3⟩ := HYC.out k hkl
    subst hbx; subst hby
    have d0 := (hw.cell (p := ⟨bx, _, none⟩) lx).trans d0
    have d1 := (hw.cell (p := ⟨bx, _, none⟩) lx).trans d1
    have d2 := (hw.cell (p := ⟨b2, _, none⟩) ly).trans d2
    have d3 := (hw.cell (p := ⟨b2, _, none⟩) ly).trans d3
    generalize (prsM l)[k] = x at *
    obtain ⟨xi, xj⟩ := x
    simp only at d0 d1 d2 d3
    have hne : ∀ W, (binOp .neq 44 (.agg #[.int .i64 (xi : Int), .int .i64 (xj : Int)]) (.agg #[.int .i64 (xi : Int), .int .i64 (xj : Int)])).run Tryd.prog W = .ok (.bool false) W := fun W => by
      have h := pair_neql (xi : Int) (xj : Int) (xi : Int) (xj : Int) W
      simpa using h
    have HW := Lib.hid hw
    have hk3 : (k : Int) < (M : Int) := by omega
    have hk0 : (0 : Int) ≤ (k : Int) := by omega
    clear hw HXC HYC
    go_wp2_with fail
    go_region
    all_goals go_wp2_with fail
    all_goals (
      go_roundw
      case rel => exact ⟨k + 1, by omega, by go_num, HW.out.drew⟩
      case measure => simp [intOf]; omega)
  obtain rfl : k = M := by omega
  have hbR := hw
  clear hw hlt HXC HYC
  have HBwr := Lib.hid (HBw4.out.trans (hbR.mono HBw4.out.size))
  have HV0 := Lib.hid (HV0.out.below hbR)
  have HIN := Lib.hid (HIN.out.below hbR)
  clear hbR
  go_wp2_with fail
  have hc := needed_any l _ wr HIN.out
  rw [HE.out] at hc
  have HC := Lib.hid hc
  clear hc
  go_at_call 27
  (with_reducible refine Gives.then (HC.out) ?_)
  intro w21 hbw21
  have HBw21 := Lib.hid (HBwr.out.trans (hbw21.mono HBwr.out.size))
  have HV0 := Lib.hid (HV0.out.below hbw21)
  have HIN := Lib.hid (HIN.out.below hbw21)
  clear hbw21
  go_wp2_with fail
  clear HC
  have hc := rneeded_any l _ w21 HV0.out
  rw [HE.out] at hc
  have HC := Lib.hid hc
  clear hc
  go_at_call 28
  (with_reducible refine Gives.then (HC.out) ?_)
  intro w22 hbw22
  have HBw22 := Lib.hid (HBw21.out.trans (hbw22.mono HBw21.out.size))
  have HV0 := Lib.hid (HV0.out.below hbw22)
  have HIN := Lib.hid (HIN.out.below hbw22)
  clear hbw22
  go_wp2_with fail
  clear HC
  go_at_call 29
  refine (gaps_any l _ w22 HIN.out (HT.out.below HBw22.out LT.out) (Nat.lt_of_lt_of_le LT.out HBw22.out.size)).mono ?_
  rintro e w23 ⟨m9, Y, rfl, hwd, hy1, hy2, hbw23⟩
  have HY1 := Lib.hid hwd; have HG1 := Lib.hid (⟨hy1, hy2⟩ : GpY l Y)
  clear hwd hy1 hy2
  rw [HE.out]
  have HBw23 := Lib.hid (HBw22.out.trans (hbw23.mono HBw22.out.size))
  have HV0 := Lib.hid (HV0.out.below hbw23)
  have HIN := Lib.hid (HIN.out.below hbw23)
  clear hbw23
  go_wp2_with fail
  go_at_call 30
  refine (rgaps_any l _ w23 HV0.out).mono ?_
  rintro e w24 ⟨m10, Y2, rfl, hwd, hy, hbw24⟩
  obtain rfl := gpY_same HG1.out hy
  have HY2 := Lib.hid hwd
  clear hwd hy
  rw [HE.out]
  have HBw24 := Lib.hid (HBw23.out.trans (hbw24.mono HBw23.out.size))
  have HV0 := Lib.hid (HV0.out.below hbw24)
  have HIN := Lib.hid (HIN.out.below hbw24)
  have HY1 := Lib.hid (HY1.out.below hbw24)
  clear hbw24
  go_wp2_with fail
  have hsm := same_any Y Y _ _ w24 HY1.out HY2.out
  rw [decide_eq_true rfl] at hsm
  have HSM := Lib.hid hsm
  clear hsm
  go_at_call 22
  refine Gives.then HSM.out ?_
  intro w25 hbw25
  clear HSM
  have HBw25 := Lib.hid (HBw24.out.trans (hbw25.mono HBw24.out.size))
  have HV0 := Lib.hid (HV0.out.below hbw25)
  have HIN := Lib.hid (HIN.out.below hbw25)
  have HY1 := Lib.hid (HY1.out.below hbw25)
  have HY2 := Lib.hid (HY2.out.below hbw25)
  clear hbw25
  go_wp2_with fail
  have hsm := same_any l l _ _ w25 HIN.out HV0.out
  rw [decide_eq_true rfl] at hsm
  have HSM := Lib.hid hsm
  clear hsm
  go_at_call 22
  refine Gives.then HSM.out ?_
  intro w26 hbw26
  clear HSM
  have HBw26 := Lib.hid (HBw25.out.trans (hbw26.mono HBw25.out.size))
  have HV0 := Lib.hid (HV0.out.below hbw26)
  have HIN := Lib.hid (HIN.out.below hbw26)
  have HY1 := Lib.hid (HY1.out.below hbw26)
  have HY2 := Lib.hid (HY2.out.below hbw26)
  clear hbw26
  go_wp2_with fail
  go_at_call 14
  refine Gives.then (works_any _ (HT.out.below HBw26.out LT.out) (Nat.lt_of_lt_of_le LT.out HBw26.out.size)) ?_
  intro w6 hb6
  have HW6 := Lib.hid (HBw26.out.trans (hb6.mono HBw26.out.size))
  clear hb6
  go_wp2_with fail
  go_returns
  exact ⟨rfl, HW6.out⟩
end Go.Proofs.YtpnmapfabjdfjaaDoor
