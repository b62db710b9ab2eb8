/-
  Lemmas that the theorem of this claim rests on: 12 texts, one behind the other.
-/
import Derived.Test.YtpnmapfabjdfjaaDoorM5
import Derived.Test.YtpnmapfabjdfjaaDoorM7
import Derived.BigQuiet
import Derived.Test.YtpnmapfabjdfjaaDoorM9
import Derived.Test.YtpnmapfabjdfjaaDoorM8
import Derived.Test.YtpnmapfabjdfjaaDoorM19
import Derived.Test.YtpnmapfabjdfjaaDoorM2
import Derived.Deep.AppendLies
set_option linter.unusedSimpArgs false
set_option linter.unusedVariables false

/-
  The sounds whose bit is 1, and the sounds with some indexes.
-/
namespace Go.Proofs.YtpnmapfabjdfjaaDoor
open Go.RowKit Go.Sort
def ptL (l : List Snd) (b : Nat) : List Snd := if pk b l 0 = [] then l.drop (l.length - 1) else pk b l 0
theorem and_pk32 (c k : Nat) (hc : c < 4294967296) : bits .and .u32 ((c : Int) / 2 ^ k) 1 = if c.testBit k then 1 else 0 := by
  have e : ((c : Int) / 2 ^ k) = ((c / 2 ^ k : Nat) : Int) := by simp
  have hy : c / 2 ^ k < 4294967296 := Nat.lt_of_le_of_lt (Nat.div_le_self _ _) hc
  have ht : c.testBit k = decide (c / 2 ^ k % 2 = 1) := Nat.testBit_eq_decide_div_mod_eq
  rw [e, ht]
  generalize c / 2 ^ k = y at *
  have key : bits .and .u32 (y : Int) 1 = ((y % 2 : Nat) : Int) := by
    have h1 : (1 : Int) = ((1 : Nat) : Int) := rfl
    rw [bv_and, h1, BitVec.ofInt_natCast, BitVec.ofInt_natCast, BitVec.toNat_and, BitVec.toNat_ofNat, BitVec.toNat_ofNat, Nat.mod_eq_of_lt (show y < 2 ^ 32 by omega), show 1 % 2 ^ 32 = 2 ^ 1 - 1 by decide, Nat.and_two_pow_sub_one_eq_mod]
  rw [key]
  rcases Nat.mod_two_eq_zero_or_one y with h | h
  · rw [h]; simp
  · rw [h]; simp
/-- The choice so far. -/
def ptK (l : List Snd) (b k : Nat) : List Snd := if k < l.length then pk b (l.take k) 0 else ptL l b
theorem ptK_zero (l : List Snd) (b : Nat) : ptK l b 0 = [] := by
  unfold ptK ptL
  split
  · simp [pk]
  · rename_i h
    have : l = [] := List.eq_nil_of_length_eq_zero (by omega)
    subst this
    simp [pk]
theorem ptK_end (l : List Snd) (b : Nat) : ptK l b l.length = ptL l b := if_neg (by omega)
theorem ptK_succ {l : List Snd} {b k : Nat} (hk : k < l.length) : ptK l b (k + 1) = ptK l b k ++ (if b.testBit k then [l[k]] else if k + 1 = l.length ∧ ptK l b k = [] then [l[k]] else []) := by
  have hsn := pk_snoc b l[k] (l.take k) 0
  rw [← List.take_succ_eq_append_getElem hk, List.length_take, Nat.min_eq_left (by omega), Nat.zero_add] at hsn
  have h1 : ptK l b k = pk b (l.take k) 0 := if_pos hk
  rw [h1]
  by_cases h2 : k + 1 < l.length
  · have h3 : ptK l b (k + 1) = pk b (l.take (k + 1)) 0 := if_pos h2
    rw [h3, hsn]
    congr 1
    rw [if_neg (c := k + 1 = l.length ∧ _) (by omega)]
  · have h4 : k + 1 = l.length := by omega
    have h3 : ptK l b (k + 1) = ptL l b := if_neg (by omega)
    have h5 : l.take (k + 1) = l := List.take_of_length_le (by omega)
    have h6 : l.drop (l.length - 1) = [l[k]] := by
      rw [show l.length - 1 = k from by omega, List.drop_eq_getElem_cons hk, List.drop_of_length_le (by omega)]
    rw [h5] at hsn
    rw [h3, ptL, h6, hsn]
    by_cases hb : b.testBit k = true
    · rw [if_pos hb, if_pos hb, if_neg (by simp)]
    · rw [if_neg hb, if_neg hb, List.append_nil]
      by_cases hp : pk b (l.take k) 0 = []
      · rw [if_pos hp, if_pos ⟨h4, hp⟩, hp]; rfl
      · rw [if_neg hp, if_neg (fun h => hp h.2), List.append_nil]
theorem ptK_len (l : List Snd) (b : Nat) : ∀ k, k ≤ l.length → (ptK l b k).length ≤ k
  | 0, _ => by rw [ptK_zero]; exact Nat.le_refl _
  | k + 1, h => by
    have ih := ptK_len l b k (by omega)
    rw [ptK_succ (by omega), List.length_append]
    split
    · simp; omega
    · split
      · simp; omega
      · simp; omega
set_option maxRecDepth 100000 in
set_option maxHeartbeats 8000000 in
theorem part_any (l : List Snd) (b : Nat) (v : Value) (w : World) (hb : b < 4294967296) (hl : l.length ≤ 24) (h : Wd w v l) : Calls Tryd.prog 34 #[v, .int .u32 (b : Int)] w fun e w' => ∃ m, e = .returned m ∧ Own w' w.heap.size m (ptL l b) ∧ Below w.heap.size w w' := by
  obtain ⟨ao, cap, rfl, c1, m1, hc⟩ := h.open
  obtain ⟨N, hN⟩ : ∃ N, l.length = N := ⟨_, rfl⟩
  have HC := Lib.hid hc; have HN := Lib.hid hN
  rw [hN] at c1 hl ⊢
  have l1 : N ≤ 9223372036854775807 := by omega
  have hend := ptK_end l b
  rw [hN] at hend
  have HE := Lib.hid hend
  clear hc h hN m1 hend
  go_enter Tryd.func34, Tryd.ntmps34
  go_wp2_with fail
  go_loopw [5, 6] (fun u i wr => ∃ k : Nat, k ≤ N ∧ i = .int .i64 (k : Int) ∧ Own wr w.heap.size u (ptK l b k) ∧ Below w.heap.size w wr) (fun _ i _ => N - (intOf i).toNat)
  case atStart => exact ⟨0, by omega, rfl, by rw [ptK_zero]; exact Own.nil _ _, Below.refl _ _⟩
  case round =>
    obtain ⟨k, hk, rfl, ho, hw⟩ := hrel
    obtain ⟨oa, oc, hov, -, -, -⟩ := ho.wd.open
    obtain ⟨n, hn⟩ : ∃ n, (ptK l b k).length = n := ⟨_, rfl⟩
    rw [hn] at hov
    subst hov
    have hn2 := ptK_len l b k (by rw [HN.out]; exact hk)
    rw [hn] at hn2
    have HNn := Lib.hid hn
    by_cases hlt : k < N
    · have hkl : k < l.length := by rw [HN.out]; exact hlt
      obtain ⟨g, off, hao, lg, d0, d1⟩ := HC.out k hkl
      subst hao
      have d0 := (hw.cell (p := ⟨g, _, none⟩) lg).trans d0
      have d1 := (hw.cell (p := ⟨g, _, none⟩) lg).trans d1
      have hsn := ptK_succ (b := b) hkl
      rw [HN.out] at hsn
      have hnil : (ptK l b k = []) ↔ n = 0 := by rw [← hn]; exact List.length_eq_zero_iff.symm
      have HSN := Lib.hid hsn; have HNI := Lib.hid hnil
      clear hsn HC hnil hn
      generalize l[k] = x at *
      obtain ⟨p, m⟩ := x
      simp only at d0 d1 HSN
      have hab := and_pk32 b k hb
      have hbo := (Below.refl wr.heap.size wr).alloc (Nat.le_refl _) (.cells #[.int .u32 (p.toNat : Int), .int .u32 (m.toNat : Int)] 27)
      have HWO := Lib.hid (wd_one wr p m); have HZ := Lib.hid hw.size
      have HO := Lib.hid ho; have HW := Lib.hid hw; have HO3 := Lib.hid (ho.below hbo); have HW3 := Lib.hid (hw.trans (hbo.mono hw.size))
      have hk3 : (k : Int) < (N : Int) := by omega
      have hk0 : (0 : Int) ≤ (k : Int) := by omega
      have hw8 : IntKind.i64.wrap ((N : Int) - 1) = (N : Int) - 1 := by rw [IntKind.wrap_i64]; omega
      clear ho hw hbo
      rcases ht : b.testBit k with _ | _
      · rw [ht] at hab HSN
        have hab : bits .and .u32 ((b : Int) / 2 ^ k) 1 = 0 := hab
        rw [if_neg (by decide)] at HSN
        by_cases hlast : k + 1 = N
        · have g1 : ((k : Int) == (N : Int) - 1) = true := by rw [beq_iff_eq]; omega
          by_cases hz : n = 0
          · have g2 : ((n : Int) == 0) = true := by rw [hz]; rfl
            rw [if_pos ⟨hlast, HNI.out.2 hz⟩] at HSN
            clear hz hlast ht
            go_wp2_with (at_builtin; refine wpList_app rfl (.tmp 30) (.tmp 35) 22 Tryd.underlying22 rfl w.heap.size (.slice oa n oc) (.slice (some ⟨wr.heap.size, 0, none⟩) 1 1) (ptK l b k) [(p, m)] rfl rfl HO3.out HWO.out (by rw [HNn.out]; simp; omega) (by have := HZ.out; simp only [World.size_alloc]; omega) ?_; intro v4 w4 ho4 hk4 hz4; have HO4 := Lib.hid ho4; have HW4 := Lib.hid (hk4 _ _ (Nat.le_refl _) HW3.out); clear ho4 hk4 hz4)
            go_roundw
            case rel => exact ⟨k + 1, by omega, by go_num, by rw [HSN.out]; exact HO4.out, HW4.out⟩
            case measure => simp [intOf]; omega
          · have g2 : ((n : Int) == 0) = false := by rw [beq_eq_false_iff_ne]; omega
            rw [if_neg (fun h => hz (HNI.out.1 h.2)), List.append_nil] at HSN
            clear hz hlast ht
            go_wp2_with fail
            go_roundw
            case rel => exact ⟨k + 1, by omega, by go_num, by rw [HSN.out]; exact HO.out, HW.out⟩
            case measure => simp [intOf]; omega
        · have g1 : ((k : Int) == (N : Int) - 1) = false := by rw [beq_eq_false_iff_ne]; omega
          rw [if_neg (fun h => hlast h.1), List.append_nil] at HSN
          clear hlast ht
          go_wp2_with fail
          go_roundw
          case rel => exact ⟨k + 1, by omega, by go_num, by rw [HSN.out]; exact HO.out, HW.out⟩
          case measure => simp [intOf]; omega
      · rw [ht] at hab HSN
        have hab : bits .and .u32 ((b : Int) / 2 ^ k) 1 = 1 := hab
        rw [if_pos rfl] at HSN
        clear ht
        go_wp2_with (at_builtin; refine wpList_app rfl (.tmp 30) (.tmp 35) 22 Tryd.underlying22 rfl w.heap.size (.slice oa n oc) (.slice (some ⟨wr.heap.size, 0, none⟩) 1 1) (ptK l b k) [(p, m)] rfl rfl HO3.out HWO.out (by rw [HNn.out]; simp; omega) (by have := HZ.out; simp only [World.size_alloc]; omega) ?_; intro v4 w4 ho4 hk4 hz4; have HO4 := Lib.hid ho4; have HW4 := Lib.hid (hk4 _ _ (Nat.le_refl _) HW3.out); clear ho4 hk4 hz4)
        go_roundw
        case rel => exact ⟨k + 1, by omega, by go_num, by rw [HSN.out]; exact HO4.out, HW4.out⟩
        case measure => simp [intOf]; omega
    · obtain rfl : k = N := by omega
      rw [HE.out] at ho
      have HO := Lib.hid ho; have HW := Lib.hid hw
      clear ho hw hlt HC
      go_wp2_with fail
      go_returns
      exact ⟨_, rfl, HO.out, HW.out⟩
end Go.Proofs.YtpnmapfabjdfjaaDoor

/-
  The sounds with some indexes.
-/
namespace Go.Proofs.YtpnmapfabjdfjaaDoor
open Go.RowKit Go.Sort
/-- Indexes that increase and exist. -/
def Inc (N : Nat) (xs : List Nat) : Prop := (∀ i (h : i < xs.length), xs[i] < N) ∧ ∀ i (h : i + 1 < xs.length), xs[i] < xs[i + 1]
theorem below_drewN {B : Nat} {a w : World} (h : Below B a w) (q : Nat) : Below B a (w.drewN q) := ⟨h.os, h.tape, h.output, h.size, h.block⟩
set_option maxRecDepth 100000 in
set_option maxHeartbeats 8000000 in
theorem at_any (l : List Snd) (xs : List Nat) (v u : Value) (w : World) (hl : l.length ≤ 1000000) (h : Wd w v l) (hu : Is w u xs) (hi : Inc l.length xs) (hx : xs.length ≤ 1000000) : Calls Tryd.prog 35 #[v, u] w fun e w' => ∃ m, e = .returned (.tuple #[m, .bool true]) ∧ Own w' w.heap.size m (xs.map fun i => l.getD i (0#32, 0#32)) ∧ Below w.heap.size w w' := by
  obtain ⟨ao, cap, rfl, c1, m1, hc⟩ := h.open
  obtain ⟨bo, bap, rfl, c2, m2, hd⟩ := hu.open
  obtain ⟨N, hN⟩ : ∃ N, l.length = N := ⟨_, rfl⟩
  obtain ⟨M, hM⟩ : ∃ M, xs.length = M := ⟨_, rfl⟩
  have HC := Lib.hid hc; have HN := Lib.hid hN; have HD := Lib.hid hd; have HM := Lib.hid hM
  rw [hN] at c1 hl hi ⊢
  rw [hM] at c2 hx ⊢
  have l1 : N ≤ 9223372036854775807 := by omega
  have l2 : M ≤ 9223372036854775807 := by omega
  have HI := Lib.hid hi
  clear hc h hN m1 hd hM hi hu m2
  go_enter Tryd.func35, Tryd.ntmps35
  go_wp2_with fail
  go_loopw [6, 7] (fun u i wr => ∃ k : Nat, k ≤ M ∧ i = .int .i64 (k : Int) ∧ Own wr w.heap.size u ((xs.take k).map fun i => l.getD i (0#32, 0#32)) ∧ Below w.heap.size w wr) (fun _ i _ => M - (intOf i).toNat)
  case atStart => exact ⟨0, by omega, rfl, Own.nil _ _, Below.refl _ _⟩
  case round =>
    obtain ⟨k, hk, rfl, ho, hw⟩ := hrel
    obtain ⟨oa, oc, hov, -, -, -⟩ := ho.wd.open
    rw [List.length_map, List.length_take, HM.out, Nat.min_eq_left hk] at hov
    subst hov
    by_cases hlt : k < M
    · have hkl : k < xs.length := by rw [HM.out]; exact hlt
      obtain ⟨g, hbo, lg, d0⟩ := HD.out k hkl
      subst hbo
      have d0 := (hw.cell (p := ⟨g, _, none⟩) lg).trans d0
      have hq := HI.out.1 k hkl
      have hsn : (xs.take (k + 1)).map (fun i => l.getD i (0#32, 0#32)) = (xs.take k).map (fun i => l.getD i (0#32, 0#32)) ++ [l.getD xs[k] (0#32, 0#32)] := by
        rw [List.take_succ_eq_append_getElem hkl, List.map_append]; rfl
      have hpr : 0 < k → ∃ q, wr.cell? ⟨g, k - 1, none⟩ = some (.int .i64 (q : Int)) ∧ (q : Int) < (xs[k] : Int) := fun h0 => by
        obtain ⟨g', hbo', lg', e0⟩ := HD.out (k - 1) (by omega)
        cases hbo'
        refine ⟨xs[k - 1], (hw.cell (p := ⟨g, _, none⟩) lg).trans e0, ?_⟩
        have := HI.out.2 (k - 1) (by omega)
        simp only [show k - 1 + 1 = k from by omega] at this
        exact_mod_cast this
      generalize xs[k] = q at *
      have hql : q < l.length := by rw [HN.out]; exact hq
      have hqd : l.getD q (0#32, 0#32) = l[q] := by simp [List.getD, List.getElem?_eq_getElem hql]
      rw [hqd] at hsn
      obtain ⟨b, off, hao, lb, c0, c1'⟩ := HC.out q hql
      subst hao
      have c0 := (hw.cell (p := ⟨b, _, none⟩) lb).trans c0
      have c1' := (hw.cell (p := ⟨b, _, none⟩) lb).trans c1'
      generalize l[q] = x at *
      obtain ⟨p, m⟩ := x
      simp only at c0 c1'
      have HSN := Lib.hid hsn
      have HO := Lib.hid ho; have HW := Lib.hid hw
      have hk3 : (k : Int) < (M : Int) := by omega
      have hk0 : (0 : Int) ≤ (k : Int) := by omega
      have hq3 : (q : Int) < (N : Int) := by omega
      have hq0 : (0 : Int) ≤ (q : Int) := by omega
      have g1 : decide ((q : Int) < 0) = false := decide_eq_false (by omega)
      have g2 : decide ((N : Int) ≤ (q : Int)) = false := decide_eq_false (by omega)
      have g2' : decide (N ≤ q) = false := decide_eq_false (by omega)
      have hwk : IntKind.i64.wrap ((k : Int) - 1) = (k : Int) - 1 := by rw [IntKind.wrap_i64]; omega
      have HPR := Lib.hid hpr
      have D0 := Lib.hid d0; have C0 := Lib.hid c0; have C1 := Lib.hid c1'
      clear hsn hqd hql hpr HC HD ho hw
      by_cases hk8 : 0 < k
      · obtain ⟨q', e0, hq'⟩ := HPR.out hk8
        have g3 : decide ((0 : Int) < (k : Int)) = true := decide_eq_true (by omega)
        have g3' : decide (0 < k) = true := decide_eq_true hk8
        have g4 : decide ((q : Int) ≤ (q' : Int)) = false := decide_eq_false (by omega)
        have g4' : decide (q ≤ q') = false := decide_eq_false (by omega)
        have hk5 : (k : Int) - 1 < (M : Int) := by omega
        have hk6 : (0 : Int) ≤ (k : Int) - 1 := by omega
        have hk7 : ((k : Int) - 1).toNat = k - 1 := by omega
        clear HPR
        go_wp2_with fail
        go_quiet (fail)
        have hbd : Below wr.heap.size wr (wr.drewN nq) := below_drewN (Below.refl _ _) nq
        have HO2 := Lib.hid (HO.out.below hbd); have HW2 := Lib.hid (HW.out.trans (hbd.mono HW.out.size))
        have D02 : (wr.drewN nq).cell? ⟨g, k, none⟩ = some (.int .i64 (q : Int)) := D0.out
        have C02 : (wr.drewN nq).cell? ⟨b, off + q * 2, none⟩ = some (.int .u32 (p.toNat : Int)) := C0.out
        have C12 : (wr.drewN nq).cell? ⟨b, off + q * 2 + 1, none⟩ = some (.int .u32 (m.toNat : Int)) := C1.out
        clear d0 c0 c1' hbd
        generalize (wr.drewN nq) = w3 at *
        have hbo := (Below.refl w3.heap.size w3).alloc (Nat.le_refl _) (.cells #[.int .u32 (p.toNat : Int), .int .u32 (m.toNat : Int)] 27)
        have HWO := Lib.hid (wd_one w3 p m); have HZ := Lib.hid HW2.out.size
        have HO3 := Lib.hid (HO2.out.below hbo); have HW3 := Lib.hid (HW2.out.trans (hbo.mono HW2.out.size))
        clear hbo
        go_wp2_with (at_builtin; refine wpList_app rfl (.tmp 44) (.tmp 52) 22 Tryd.underlying22 rfl w.heap.size (.slice oa k oc) (.slice (some ⟨w3.heap.size, 0, none⟩) 1 1) _ [(p, m)] rfl rfl HO3.out HWO.out (by rw [List.length_map, List.length_take]; simp; omega) (by have := HZ.out; simp only [World.size_alloc]; omega) ?_; intro v4 w4 ho4 hk4 hz4; have HO4 := Lib.hid ho4; have HW4 := Lib.hid (hk4 _ _ (Nat.le_refl _) HW3.out); clear ho4 hk4 hz4)
        go_roundw
        case rel => exact ⟨k + 1, by omega, by go_num, by rw [HSN.out]; exact HO4.out, HW4.out⟩
        case measure => simp [intOf]; omega
      · have g3 : decide ((0 : Int) < (k : Int)) = false := decide_eq_false (by omega)
        have g3' : decide (0 < k) = false := decide_eq_false hk8
        clear HPR
        go_wp2_with fail
        go_quiet (fail)
        have hbd : Below wr.heap.size wr (wr.drewN nq) := below_drewN (Below.refl _ _) nq
        have HO2 := Lib.hid (HO.out.below hbd); have HW2 := Lib.hid (HW.out.trans (hbd.mono HW.out.size))
        have D02 : (wr.drewN nq).cell? ⟨g, k, none⟩ = some (.int .i64 (q : Int)) := D0.out
        have C02 : (wr.drewN nq).cell? ⟨b, off + q * 2, none⟩ = some (.int .u32 (p.toNat : Int)) := C0.out
        have C12 : (wr.drewN nq).cell? ⟨b, off + q * 2 + 1, none⟩ = some (.int .u32 (m.toNat : Int)) := C1.out
        clear d0 c0 c1' hbd
        generalize (wr.drewN nq) = w3 at *
        have hbo := (Below.refl w3.heap.size w3).alloc (Nat.le_refl _) (.cells #[.int .u32 (p.toNat : Int), .int .u32 (m.toNat : Int)] 27)
        have HWO := Lib.hid (wd_one w3 p m); have HZ := Lib.hid HW2.out.size
        have HO3 := Lib.hid (HO2.out.below hbo); have HW3 := Lib.hid (HW2.out.trans (hbo.mono HW2.out.size))
        clear hbo
        go_wp2_with (at_builtin; refine wpList_app rfl (.tmp 44) (.tmp 52) 22 Tryd.underlying22 rfl w.heap.size (.slice oa k oc) (.slice (some ⟨w3.heap.size, 0, none⟩) 1 1) _ [(p, m)] rfl rfl HO3.out HWO.out (by rw [List.length_map, List.length_take]; simp; omega) (by have := HZ.out; simp only [World.size_alloc]; omega) ?_; intro v4 w4 ho4 hk4 hz4; have HO4 := Lib.hid ho4; have HW4 := Lib.hid (hk4 _ _ (Nat.le_refl _) HW3.out); clear ho4 hk4 hz4)
        go_roundw
        case rel => exact ⟨k + 1, by omega, by go_num, by rw [HSN.out]; exact HO4.out, HW4.out⟩
        case measure => simp [intOf]; omega
    · obtain rfl : k = M := by omega
      have hall : xs.take k = xs := List.take_of_length_le (by rw [HM.out]; exact Nat.le_refl _)
      rw [hall] at ho
      have HO := Lib.hid ho; have HW := Lib.hid hw
      clear ho hw hlt HC HD
      go_wp2_with fail
      go_ret2
      exact ⟨_, rfl, HO.out, HW.out⟩
end Go.Proofs.YtpnmapfabjdfjaaDoor

/-
  Closures, pure: what is common, what satisfies it, and the members.
-/
namespace Go.Proofs.YtpnmapfabjdfjaaDoor
open Go.RowKit Go.Sort
/-- The sounds that satisfy a condition. -/
def flt (c : Snd) (l : List Snd) : List Snd := l.filter fun x => sat x c
theorem msL_at (c : Snd) : ∀ (l pre : List Snd), ((msL c l pre.length).map fun i => (pre ++ l).getD i (0#32, 0#32)) = flt c l
  | [], _ => rfl
  | x :: l, pre => by
    have ih := msL_at c l (pre ++ [x])
    rw [List.append_assoc, List.singleton_append, List.length_append, List.length_singleton] at ih
    have hx : (pre ++ x :: l).getD pre.length (0#32, 0#32) = x := by simp [List.getD]
    unfold msL flt
    by_cases h : sat x c = true
    · rw [if_pos h, List.map_cons, hx, List.filter_cons_of_pos (p := fun x => sat x c) h, ih]; rfl
    · rw [if_neg h, List.filter_cons_of_neg (p := fun x => sat x c) h, ih]; rfl
theorem msL_flt (c : Snd) (l : List Snd) : ((msL c l 0).map fun i => l.getD i (0#32, 0#32)) = flt c l := msL_at c l []
theorem msL_fl_len (c : Snd) (l : List Snd) : (msL c l 0).length = (flt c l).length := by rw [← msL_flt, List.length_map]
theorem msL_ge (c : Snd) : ∀ (l : List Snd) (i : Nat), ∀ x ∈ msL c l i, i ≤ x
  | [], _, _, h => by simp [msL] at h
  | x :: l, i, y, h => by
    unfold msL at h
    split at h
    · rcases List.mem_cons.1 h with rfl | h
      · exact Nat.le_refl _
      · have := msL_ge c l (i + 1) y h; omega
    · have := msL_ge c l (i + 1) y h; omega
theorem msL_pw (c : Snd) : ∀ (l : List Snd) (i : Nat), (msL c l i).Pairwise (· < ·)
  | [], _ => by simp [msL]
  | x :: l, i => by
    unfold msL
    split
    · exact List.pairwise_cons.2 ⟨fun y hy => by have := msL_ge c l (i + 1) y hy; omega, msL_pw c l (i + 1)⟩
    · exact msL_pw c l (i + 1)
theorem msL_inc (c : Snd) (l : List Snd) : Inc l.length (msL c l 0) := by
  refine ⟨fun i h => ?_, fun i h => ?_⟩
  · have := msL_lt c l 0 _ (List.getElem_mem h); omega
  · exact (List.pairwise_iff_getElem.1 (msL_pw c l 0)) i (i + 1) (by omega) h (by omega)
theorem sat_iff (x c : Snd) : sat x c = true ↔ x.1 &&& c.1 = c.1 ∧ x.2 &&& c.2 = c.2 := by unfold sat; rw [Bool.and_eq_true, beq_iff_eq, beq_iff_eq]
theorem sat_refl (x : Snd) : sat x x = true := (sat_iff x x).2 ⟨by simp, by simp⟩
theorem sat_trans {x c d : Snd} (h1 : sat x c = true) (h2 : sat c d = true) : sat x d = true := by
  rw [sat_iff] at *
  exact ⟨by rw [← h2.1, ← BitVec.and_assoc, h1.1], by rw [← h2.2, ← BitVec.and_assoc, h1.2]⟩
theorem sat_anti {c d : Snd} (h1 : sat c d = true) (h2 : sat d c = true) : c = d := by
  rw [sat_iff] at *
  exact Prod.ext (by rw [← h2.1, BitVec.and_comm]; exact h1.1) (by rw [← h2.2, BitVec.and_comm]; exact h1.2)
theorem sat_me {a b c : Snd} (h1 : sat a c = true) (h2 : sat b c = true) : sat (meS a b) c = true := by
  rw [sat_iff] at *
  unfold meS
  exact ⟨by rw [BitVec.and_assoc, h2.1, h1.1], by rw [BitVec.and_assoc, h2.2, h1.2]⟩
theorem sat_fld (c : Snd) : ∀ (l : List Snd) (a : Snd), sat a c = true → (∀ x ∈ l, sat x c = true) → sat (l.foldl meS a) c = true
  | [], _, h, _ => h
  | x :: l, a, h, hl => sat_fld c l _ (sat_me h (hl x (by simp))) (fun y hy => hl y (by simp [hy]))
/-- What all sounds satisfy, their common values do. -/
theorem cm_sat {s : List Snd} {c : Snd} (hn : s ≠ []) (h : ∀ x ∈ s, sat x c = true) : sat (cmS s) c = true := by
  cases s with
  | nil => exact absurd rfl hn
  | cons x l => exact sat_fld c (x :: l) x (h x (by simp)) h
/-- More sounds have fewer values in common. -/
theorem cm_mono {s t : List Snd} (hn : s ≠ []) (h : ∀ x ∈ s, x ∈ t) : sat (cmS s) (cmS t) = true := cm_sat hn (fun x hx => sat_cmS x (h x hx))
theorem mem_flt {c x : Snd} {l : List Snd} : x ∈ flt c l ↔ x ∈ l ∧ sat x c = true := by unfold flt; rw [List.mem_filter]
/-- The closure of a closure is the same. -/
theorem cm_flt {l s : List Snd} (hn : s ≠ []) (h : ∀ x ∈ s, x ∈ l) : cmS (flt (cmS s) l) = cmS s := by
  have hin : ∀ x ∈ s, x ∈ flt (cmS s) l := fun x hx => mem_flt.2 ⟨h x hx, sat_cmS x hx⟩
  have hne : flt (cmS s) l ≠ [] := by
    cases s with
    | nil => exact absurd rfl hn
    | cons a t => intro e; have := hin a (by simp); rw [e] at this; simp at this
  exact sat_anti (cm_sat hne fun x hx => (mem_flt.1 hx).2) (cm_mono hn hin)
theorem flt_ne {l s : List Snd} (hn : s ≠ []) (h : ∀ x ∈ s, x ∈ l) : flt (cmS s) l ≠ [] := by
  cases s with
  | nil => exact absurd rfl hn
  | cons a t => intro e; have : a ∈ flt (cmS (a :: t)) l := mem_flt.2 ⟨h a (by simp), sat_cmS a (by simp)⟩; rw [e] at this; simp at this
theorem set_len' {l : List Snd} (h : l.Nodup) : (setS l).length = l.length := by
  refine Nat.le_antisymm (len_of_sub _ _ (setS_nodup l) (fun x hx => (mem_setS l x).1 hx)) (len_of_sub _ _ h (fun x hx => (mem_setS l x).2 hx))
theorem clo_zero {l s : List Snd} (hc : ckE l 256 = 0) (hn : s ≠ []) (h : ∀ x ∈ s, x ∈ l) : cloE l s = 0 := by
  unfold cloE
  rw [if_neg (fun e => e hc), if_neg (fun e => e.elim hn (fun e => e h))]
theorem clo_C {l s : List Snd} (h : cloE l s = 0) : cloC l s = cmS s := if_pos h
theorem clo_M {l s : List Snd} (h : cloE l s = 0) : cloM l s = msL (cmS s) l 0 := if_pos h
/-- The members of a closure are a natural class. -/
theorem is_flt {l s : List Snd} (hl : l.Nodup) (hc : ckE l 256 = 0) (hn : s ≠ []) (h : ∀ x ∈ s, x ∈ l) : isB l (flt (cmS s) l) = true := by
  have h0 := clo_zero hc (flt_ne hn h) (fun x hx => (mem_flt.1 hx).1)
  unfold isB
  rw [h0, clo_M h0, cm_flt hn h, msL_fl_len, set_len' (show (flt (cmS s) l).Nodup from hl.filter _)]
  simp
theorem isB_len {l s : List Snd} (h : cloE l s = 0) (hs : s.Nodup) : isB l s = decide ((cloM l s).length = s.length) := by
  unfold isB
  rw [h, set_len' hs]
  simp
theorem pk_sub (c : Nat) : ∀ (l : List Snd) (i : Nat), (pk c l i).Sublist l
  | [], _ => by simp [pk]
  | x :: l, i => by
    unfold pk
    split
    · exact (pk_sub c l (i + 1)).cons_cons x
    · exact (pk_sub c l (i + 1)).cons x
theorem pk_more {c d : Nat} (h : ∀ i, c.testBit i = true → d.testBit i = true) : ∀ (l : List Snd) (i : Nat), ∀ x ∈ pk c l i, x ∈ pk d l i
  | [], _, _, h => by simp [pk] at h
  | y :: l, i, x, hx => by
    unfold pk at hx ⊢
    by_cases hc : c.testBit i = true
    · rw [if_pos hc] at hx
      rw [if_pos (h i hc)]
      rcases List.mem_cons.1 hx with rfl | hx
      · simp
      · exact List.mem_cons_of_mem _ (pk_more h l (i + 1) x hx)
    · rw [if_neg hc] at hx
      have := pk_more h l (i + 1) x hx
      split
      · exact List.mem_cons_of_mem _ this
      · exact this
theorem ptL_ne {l : List Snd} (b : Nat) (h : l ≠ []) : ptL l b ≠ [] := by
  unfold ptL
  split
  · intro e
    have := congrArg List.length e
    rw [List.length_drop] at this
    have := List.length_pos_iff.2 h
    simp at *
    omega
  · assumption
theorem ptL_sub (l : List Snd) (b : Nat) : (ptL l b).Sublist l := by
  unfold ptL
  split
  · exact List.drop_sublist _ _
  · exact pk_sub b l 0
theorem ptL_mem {l : List Snd} {b : Nat} : ∀ x ∈ ptL l b, x ∈ l := fun _ h => (ptL_sub l b).subset h
theorem ptL_len (l : List Snd) (b : Nat) : (ptL l b).length ≤ l.length := (ptL_sub l b).length_le
theorem ptL_more {l : List Snd} {c d : Nat} (h0 : c ≠ 0) (hc : c < 2 ^ l.length) (h : ∀ i, c.testBit i = true → d.testBit i = true) : ∀ x ∈ ptL l c, x ∈ ptL l d := by
  have h1 := pk_ne h0 hc
  have h2 : pk d l 0 ≠ [] := by
    obtain ⟨x, hx⟩ := List.exists_mem_of_ne_nil _ h1
    intro e
    have := pk_more h l 0 x hx
    rw [e] at this
    simp at this
  unfold ptL
  rw [if_neg h1, if_neg h2]
  exact pk_more h l 0
end Go.Proofs.YtpnmapfabjdfjaaDoor

/-
  The search for the shortest condition: what it finds, and when (pure).
-/
namespace Go.Proofs.YtpnmapfabjdfjaaDoor
open Go.RowKit Go.Sort
/-- The bit of a crowd. -/
def bitC (c : Cr) (i : Nat) : Bool := if i < 64 then c.1.getLsbD i else if i < 128 then c.2.1.getLsbD (i - 64) else if i < 192 then c.2.2.1.getLsbD (i - 128) else c.2.2.2.getLsbD (i - 192)
theorem bitC_ext {c d : Cr} (h : ∀ i, i < 256 → bitC c i = bitC d i) : c = d := by
  obtain ⟨a0, a1, a2, a3⟩ := c
  obtain ⟨b0, b1, b2, b3⟩ := d
  have e0 : a0 = b0 := BitVec.eq_of_getLsbD_eq fun i hi => by have := h i (by omega); simpa [bitC, hi] using this
  have e1 : a1 = b1 := BitVec.eq_of_getLsbD_eq fun i hi => by
    have := h (64 + i) (by omega)
    simpa [bitC, show ¬ 64 + i < 64 by omega, show 64 + i < 128 by omega] using this
  have e2 : a2 = b2 := BitVec.eq_of_getLsbD_eq fun i hi => by
    have := h (128 + i) (by omega)
    simpa [bitC, show ¬ 128 + i < 64 by omega, show ¬ 128 + i < 128 by omega, show 128 + i < 192 by omega] using this
  have e3 : a3 = b3 := BitVec.eq_of_getLsbD_eq fun i hi => by
    have := h (192 + i) (by omega)
    simpa [bitC, show ¬ 192 + i < 64 by omega, show ¬ 192 + i < 128 by omega, show ¬ 192 + i < 192 by omega] using this
  rw [e0, e1, e2, e3]
theorem bitC_me (c d : Cr) (i : Nat) : bitC (meC c d) i = (bitC c i && bitC d i) := by
  unfold bitC meC
  simp only
  split
  · rw [BitVec.getLsbD_and]
  · split
    · rw [BitVec.getLsbD_and]
    · split
      · rw [BitVec.getLsbD_and]
      · rw [BitVec.getLsbD_and]
theorem bitC_z (i : Nat) : bitC zC i = false := by unfold bitC zC; simp
theorem crC_fold (q j : Nat) (hj : j < 64) : ∀ (xs : List Nat) (s : BitVec 64), (xs.foldl (fun s i => if i / 64 = q then s ||| (1#64 <<< (i % 64)) else s) s).getLsbD j = (s.getLsbD j || decide (q * 64 + j ∈ xs))
  | [], s => by simp
  | x :: xs, s => by
    rw [List.foldl_cons, crC_fold q j hj xs]
    by_cases hq : x / 64 = q
    · rw [if_pos hq, BitVec.getLsbD_or, Bool.or_assoc]
      congr 1
      have e : (1#64 <<< (x % 64)).getLsbD j = decide (j = x % 64) := by
        rw [BitVec.getLsbD_shiftLeft]
        by_cases h1 : j < x % 64
        · rw [decide_eq_true h1, decide_eq_false (show ¬ j = x % 64 by omega)]; simp
        · rw [decide_eq_false h1]
          by_cases h2 : j = x % 64
          · subst h2; simp; omega
          · have : j - x % 64 ≠ 0 := by omega
            rw [decide_eq_false h2]
            simp [BitVec.getLsbD_one, this]
      rw [e, ← Bool.decide_or]
      apply decide_eq_decide.2
      rw [List.mem_cons]
      constructor
      · rintro (h | h)
        · exact .inl (by omega)
        · exact .inr h
      · rintro (h | h)
        · exact .inl (by omega)
        · exact .inr h
    · rw [if_neg hq]
      congr 1
      apply decide_eq_decide.2
      rw [List.mem_cons]
      exact ⟨.inr, fun h => h.elim (fun h => absurd (by omega) hq) id⟩
theorem crC_bit (q : Nat) (xs : List Nat) (j : Nat) (hj : j < 64) : (crC q xs).getLsbD j = decide (q * 64 + j ∈ xs) := by
  unfold crC
  rw [crC_fold q j hj]
  simp
theorem bitC_crT (xs : List Nat) (i : Nat) (hi : i < 256) : bitC (crT xs) i = decide (i ∈ xs) := by
  unfold bitC crT
  simp only
  split
  · rw [crC_bit 0 xs i (by omega)]; simp
  · split
    · rw [crC_bit 1 xs (i - 64) (by omega)]; rw [show 1 * 64 + (i - 64) = i from by omega]
    · split
      · rw [crC_bit 2 xs (i - 128) (by omega)]; rw [show 2 * 64 + (i - 128) = i from by omega]
      · rw [crC_bit 3 xs (i - 192) (by omega)]; rw [show 3 * 64 + (i - 192) = i from by omega]
/-- Crowds tell lists of indexes apart. -/
theorem crT_mem {xs ys : List Nat} (h : crT xs = crT ys) (i : Nat) (hi : i < 256) : i ∈ xs ↔ i ∈ ys := by
  have := congrArg (fun c => bitC c i) h
  simp only [bitC_crT _ i hi] at this
  exact decide_eq_decide.1 this
/-- The crowd is that of the sounds with a property. -/
def Rep (o : List Snd) (p : Snd → Bool) (c : Cr) : Prop := ∀ i, i < 256 → bitC c i = (decide (i < o.length) && p (o.getD i (0#32, 0#32)))
theorem mem_msL (c : Snd) : ∀ (l pre : List Snd) (j : Nat), j ∈ msL c l pre.length ↔ pre.length ≤ j ∧ j < pre.length + l.length ∧ sat ((pre ++ l).getD j (0#32, 0#32)) c = true
  | [], pre, j => by simp [msL]; omega
  | x :: l, pre, j => by
    have ih := mem_msL c l (pre ++ [x]) j
    rw [List.append_assoc, List.singleton_append, List.length_append, List.length_singleton] at ih
    have hx : (pre ++ x :: l).getD pre.length (0#32, 0#32) = x := by simp [List.getD]
    unfold msL
    rw [List.length_cons]
    by_cases h : sat x c = true
    · rw [if_pos h, List.mem_cons, ih]
      constructor
      · rintro (rfl | h2)
        · exact ⟨Nat.le_refl _, by omega, by rw [hx]; exact h⟩
        · exact ⟨by omega, by omega, h2.2.2⟩
      · intro h2
        by_cases hj : j = pre.length
        · exact .inl hj
        · exact .inr ⟨by omega, by omega, h2.2.2⟩
    · rw [if_neg h, ih]
      constructor
      · intro h2; exact ⟨by omega, by omega, h2.2.2⟩
      · intro h2
        have hj : j ≠ pre.length := fun e => h (by have := h2.2.2; rw [e, hx] at this; exact this)
        exact ⟨by omega, by omega, h2.2.2⟩
theorem mem_msL0 (c : Snd) (l : List Snd) (j : Nat) : j ∈ msL c l 0 ↔ j < l.length ∧ sat (l.getD j (0#32, 0#32)) c = true := by
  have := mem_msL c l [] j
  simpa using this
theorem rep_thr (o : List Snd) (v : Snd) : Rep o (fun x => sat x v) (thr o v) := fun i hi => by
  unfold thr
  rw [bitC_crT _ i hi, Bool.eq_iff_iff, decide_eq_true_iff, Bool.and_eq_true, decide_eq_true_iff]
  exact mem_msL0 v o i
theorem sat_zero (x : Snd) : sat x (0#32, 0#32) = true := by unfold sat; simp
theorem Rep.me {o : List Snd} {p q : Snd → Bool} {c d : Cr} (h1 : Rep o p c) (h2 : Rep o q d) : Rep o (fun x => p x && q x) (meC c d) := fun i hi => by
  rw [bitC_me, h1 i hi, h2 i hi]
  cases decide (i < o.length) <;> simp
theorem Rep.congr {o : List Snd} {p q : Snd → Bool} {c : Cr} (h1 : Rep o p c) (h : ∀ x, p x = q x) : Rep o q c := fun i hi => by rw [h1 i hi, h]
theorem rep_bhd (o : List Snd) : ∀ vs, Rep o (fun x => vs.all fun v => sat x v) (bhd o vs)
  | [] => (rep_thr o (0#32, 0#32)).congr fun x => by rw [sat_zero]; rfl
  | v :: vs => ((rep_thr o v).me (rep_bhd o vs)).congr fun x => by rw [List.all_cons]
theorem Rep.zero {o : List Snd} {p : Snd → Bool} {c : Cr} (h : Rep o p c) (hl : o.length ≤ 256) : c = zC ↔ ∀ x ∈ o, p x = false := by
  constructor
  · intro e x hx
    obtain ⟨i, hi, rfl⟩ := List.getElem_of_mem hx
    have := h i (by omega)
    rw [e, bitC_z, decide_eq_true hi, Bool.true_and] at this
    simpa [List.getD, List.getElem?_eq_getElem hi] using this.symm
  · intro hp
    refine bitC_ext fun i hi => ?_
    rw [h i hi, bitC_z]
    by_cases hl : i < o.length
    · rw [decide_eq_true hl, Bool.true_and]
      have := hp _ (List.getElem_mem hl)
      simpa [List.getD, List.getElem?_eq_getElem hl] using this
    · rw [decide_eq_false hl, Bool.false_and]
/-- The values t keep out all others of the crowd. -/
def Kills (o : List Snd) (p : Snd → Bool) (t : List Snd) : Prop := ∀ x ∈ o, p x = true → (t.all fun v => sat x v) = false
theorem srch_some {o : List Snd} (hl : o.length ≤ 256) : ∀ (vs : List Snd) (m : Nat) (p : Snd → Bool) (left : Cr) (t : List Snd), Rep o p left → t.Sublist vs → t.length ≤ m → Kills o p t → (srch o vs m left).isSome = true := by
  intro vs
  induction vs with
  | nil =>
    intro m p left t hr ht _ hk
    have : t = [] := by simpa using ht
    subst this
    have hz : left = zC := (hr.zero hl).2 fun x hx => by
      by_cases h : p x = true
      · have := hk x hx h; simp at this
      · simpa using h
    unfold srch
    rw [if_pos hz]; rfl
  | cons v vs ih =>
    intro m p left t hr ht hm hk
    by_cases hz : left = zC
    · unfold srch; rw [if_pos hz]; rfl
    have hne : ¬ ∀ x ∈ o, p x = false := fun h => hz ((hr.zero hl).2 h)
    have ht0 : t ≠ [] := fun e => hne fun x hx => by
      by_cases h : p x = true
      · have := hk x hx h; rw [e] at this; simp at this
      · simpa using h
    have hm0 : m ≠ 0 := fun e => ht0 (List.eq_nil_of_length_eq_zero (by omega))
    have hs : srch o (v :: vs) m left = srL o (v :: vs) m left := by unfold srch; rw [if_neg hz, if_neg hm0]
    have hs2 : srch o vs m left = srL o vs m left := by unfold srch; rw [if_neg hz, if_neg hm0]
    rw [hs, srL_cons]
    have hb : meC left (bhd o (v :: vs)) = zC := ((hr.me (rep_bhd o (v :: vs))).zero hl).2 fun x hx => by
      by_cases h : p x = true
      · have h2 := hk x hx h
        rw [h, Bool.true_and]
        rw [List.all_eq_false] at h2 ⊢
        obtain ⟨y, hy, h3⟩ := h2
        exact ⟨y, ht.subset hy, h3⟩
      · simp [h]
    rw [if_pos hb]
    by_cases hin : ∃ t', t = v :: t' ∧ t'.Sublist vs
    · obtain ⟨t', rfl, ht'⟩ := hin
      have h1 := ih (m - 1) _ _ t' (hr.me (rep_thr o v)) ht' (by simp at hm; omega) (fun x hx h => by
        rw [Bool.and_eq_true] at h
        have := hk x hx h.1
        rw [List.all_cons, h.2, Bool.true_and] at this
        exact this)
      cases hq : srch o vs (m - 1) (meC left (thr o v)) with
      | some r => rfl
      | none => rw [hq] at h1; cases h1
    · have ht2 : t.Sublist vs := by
        cases ht with
        | cons _ h => exact h
        | cons_cons _ h => exact absurd ⟨_, rfl, h⟩ hin
      have h1 := ih m p left t hr ht2 hm hk
      cases hq : srch o vs (m - 1) (meC left (thr o v)) with
      | some r => rfl
      | none => rw [← hs2]; exact h1
/-- The condition that has just these values. -/
def unL (t : List Snd) : Snd := t.foldr uniS (0#32, 0#32)
theorem srch_found {o : List Snd} (hl : o.length ≤ 256) : ∀ (vs : List Snd) (m : Nat) (p : Snd → Bool) (left : Cr) (r : Snd), Rep o p left → srch o vs m left = some r → ∃ t, t.Sublist vs ∧ t.length ≤ m ∧ r = unL t ∧ Kills o p t := by
  have hzc : ∀ (p : Snd → Bool) (left : Cr), Rep o p left → left = zC → Kills o p [] := fun p left hr hz x hx h => by
    have := (hr.zero hl).1 hz x hx
    rw [h] at this; cases this
  intro vs
  induction vs with
  | nil =>
    intro m p left r hr h
    unfold srch at h
    by_cases hz : left = zC
    · rw [if_pos hz] at h
      obtain rfl := Option.some.inj h
      exact ⟨[], List.Sublist.refl _, Nat.zero_le _, rfl, hzc p left hr hz⟩
    · rw [if_neg hz] at h
      split at h
      · cases h
      · simp [srL] at h
  | cons v vs ih =>
    intro m p left r hr h
    by_cases hz : left = zC
    · unfold srch at h
      rw [if_pos hz] at h
      obtain rfl := Option.some.inj h
      exact ⟨[], List.nil_sublist _, Nat.zero_le _, rfl, hzc p left hr hz⟩
    by_cases hm0 : m = 0
    · unfold srch at h
      rw [if_neg hz, if_pos hm0] at h
      cases h
    have hs : srch o (v :: vs) m left = srL o (v :: vs) m left := by unfold srch; rw [if_neg hz, if_neg hm0]
    have hs2 : srch o vs m left = srL o vs m left := by unfold srch; rw [if_neg hz, if_neg hm0]
    rw [hs, srL_cons] at h
    split at h
    · cases hq : srch o vs (m - 1) (meC left (thr o v)) with
      | some r' =>
        rw [hq] at h
        obtain rfl := Option.some.inj h
        obtain ⟨t, h1, h2, h3, h4⟩ := ih _ _ _ _ (hr.me (rep_thr o v)) hq
        refine ⟨v :: t, h1.cons_cons v, by simp; omega, by rw [h3]; rfl, fun x hx hp => ?_⟩
        rw [List.all_cons]
        by_cases hv : sat x v = true
        · rw [hv, Bool.true_and]; exact h4 x hx (by simp only []; rw [hp, hv]; rfl)
        · simp [hv]
      | none =>
        rw [hq] at h
        simp only at h
        rw [← hs2] at h
        obtain ⟨t, h1, h2, h3, h4⟩ := ih _ _ _ _ hr h
        exact ⟨t, h1.cons v, h2, h3, h4⟩
    · cases h
end Go.Proofs.YtpnmapfabjdfjaaDoor

/-
  The shortest condition: its members, and that none of its values can be left out (pure).
-/
namespace Go.Proofs.YtpnmapfabjdfjaaDoor
open Go.RowKit Go.Sort
theorem sat_bits (x c : Snd) : sat x c = true ↔ ∀ j, j < 32 → (c.1.getLsbD j = true → x.1.getLsbD j = true) ∧ (c.2.getLsbD j = true → x.2.getLsbD j = true) := by
  rw [sat_iff]
  constructor
  · rintro ⟨h1, h2⟩ j hj
    refine ⟨fun h => ?_, fun h => ?_⟩
    · have := congrArg (fun y => y.getLsbD j) h1
      simp only [BitVec.getLsbD_and] at this
      rw [h, Bool.and_true] at this
      exact this
    · have := congrArg (fun y => y.getLsbD j) h2
      simp only [BitVec.getLsbD_and] at this
      rw [h, Bool.and_true] at this
      exact this
  · intro h
    refine ⟨BitVec.eq_of_getLsbD_eq fun j hj => ?_, BitVec.eq_of_getLsbD_eq fun j hj => ?_⟩
    · rw [BitVec.getLsbD_and]
      cases hc : c.1.getLsbD j
      · simp
      · rw [(h j hj).1 hc]; rfl
    · rw [BitVec.getLsbD_and]
      cases hc : c.2.getLsbD j
      · simp
      · rw [(h j hj).2 hc]; rfl
theorem unL_bits : ∀ (t : List Snd) (j : Nat), (unL t).1.getLsbD j = t.any (fun v => v.1.getLsbD j) ∧ (unL t).2.getLsbD j = t.any (fun v => v.2.getLsbD j)
  | [], j => by simp [unL]
  | v :: t, j => by
    have ih := unL_bits t j
    have e : unL (v :: t) = uniS v (unL t) := rfl
    rw [e, List.any_cons, List.any_cons, ← ih.1, ← ih.2]
    unfold uniS
    exact ⟨by rw [BitVec.getLsbD_or], by rw [BitVec.getLsbD_or]⟩
theorem sat_uni (x a b : Snd) : sat x (uniS a b) = (sat x a && sat x b) := by
  rw [Bool.eq_iff_iff, Bool.and_eq_true, sat_bits, sat_bits, sat_bits]
  unfold uniS
  simp only [BitVec.getLsbD_or, Bool.or_eq_true]
  constructor
  · intro h
    exact ⟨fun j hj => ⟨fun h1 => (h j hj).1 (.inl h1), fun h1 => (h j hj).2 (.inl h1)⟩, fun j hj => ⟨fun h1 => (h j hj).1 (.inr h1), fun h1 => (h j hj).2 (.inr h1)⟩⟩
  · rintro ⟨h1, h2⟩ j hj
    exact ⟨fun h => h.elim (h1 j hj).1 (h2 j hj).1, fun h => h.elim (h1 j hj).2 (h2 j hj).2⟩
theorem sat_unL (x : Snd) : ∀ t : List Snd, sat x (unL t) = t.all (fun v => sat x v)
  | [] => by rw [List.all_nil]; exact sat_zero x
  | v :: t => by rw [List.all_cons, ← sat_unL x t]; exact sat_uni x v (unL t)
theorem oneV_bits (c : Snd) (k j : Nat) (hk : k < 32) : (oneV c k).1.getLsbD j = (c.1.getLsbD j && decide (j = k)) ∧ (oneV c k).2.getLsbD j = (c.2.getLsbD j && decide (j = k)) := by
  have e : (1#32 <<< k) = bit k := rfl
  unfold oneV
  rw [e]
  exact ⟨by rw [BitVec.getLsbD_and, bit_get k j hk], by rw [BitVec.getLsbD_and, bit_get k j hk]⟩
theorem sgL_mem (c : Snd) : ∀ n, ∀ v ∈ sgL c n, ∃ k, k < n ∧ v = oneV c k
  | 0, v, h => by simp [sgL] at h
  | n + 1, v, h => by
    unfold sgL at h
    rcases List.mem_append.1 h with h | h
    · obtain ⟨k, hk, e⟩ := sgL_mem c n v h
      exact ⟨k, by omega, e⟩
    · split at h
      · simp at h
      · rw [List.mem_singleton] at h
        exact ⟨n, by omega, h⟩
theorem sgL_bits (c : Snd) (j : Nat) : ∀ n, n ≤ 32 → (sgL c n).any (fun v => v.1.getLsbD j) = (c.1.getLsbD j && decide (j < n)) ∧ (sgL c n).any (fun v => v.2.getLsbD j) = (c.2.getLsbD j && decide (j < n))
  | 0, _ => by simp [sgL]
  | n + 1, h => by
    have ih := sgL_bits c j n (by omega)
    have hb := oneV_bits c n j (by omega)
    have hone : ∀ (f : Snd → Bool), f (0#32, 0#32) = false → (if oneV c n = (0#32, 0#32) then [] else [oneV c n]).any f = f (oneV c n) := fun f hf => by
      split
      · rename_i e; rw [e, hf]; rfl
      · simp
    have hd : decide (j < n + 1) = (decide (j < n) || decide (j = n)) := by
      rw [← Bool.decide_or]
      exact decide_eq_decide.2 (by omega)
    unfold sgL
    rw [List.any_append, List.any_append, ih.1, ih.2, hone _ (by simp), hone _ (by simp), hb.1, hb.2, hd, Bool.and_or_distrib_left, Bool.and_or_distrib_left]
    exact ⟨rfl, rfl⟩
theorem unL_sg {c : Snd} (hc : vld c.1 c.2 = true) : unL (sgL c 24) = c := by
  refine Prod.ext (BitVec.eq_of_getLsbD_eq fun j hj => ?_) (BitVec.eq_of_getLsbD_eq fun j hj => ?_)
  · rw [(unL_bits _ j).1, (sgL_bits c j 24 (by decide)).1]
    by_cases h : j < 24
    · rw [decide_eq_true h, Bool.and_true]
    · rw [(vld_high hc j hj (by omega)).1]; rfl
  · rw [(unL_bits _ j).2, (sgL_bits c j 24 (by decide)).2]
    by_cases h : j < 24
    · rw [decide_eq_true h, Bool.and_true]
    · rw [(vld_high hc j hj (by omega)).2]; rfl
/-- A condition without a feature. -/
def woS (r : Snd) (f : Nat) : Snd := (r.1 &&& ~~~bit f, r.2 &&& ~~~bit f)
/-- What is known of the shortest condition. -/
structure Sho (l : List Snd) (c r : Snd) : Prop where
  sub : sat c r = true
  mem : flt r l = flt c l
  all : ∀ f, f < 24 → getV r.1 r.2 f ≠ 0 → (flt c l).length < (flt (woS r f) l).length
theorem getV_ne {p m : BitVec 32} {k : Nat} (h : getV p m k ≠ 0) : p.getLsbD k = true ∨ m.getLsbD k = true := by
  unfold getV at h
  split at h
  · exact .inl (by assumption)
  · split at h
    · exact .inr (by assumption)
    · exact absurd rfl h
theorem mem_oth {l : List Snd} {c x : Snd} : x ∈ othL l c ↔ x ∈ l ∧ sat x c = false := by
  unfold othL
  rw [List.mem_filter, Bool.not_eq_true']
theorem flt_lt {l : List Snd} {c d : Snd} (h1 : ∀ x ∈ l, sat x c = true → sat x d = true) (h2 : ∃ x ∈ l, sat x c = false ∧ sat x d = true) : (flt c l).length < (flt d l).length := by
  induction l with
  | nil => obtain ⟨x, hx, _⟩ := h2; simp at hx
  | cons y l ih =>
    have hle : ∀ (l : List Snd), (∀ x ∈ l, sat x c = true → sat x d = true) → (flt c l).length ≤ (flt d l).length := by
      intro l
      induction l with
      | nil => intro _; exact Nat.le_refl _
      | cons z l ih2 =>
        intro h
        have := ih2 fun x hx => h x (List.mem_cons_of_mem _ hx)
        unfold flt at *
        by_cases hz : sat z c = true
        · rw [List.filter_cons_of_pos (p := fun x => sat x c) hz, List.filter_cons_of_pos (p := fun x => sat x d) (h z (by simp) hz)]
          simp; exact this
        · rw [List.filter_cons_of_neg (p := fun x => sat x c) hz]
          by_cases hz2 : sat z d = true
          · rw [List.filter_cons_of_pos (p := fun x => sat x d) hz2]; simp; omega
          · rw [List.filter_cons_of_neg (p := fun x => sat x d) hz2]; exact this
    have h3 := hle l fun x hx => h1 x (List.mem_cons_of_mem _ hx)
    unfold flt at *
    by_cases hy : sat y c = true
    · rw [List.filter_cons_of_pos (p := fun x => sat x c) hy, List.filter_cons_of_pos (p := fun x => sat x d) (h1 y (by simp) hy)]
      have := ih (fun x hx => h1 x (List.mem_cons_of_mem _ hx)) (by
        obtain ⟨x, hx, hc, hd⟩ := h2
        rcases List.mem_cons.1 hx with rfl | hx
        · rw [hy] at hc; cases hc
        · exact ⟨x, hx, hc, hd⟩)
      simp; omega
    · rw [List.filter_cons_of_neg (p := fun x => sat x c) hy]
      by_cases hy2 : sat y d = true
      · rw [List.filter_cons_of_pos (p := fun x => sat x d) hy2]; simp; omega
      · rw [List.filter_cons_of_neg (p := fun x => sat x d) hy2]
        refine ih (fun x hx => h1 x (List.mem_cons_of_mem _ hx)) ?_
        obtain ⟨x, hx, hc, hd⟩ := h2
        rcases List.mem_cons.1 hx with rfl | hx
        · exact absurd hd hy2
        · exact ⟨x, hx, hc, hd⟩
/-- The crowd of all others. -/
theorem rep_root (o : List Snd) : Rep o (fun _ => true) (bhd o []) := (rep_bhd o []).congr fun _ => rfl
theorem sho_of {l : List Snd} {c : Snd} (hl : l.length ≤ 256) (t : List Snd) (ht : t.Sublist (sgL c 24)) (hk : Kills (othL l c) (fun _ => true) t) (hc : sat c (unL t) = true)
    (hn : ∀ m, m < t.length → srch (othL l c) (sgL c 24) m (bhd (othL l c) []) = none) : Sho l c (unL t) := by
  have ho : (othL l c).length ≤ 256 := Nat.le_trans (List.length_filter_le _ _) hl
  have hmem : ∀ x ∈ l, sat x (unL t) = sat x c := fun x hx => by
    rw [Bool.eq_iff_iff]
    constructor
    · intro h
      refine Classical.byContradiction fun hx2 => ?_
      have := hk x (mem_oth.2 ⟨hx, by simpa using hx2⟩) rfl
      rw [← sat_unL, h] at this
      cases this
    · intro h; exact sat_trans h hc
  refine ⟨hc, List.filter_congr fun x hx => hmem x hx, fun f hf hg => ?_⟩
  have hall : ∀ v ∈ t, ∃ k, k < 24 ∧ v = oneV c k := fun v hv => sgL_mem c 24 v (ht.subset hv)
  have hwo : ∀ j, j < 32 → ((woS (unL t) f).1.getLsbD j = ((unL t).1.getLsbD j && !decide (j = f))) ∧ ((woS (unL t) f).2.getLsbD j = ((unL t).2.getLsbD j && !decide (j = f))) := fun j hj => by
    unfold woS
    simp only [BitVec.getLsbD_and, BitVec.getLsbD_not, bit_get f j (show f < 32 by omega), hj, decide_true, Bool.true_and]
    exact ⟨trivial, trivial⟩
  refine flt_lt (fun x hx h => ?_) ?_
  · refine sat_trans (hmem x hx ▸ h : sat x (unL t) = true) ?_
    rw [sat_bits]
    intro j hj
    rw [(hwo j hj).1, (hwo j hj).2, Bool.and_eq_true, Bool.and_eq_true]
    exact ⟨fun h => h.1, fun h => h.1⟩
  · refine Classical.byContradiction fun hno => ?_
    have hno : ∀ x ∈ l, sat x c = false → sat x (woS (unL t) f) = false := fun x hx h => by
      cases h2 : sat x (woS (unL t) f)
      · rfl
      · exact absurd ⟨x, hx, h, h2⟩ hno
    have hk2 : Kills (othL l c) (fun _ => true) (t.filter fun v => !decide (v = oneV c f)) := fun x hx _ => by
      obtain ⟨hx1, hx2⟩ := mem_oth.1 hx
      have h1 := hno x hx1 hx2
      refine Classical.byContradiction fun h2 => ?_
      have h2 : ((t.filter fun v => !decide (v = oneV c f)).all fun v => sat x v) = true := by
        cases hh : (t.filter fun v => !decide (v = oneV c f)).all fun v => sat x v
        · exact absurd hh h2
        · rfl
      rw [List.all_eq_true] at h2
      have : sat x (woS (unL t) f) = true := by
        rw [sat_bits]
        intro j hj
        rw [(hwo j hj).1, (hwo j hj).2, (unL_bits t j).1, (unL_bits t j).2, Bool.and_eq_true, Bool.and_eq_true]
        refine ⟨?_, ?_⟩
        · rintro ⟨ha, hj2⟩
          obtain ⟨v, hv, hvj⟩ := List.any_eq_true.1 ha
          have hne : v ≠ oneV c f := fun e => by
            rw [e, (oneV_bits c f j (by omega)).1, Bool.and_eq_true, decide_eq_true_iff] at hvj
            rw [hvj.2] at hj2
            simp at hj2
          have := h2 v (List.mem_filter.2 ⟨hv, by simpa using hne⟩)
          exact ((sat_bits x v).1 this j hj).1 hvj
        · rintro ⟨ha, hj2⟩
          obtain ⟨v, hv, hvj⟩ := List.any_eq_true.1 ha
          have hne : v ≠ oneV c f := fun e => by
            rw [e, (oneV_bits c f j (by omega)).2, Bool.and_eq_true, decide_eq_true_iff] at hvj
            rw [hvj.2] at hj2
            simp at hj2
          have := h2 v (List.mem_filter.2 ⟨hv, by simpa using hne⟩)
          exact ((sat_bits x v).1 this j hj).2 hvj
      rw [h1] at this
      cases this
    have hin : oneV c f ∈ t := by
      rcases getV_ne hg with h | h
      · rw [(unL_bits t f).1] at h
        obtain ⟨v, hv, hvj⟩ := List.any_eq_true.1 h
        obtain ⟨k, hk, rfl⟩ := hall v hv
        rw [(oneV_bits c k f (by omega)).1, Bool.and_eq_true, decide_eq_true_iff] at hvj
        rw [hvj.2]; exact hv
      · rw [(unL_bits t f).2] at h
        obtain ⟨v, hv, hvj⟩ := List.any_eq_true.1 h
        obtain ⟨k, hk, rfl⟩ := hall v hv
        rw [(oneV_bits c k f (by omega)).2, Bool.and_eq_true, decide_eq_true_iff] at hvj
        rw [hvj.2]; exact hv
    have hlen : (t.filter fun v => !decide (v = oneV c f)).length < t.length := by
      refine Classical.byContradiction fun hge => ?_
      have he := (List.filter_sublist (p := fun v => !decide (v = oneV c f)) (l := t)).eq_of_length_le (by omega)
      have := (List.mem_filter.1 (show oneV c f ∈ t.filter fun v => !decide (v = oneV c f) by rw [he]; exact hin)).2
      simp at this
    have h1 := srch_some ho (sgL c 24) (t.length - 1) _ _ _ (rep_root (othL l c)) (List.filter_sublist.trans ht) (by omega) hk2
    rw [hn (t.length - 1) (by omega)] at h1
    cases h1
/-- The shortest condition that the program finds. -/
theorem shS_sho {l : List Snd} {c : Snd} (hl : l.length ≤ 256) (hc : vld c.1 c.2 = true) : Sho l c (shS l c) := by
  have ho : (othL l c).length ≤ 256 := Nat.le_trans (List.length_filter_le _ _) hl
  unfold shS
  cases hf : (List.range (sgL c 24).length).findSome? (fun n => srch (othL l c) (sgL c 24) n (bhd (othL l c) [])) with
  | none =>
    rw [List.findSome?_eq_none_iff] at hf
    have h := sho_of (l := l) (c := c) hl (sgL c 24) (List.Sublist.refl _) (fun x hx _ => by
      rw [← sat_unL, unL_sg hc]
      exact (mem_oth.1 hx).2) (by rw [unL_sg hc]; exact sat_refl c) (fun m hm => hf m (List.mem_range.2 hm))
    rw [unL_sg hc] at h
    exact h
  | some r =>
    obtain ⟨l1, n, l2, he, hr, hb⟩ := List.findSome?_eq_some_iff.1 hf
    obtain ⟨t, h1, h2, h3, h4⟩ := srch_found ho _ _ _ _ _ (rep_root (othL l c)) hr
    have hsub := srch_sub (fun v hv => sgL_sub c 24 v hv) hr
    have hcs : sat c r = true := (sat_iff c r).2 ⟨by rw [BitVec.and_comm]; exact hsub.1, by rw [BitVec.and_comm]; exact hsub.2⟩
    have hnl : ∀ m, m < n → m ∈ l1 := fun m hm => by
      have hln : n = l1.length := by
        have := congrArg (fun z => z[l1.length]?) he
        simp only [List.getElem?_append_right (Nat.le_refl _), Nat.sub_self] at this
        simp at this
        rw [List.getElem?_eq_some_iff] at this
        obtain ⟨_, h5⟩ := this
        simpa using h5.symm
      have h6 : l1 = (List.range (sgL c 24).length).take l1.length := by rw [he, List.take_left']; rfl
      rw [h6, List.take_range, List.mem_range]
      have h7 : l1.length ≤ (sgL c 24).length := by
        have := congrArg List.length he
        simp at this
        omega
      omega
    show Sho l c r
    rw [h3]
    exact sho_of hl t h1 h4 (by rw [← h3]; exact hcs) (fun m hm => hb m (hnl m (by omega)))
end Go.Proofs.YtpnmapfabjdfjaaDoor

/-
  A list of pairs of bytes: how it is read.
-/
namespace Go.Proofs.YtpnmapfabjdfjaaDoor
set_option maxRecDepth 100000
open Go.ChangeShapes Go.WideShapes Go.ChangeAt Go.RowKit Go.Joins
/-- A slice of pairs of bytes (an empty one may have any address). -/
def Pz (w : World) (v : Value) (l : List (Nat × Nat)) : Prop :=
  ((v = .slice none 0 0 ∨ ∃ aa, v = .slice (some aa) 0 0) ∧ l = []) ∨ ∃ b off cap, v = .slice (some ⟨b, off, none⟩) l.length cap ∧ l.length ≤ cap ∧ cap ≤ maxLen ∧ b < w.heap.size ∧ ∀ i (h : i < l.length), (w.cell? ⟨b, off + i * 2, none⟩ = some (.int .u8 (l[i].1 : Int)) ∧ w.cell? ⟨b, off + i * 2 + 1, none⟩ = some (.int .u8 (l[i].2 : Int))) ∧ l[i].1 ≤ 255 ∧ l[i].2 ≤ 255
theorem Pz.nil (w : World) : Pz w (.slice none 0 0) [] := .inl ⟨.inl rfl, rfl⟩
theorem Pz.below {w w' : World} {v : Value} {l : List (Nat × Nat)} (h : Pz w v l) (hb : Below w.heap.size w w') : Pz w' v l := by
  rcases h with h | ⟨b, off, cap, h1, hc, hm, h2, h3⟩
  · exact .inl h
  · exact .inr ⟨b, off, cap, h1, hc, hm, by have := hb.size; omega, fun i hi => ⟨⟨(hb.cell (p := ⟨b, off + i * 2, none⟩) h2).trans (h3 i hi).1.1, (hb.cell (p := ⟨b, off + i * 2 + 1, none⟩) h2).trans (h3 i hi).1.2⟩, (h3 i hi).2⟩⟩
theorem Pz.open {w : World} {v : Value} {l : List (Nat × Nat)} (h : Pz w v l) : ∃ ao cap, v = .slice ao l.length cap ∧ l.length ≤ cap ∧ cap ≤ maxLen ∧ (∀ i (_ : i < l.length), ∃ b off, ao = some ⟨b, off, none⟩ ∧ b < w.heap.size ∧ (w.cell? ⟨b, off + i * 2, none⟩ = some (.int .u8 (l[i].1 : Int)) ∧ w.cell? ⟨b, off + i * 2 + 1, none⟩ = some (.int .u8 (l[i].2 : Int))) ∧ l[i].1 ≤ 255 ∧ l[i].2 ≤ 255) := by
  rcases h with ⟨rfl | ⟨aa, rfl⟩, rfl⟩ | ⟨b, off, cap, rfl, hc, hm, hb, h3⟩
  · exact ⟨none, 0, rfl, by simp, by simp, fun i hi => by simp at hi⟩
  · exact ⟨some aa, 0, rfl, by simp, by simp, fun i hi => by simp at hi⟩
  · exact ⟨some ⟨b, off, none⟩, cap, rfl, hc, hm, fun i hi => ⟨b, off, rfl, hb, h3 i hi⟩⟩
/-- The two cells of a pair of bytes in memory. -/
theorem byte_cells {H : Type} {enc : TypeId × Value → H} {w : World} {base n : Nat} {spare : Nat → Bool} {held : Bool} {a : Addr} {y : DataW H × List MemPlace}
    (h : (w.cells? base a 2).bind (DataW.trod enc Tryd.prog w base spare held n 99) = some y) : ∃ s : Nat × Nat, (w.cell? a = some (.int .u8 (s.1 : Int)) ∧ w.cell? (a.add 1) = some (.int .u8 (s.2 : Int))) ∧ s.1 ≤ 255 ∧ s.2 ≤ 255 := by
  rw [Option.bind_eq_some_iff] at h
  obtain ⟨cs, hc, ht⟩ := h
  unfold World.cells? at hc
  split at hc
  · rw [show List.range 2 = [0, 1] from rfl] at hc
    simp only [List.mapM_cons, List.mapM_nil, Option.bind_eq_bind, Option.pure_def, Option.bind_eq_some_iff, Option.some.injEq] at hc
    obtain ⟨c0, h0, l1, ⟨c1, h1, l2, rfl, rfl⟩, rfl⟩ := hc
    obtain ⟨xs, m, _, _, _, hl, he⟩ := DataW.trod_array Tryd.underlying99 ht
    have k1 : Tryd.prog.cellsOf 5 = 1 := by kernel_rfl
    have t0 := he 0 (by decide)
    have t1 := he 1 (by decide)
    rw [k1, List.getElem?_eq_getElem (by omega)] at t0 t1
    simp at t0 t1
    obtain ⟨z0, e0, _, w0⟩ := DataW.trod_int Tryd.underlying5 t0
    obtain ⟨z1, e1, _, w1⟩ := DataW.trod_int Tryd.underlying5 t1
    have b0 := bounds_u8 w0
    have b1 := bounds_u8 w1
    simp at e0 e1
    subst e0; subst e1
    refine ⟨(z0.toNat, z1.toNat), ⟨?_, ?_⟩, by simp only []; omega, by simp only []; omega⟩
    · rw [show ((z0.toNat : Nat) : Int) = z0 from by omega]; simpa [Addr.add] using h0
    · rw [show ((z1.toNat : Nat) : Int) = z1 from by omega]; exact h1
  · cases hc
/-- How a list of pairs of bytes is read. -/
theorem open_pz {H : Type} {enc : TypeId × Value → H} {w : World} {base : Nat} {spare : Nat → Bool} {held : Bool} {r : Reach} {b0 : Nat} {v : Value} {d : DataW H} {p : List MemPlace}
    (hv : Value.okWide Tryd.prog w r b0 51 v) (h : DataW.Trod enc Tryd.prog w base spare held 51 v d p) : ∃ l : List (Nat × Nat), Pz w v l := by
  obtain ⟨fuel, hf⟩ := h
  have hk : Tryd.prog.cellsOf 99 = 2 := by kernel_rfl
  rcases DataW.trod_slice Tryd.underlying51 hf with ⟨h0, _⟩ | ⟨a, len, cap, elems, rest, n, _, hcs, _, _, hl, hm, hlen, hel, _, _⟩
  · simp [Value.cells] at h0
    obtain ⟨ao, ln, cp, rfl⟩ := okWide_slice Tryd.underlying51 hv
    simp at h0
    obtain ⟨rfl, rfl, rfl⟩ := h0
    exact ⟨[], Pz.nil w⟩
  · obtain ⟨ao, ln, cp, rfl⟩ := okWide_slice Tryd.underlying51 hv
    simp [Value.cells] at hcs
    obtain ⟨rfl, rfl, rfl⟩ := hcs
    have hok : Cell.ok Tryd.prog w r b0 51 (.slice (some a) ln cp) := by
      simpa [Value.okWide, Cell.okWide, Tryd.underlying51] using hv
    have hhas : ln ≤ cp ∧ (cp : Int) ≤ IntKind.i64.max ∧ w.has Tryd.prog r b0 a 99 cp := by
      simpa [Cell.ok, Tryd.underlying51] using hok
    obtain ⟨_, hsp, row, cells, hsh, _⟩ := hhas.2.2
    obtain ⟨ab, aoff, asp⟩ := a
    simp only at hsp
    subst hsp
    have hblk : ab < w.heap.size := by
      unfold World.shape? at hsh
      simp only at hsh
      rcases Nat.lt_or_ge ab w.heap.size with h1 | h1
      · exact h1
      · rw [Array.getElem?_eq_none h1] at hsh; cases hsh
    have each : ∀ i, i < ln → ∃ s : Nat × Nat, (w.cell? ⟨ab, aoff + i * 2, none⟩ = some (.int .u8 (s.1 : Int)) ∧ w.cell? ⟨ab, aoff + i * 2 + 1, none⟩ = some (.int .u8 (s.2 : Int))) ∧ s.1 ≤ 255 ∧ s.2 ≤ 255 := fun i hi => by
      have h1 := hel i hi
      rw [hk, List.getElem?_eq_getElem (by omega)] at h1
      obtain ⟨s, ⟨c0, c1⟩, b0, b1⟩ := byte_cells h1
      refine ⟨s, ⟨?_, ?_⟩, b0, b1⟩
      · rw [addr_add] at c0; exact c0
      · rw [addr_add, addr_add] at c1; exact c1
    obtain ⟨f, hf2⟩ : ∃ f : Nat → Nat × Nat, ∀ i, i < ln → (w.cell? ⟨ab, aoff + i * 2, none⟩ = some (.int .u8 ((f i).1 : Int)) ∧ w.cell? ⟨ab, aoff + i * 2 + 1, none⟩ = some (.int .u8 ((f i).2 : Int))) ∧ (f i).1 ≤ 255 ∧ (f i).2 ≤ 255 :=
      ⟨fun i => if h : i < ln then Classical.choose (each i h) else (0, 0), fun i hi => by simp only [dif_pos hi]; exact Classical.choose_spec (each i hi)⟩
    refine ⟨(List.range ln).map f, .inr ⟨ab, aoff, cp, by simp, by simpa using hl, hm, hblk, fun i hi => ?_⟩⟩
    have hi' : i < ln := by simpa using hi
    simpa using hf2 i hi'
end Go.Proofs.YtpnmapfabjdfjaaDoor

/-
  NaturalCubes: its inventories, and what they answer.
-/
namespace Go.Proofs.YtpnmapfabjdfjaaDoor
open Go.RowKit Go.Sort
/-- The corner x of the cube of K features. -/
def mkS (K x : Nat) : Snd := (BitVec.ofNat 32 x &&& 16777215#32, (BitVec.ofNat 32 (2 ^ K - 1) &&& 16777215#32) &&& ~~~(BitVec.ofNat 32 x))
def cubA (K x : Nat) : List Snd := (List.range x).map (mkS K)
def cubB (K j x : Nat) : List Snd := ((List.range x).filter fun i => i != j).map (mkS K)
theorem cubA_succ (K x : Nat) : cubA K (x + 1) = cubA K x ++ [mkS K x] := by unfold cubA; rw [List.range_succ, List.map_append]; rfl
theorem cubB_eq (K j : Nat) : cubB K j (j + 1) = cubB K j j := by unfold cubB; rw [List.range_succ, List.filter_append]; simp
theorem cubB_ne (K j x : Nat) (h : x ≠ j) : cubB K j (x + 1) = cubB K j x ++ [mkS K x] := by
  unfold cubB
  rw [List.range_succ, List.filter_append, List.map_append]
  have e : [x].filter (fun i => i != j) = [x] := by simp [h]
  rw [e]; rfl
theorem cubA_len (K x : Nat) : (cubA K x).length = x := by unfold cubA; rw [List.length_map, List.length_range]
theorem cubB_len (K j x : Nat) : (cubB K j x).length ≤ x := by
  unfold cubB
  rw [List.length_map]
  exact Nat.le_trans (List.length_filter_le _ _) (by rw [List.length_range]; exact Nat.le_refl _)
theorem made_k (K x : Nat) (hK : K ≤ 3) (hx : x < 8) (w : World) : Gives 42 #[.int .u32 (x : Int), .int .u32 ((2 ^ K - 1 : Nat) : Int)] w (.agg #[.int .u32 ((mkS K x).1.toNat : Int), .int .u32 ((mkS K x).2.toNat : Int)]) := by
  have h := made_any (BitVec.ofNat 32 x) (BitVec.ofNat 32 (2 ^ K - 1)) w
  have e1 : (BitVec.ofNat 32 x).toNat = x := by rw [BitVec.toNat_ofNat, Nat.mod_eq_of_lt (by omega)]
  have e2 : (BitVec.ofNat 32 (2 ^ K - 1)).toNat = 2 ^ K - 1 := by
    rw [BitVec.toNat_ofNat, Nat.mod_eq_of_lt]
    have : 2 ^ K ≤ 2 ^ 3 := Nat.pow_le_pow_right (by decide) hK
    omega
  rw [e1, e2] at h
  exact h
theorem q1 : ∀ K, K < 4 → 0 < K → ckE (cubA K (2 ^ K)) 12 = 0 ∧ cntN (cubA K (2 ^ K)) = ((3 ^ K : Nat) : Int) ∧ ckE (cubA K (2 ^ K)) 256 = 0 ∧ gapG (cubA K (2 ^ K)) = [] := by decide +kernel
theorem q2 : ∀ K, K < 4 → ∀ j, j < 2 ^ K → ckE (cubB K j (2 ^ K)) 256 = 0 := by decide +kernel
theorem q3 : ∀ j, j < 2 → gapG (cubB 1 j 2) = [] := by decide +kernel
theorem q42 : ∀ j, j < 4 → ((gapG (cubB 2 j 4)).all fun g => decide (g = mkS 2 j)) = true ∧ mkS 2 j ∈ gapG (cubB 2 j 4) := by decide +kernel
theorem q43 : ∀ j, j < 8 → ((gapG (cubB 3 j 8)).all fun g => decide (g = mkS 3 j)) = true ∧ mkS 3 j ∈ gapG (cubB 3 j 8) := by decide +kernel
theorem gaps_none {l Y : List Snd} (h : gapG l = []) (hm : ∀ g, g ∈ Y ↔ gapP l g) : Y = [] := by
  cases Y with
  | nil => rfl
  | cons g t =>
    have := (hm g).1 (by simp)
    rw [← mem_gapG, h] at this
    simp at this
theorem gaps_one {l Y : List Snd} {a : Snd} (h1 : ((gapG l).all fun g => decide (g = a)) = true) (h2 : a ∈ gapG l) (hi : IncS Y) (hm : ∀ g, g ∈ Y ↔ gapP l g) : Y = [a] := inc_one hi (fun g => by
  rw [hm g, ← mem_gapG]
  exact ⟨fun h => of_decide_eq_true (List.all_eq_true.1 h1 g h), fun h => h ▸ h2⟩)
/-- A word that is not empty lies in memory, and so does each of its sounds. -/
theorem wd_mem {W : World} {v : Value} {ss : List Snd} (h : Wd W v ss) (hn : 0 < ss.length) : ∃ g off cap, v = .slice (some ⟨g, off, none⟩) ss.length cap ∧ ss.length ≤ cap ∧ cap ≤ maxLen ∧ ∀ j (hj : j < ss.length), Wd W (.slice (some ⟨g, off + j * 2, none⟩) 1 (cap - j)) [ss[j]] := by
  rcases h with ⟨-, rfl⟩ | ⟨b, off, cap, rfl, hc, hm, hb, h3⟩
  · simp at hn
  · refine ⟨b, off, cap, rfl, hc, hm, fun j hj => .inr ⟨b, off + j * 2, cap - j, rfl, by simp; omega, by omega, hb, fun i hi => ?_⟩⟩
    obtain rfl : i = 0 := by simpa using hi
    have := h3 j hj
    simpa using this
/-- Two rows lie apart. -/
def Dj (u v : Value) : Prop := ∀ k, u.ownBlock = some k → v.ownBlock = some k → False
theorem Own.lies {W : World} {b : Nat} {v : Value} {ss : List Snd} (h : Own W b v ss) (k : Nat) (hk : v.ownBlock = some k) : k < W.heap.size := by
  obtain ⟨_, ⟨rfl, _⟩ | ⟨g, cap, cur, rfl, _, hh, _⟩⟩ := h
  · cases hk
  · cases hk; exact (Array.getElem?_eq_some_iff.1 hh).1
theorem Dj.kept {W W' : World} {b : Nat} {u v : Value} {ss : List Snd} (h : Dj u v) (hv : Own W b v ss) (hg : W.grownBy W' u.ownBlock) : Own W' b v ss := World.ownsRow.kept hv hg (by
  cases e : v.ownBlock with
  | none => exact .inl rfl
  | some k => exact .inr (fun e2 => h k e2.symm e))
theorem Dj.left {W : World} {b g m cap : Nat} {u v : Value} {ss : List Snd} (h : Dj u v) (hv : Own W b v ss) (hg : u.ownBlock = some g ∨ g = W.heap.size) : Dj (.slice (some ⟨g, 0, none⟩) m cap) v := fun k h1 h2 => by
  have e : g = k := by simpa [Value.ownBlock] using h1
  subst e
  rcases hg with hg | hg
  · exact h g hg h2
  · have := hv.lies g h2; omega
theorem Dj.symm {u v : Value} (h : Dj u v) : Dj v u := fun k a b => h k b a
/-- append of one sound to a row of the call's own: where it lies then. -/
theorem wpList_appL {ops : Array Oper} {rest : List Oper} {o : Oper} {a : Act} {w : World} {Q : Exit → Act → World → Prop} (hgd : o.guard = none) (s x : Operand)
    (ho : o.op = .call { callee := .builtin .append, args := #[s, x], argTypes := #[22, 22] })
    (base B : Nat) (v : Value) (ss : List Snd) (p : Snd) (hs : a.eval s = v) (hx : a.eval x = .slice (some ⟨B, 0, none⟩) 1 1) (hB : w.heap[B]? = some (.cells #[.int .u32 (p.1.toNat : Int), .int .u32 (p.2.toNat : Int)] 27 (0, 0))) (hown : Own w base v ss) (hlen : ss.length + 1 ≤ 1000000000000) (hbase : base ≤ w.heap.size)
    (h : ∀ g cap w', Own w' base (.slice (some ⟨g, 0, none⟩) (ss.length + 1) cap) (ss ++ [p]) → w.grownBy w' v.ownBlock → (v.ownBlock = some g ∨ g = w.heap.size) → wpList Tryd.prog ops Q rest (a.put o.dst (.slice (some ⟨g, 0, none⟩) (ss.length + 1) cap)) w') : wpList Tryd.prog ops Q (o :: rest) a w := by
  obtain ⟨i, hi, hz, hs1, hb1⟩ := info_parts infoSound
  refine wpList_append_lies w hgd s x 22 ho base 27 i _ 2 8 Tryd.underlying22 hi hz hs1 hb1 rfl (by decide) v ss.length (flat ss) hs hown ⟨B, 0, none⟩ 1 1 [.int .u32 (p.1.toNat : Int), .int .u32 (p.2.toNat : Int)] hx rfl (World.news_of_block (cs := #[.int .u32 (p.1.toNat : Int), .int .u32 (p.2.toNat : Int)]) hB) (by simp [Value.oneCell']) (by decide) (Nat.le_trans hlen (by decide)) (by omega) hbase w.heap.size rfl ?_
  intro g cap w' h1 hg hat _
  refine h g cap w' ?_ hg hat
  unfold Own
  rw [flat_append, List.length_append]
  exact h1
end Go.Proofs.YtpnmapfabjdfjaaDoor

/-
  Different: the first different sounds of pairs of bytes.
-/
namespace Go.Proofs.YtpnmapfabjdfjaaDoor
open Go.RowKit Go.Sort
def mkB (p : Nat × Nat) : Snd := (BitVec.ofNat 32 p.1 &&& 16777215#32, (BitVec.ofNat 32 p.2 &&& 16777215#32) &&& ~~~(BitVec.ofNat 32 p.1))
/-- Different valid sounds of 8 features. -/
def Good (S : List Snd) : Prop := S.Nodup ∧ ∀ s ∈ S, vld s.1 s.2 = true ∧ s.1.toNat < 256 ∧ s.2.toNat < 256
theorem mkB_good (p : Nat × Nat) (h1 : p.1 ≤ 255) (h2 : p.2 ≤ 255) : vld (mkB p).1 (mkB p).2 = true ∧ (mkB p).1.toNat < 256 ∧ (mkB p).2.toNat < 256 := by
  refine ⟨vld_made _ _, ?_, ?_⟩
  · show (BitVec.ofNat 32 p.1 &&& 16777215#32).toNat < 256
    rw [BitVec.toNat_and, BitVec.toNat_ofNat, Nat.mod_eq_of_lt (by omega)]
    exact Nat.lt_of_le_of_lt Nat.and_le_left (by omega)
  · show ((BitVec.ofNat 32 p.2 &&& 16777215#32) &&& ~~~(BitVec.ofNat 32 p.1)).toNat < 256
    rw [BitVec.toNat_and, BitVec.toNat_and, BitVec.toNat_ofNat, Nat.mod_eq_of_lt (by omega)]
    exact Nat.lt_of_le_of_lt (Nat.le_trans Nat.and_le_left Nat.and_le_left) (by omega)
theorem made_b (p : Nat × Nat) (h1 : p.1 ≤ 255) (h2 : p.2 ≤ 255) (w : World) : Gives 42 #[.int .u32 (p.1 : Int), .int .u32 (p.2 : Int)] w (.agg #[.int .u32 ((mkB p).1.toNat : Int), .int .u32 ((mkB p).2.toNat : Int)]) := by
  have h := made_any (BitVec.ofNat 32 p.1) (BitVec.ofNat 32 p.2) w
  have e1 : (BitVec.ofNat 32 p.1).toNat = p.1 := by rw [BitVec.toNat_ofNat, Nat.mod_eq_of_lt (by omega)]
  have e2 : (BitVec.ofNat 32 p.2).toNat = p.2 := by rw [BitVec.toNat_ofNat, Nat.mod_eq_of_lt (by omega)]
  rw [e1, e2] at h
  exact h
theorem Good.snoc {S : List Snd} {x : Snd} (h : Good S) (hx : x ∉ S) (hv : vld x.1 x.2 = true ∧ x.1.toNat < 256 ∧ x.2.toNat < 256) : Good (S ++ [x]) := by
  refine ⟨?_, fun s hs => ?_⟩
  · rw [List.nodup_append]
    refine ⟨h.1, by simp, fun a ha b hb => ?_⟩
    rw [List.mem_singleton] at hb
    subst hb
    exact fun e => hx (e ▸ ha)
  · rcases List.mem_append.1 hs with hs | hs
    · exact h.2 s hs
    · rw [List.mem_singleton] at hs; subst hs; exact hv
theorem mem_take_more {S : List Snd} {x : Snd} {j : Nat} (hj : j < S.length) : x ∈ S.take (j + 1) ↔ x ∈ S.take j ∨ S[j] = x := by
  rw [List.take_succ_eq_append_getElem hj, List.mem_append, List.mem_singleton]
  exact ⟨fun h => h.elim .inl (fun h => .inr h.symm), fun h => h.elim .inl (fun h => .inr h.symm)⟩
set_option maxRecDepth 100000 in
set_option maxHeartbeats 8000000 in
theorem different_any (l : List (Nat × Nat)) (v : Value) (w : World) (h : Pz w v l) : Calls Tryd.prog 33 #[v] w fun e w' => ∃ m S, e = .returned m ∧ Own w' w.heap.size m S ∧ Good S ∧ S.length ≤ 24 ∧ Below w.heap.size w w' := by
  obtain ⟨ao, cap, rfl, c1, m1, hc⟩ := h.open
  obtain ⟨N, hN⟩ : ∃ N, l.length = N := ⟨_, rfl⟩
  have HC := Lib.hid hc; have HN := Lib.hid hN
  rw [hN] at c1 ⊢
  have l1 : N ≤ 9223372036854775807 := by unfold maxLen at m1; omega
  clear hc hN h m1
  go_enter Tryd.func33, Tryd.ntmps33
  go_wp2_with fail
  go_loopw [3, 4] (fun u i wr => ∃ (k : Nat) (S : List Snd), k ≤ N ∧ i = .int .i64 (k : Int) ∧ Own wr w.heap.size u S ∧ Good S ∧ S.length ≤ 24 ∧ Below w.heap.size w wr) (fun _ i _ => N - (intOf i).toNat)
  case atStart => exact ⟨0, [], by omega, rfl, Own.nil _ _, ⟨by simp, by simp⟩, by simp, Below.refl _ _⟩
  case round =>
  obtain ⟨k, S, hk, rfl, ho, hg, hs, hw⟩ := hrel
  obtain ⟨oa, oc, hov, hoc, hom, hcell⟩ := ho.wd.open
  obtain ⟨n, hn⟩ : ∃ n, S.length = n := ⟨_, rfl⟩
  rw [hn] at hov hs hoc
  subst hov
  have HO := Lib.hid ho; have HG := Lib.hid hg; have HW := Lib.hid hw; have HNn := Lib.hid hn; have HCELL := Lib.hid hcell
  have l2 : n ≤ 9223372036854775807 := by omega
  clear ho hg hw hn hcell hom
  by_cases hlt : k < N
  · have e1 : decide ((k : Int) < (N : Int)) = true := decide_eq_true (by omega)
    have e1' : decide (k < N) = true := decide_eq_true hlt
    by_cases hfull : n < 24
    · have e2 : decide ((n : Int) < 24) = true := decide_eq_true (by omega)
      have e2' : decide (n < 24) = true := decide_eq_true hfull
      have hkl : k < l.length := by rw [HN.out]; exact hlt
      obtain ⟨b, off, hao, lb, ⟨d0, d1⟩, q0, q1⟩ := HC.out k hkl
      subst hao
      have hmk := made_b l[k] q0 q1
      have hgd := mkB_good l[k] q0 q1
      generalize mkB l[k] = x at *
      generalize l[k] = p at *
      obtain ⟨pa, pb⟩ := p
      simp only at d0 d1 q0 q1 hmk
      have hw3 : IntKind.u32.wrap (pa : Int) = (pa : Int) := by rw [IntKind.wrap_u32]; omega
      have hw4 : IntKind.u32.wrap (pb : Int) = (pb : Int) := by rw [IntKind.wrap_u32]; omega
      have hk3 : (k : Int) < (N : Int) := by omega
      have hk0 : (0 : Int) ≤ (k : Int) := by omega
      have KK : Hid (∀ W2 : World, Below wr.heap.size wr W2 → W2.cell? ⟨b, off + k * 2, none⟩ = some (.int .u8 (pa : Int)) ∧ W2.cell? ⟨b, off + k * 2 + 1, none⟩ = some (.int .u8 (pb : Int))) := Lib.hid (fun W2 hW => by
        have lb2 := Nat.lt_of_lt_of_le lb HW.out.size
        exact ⟨((hW.cell (p := ⟨b, _, none⟩) lb2).trans (HW.out.cell (p := ⟨b, _, none⟩) lb)).trans d0, ((hW.cell (p := ⟨b, _, none⟩) lb2).trans (HW.out.cell (p := ⟨b, _, none⟩) lb)).trans d1⟩)
      obtain ⟨xp, xm⟩ := x
      have HMK := Lib.hid hmk; have HGD := Lib.hid hgd
      clear d0 d1 hmk hgd HC
      go_wp2_with fail
      refine wp_region_makers 14 [(13, (.cells #[.int .u32 0, .int .u32 0] 27))] [0, 1, 2, 3, 4, 5, 6, 7, 8, 9, 10, 11, 12, 13] ?A5 _ (by kernel_rfl) (by kernel_rfl) ?hrun5 (by simp [quiets, mkOf]; rfl) ?walk5 ?fin5
      case hrun5 =>
        intro x hx
        simp only [List.mem_cons, List.not_mem_nil, or_false] at hx
        rcases hx with rfl
        exact ⟨_, rfl, rfl, fun a w => by simp [go_sem, ptr]⟩
      case walk5 =>
        intro W2 hW2
        obtain ⟨a0, a1⟩ := KK.out W2 hW2
        have p0 := cell_regrown a0
        have p1 := cell_regrown a1
        repeat (go_big_quiet_step (first
          | (go_at_call 42; with_reducible exact Calls.regrown_of (HMK.out _))))
        refine wpQuiet_nil ?_
        rfl
      intro bs w5 hb hF hN'
      obtain ⟨hq, hqb⟩ := hF (13, (.cells #[.int .u32 0, .int .u32 0] 27)) (by simp)
      simp only [List.map_cons, List.map_nil, List.foldr_cons, List.foldr_nil] at *
      generalize bs 13 = q at *
      have HB5 := Lib.hid (hb.setCell2 hq (.int .u32 (xp.toNat : Int)) (.int .u32 (xm.toNat : Int)))
      have R3 := Lib.hid (two_set (x' := .int .u32 (xp.toNat : Int)) (y' := .int .u32 (xm.toNat : Int)) hqb)
      have c0 := cell_block hqb (o := 0) rfl
      have c1 := cell_block hqb (o := 1) rfl
      have f0 := frozen_block hqb (o := 0)
      have f1 := frozen_block hqb (o := 1)
      have HQ := Lib.hid hq
      clear bs hF hN' hb hqb KK HMK hq
      simp only [dstOf, ptr, Act.put, List.getElem?_toArray, List.getElem?_cons_succ, List.getElem?_cons_zero, Option.bind_some, List.setIfInBounds_toArray, List.set_cons_zero, List.set_cons_succ, List.drop_succ_cons, List.drop_zero]
      go_wp2_with fail
      generalize ((w5.setCell ⟨q, 0, none⟩ (.int .u32 (xp.toNat : Int))).setCell ⟨q, 1, none⟩ (.int .u32 (xm.toNat : Int))) = w6 at *
      clear c0 c1 f0 f1
      have HO6 := Lib.hid (HO.out.below HB5.out); have HW6 := Lib.hid (HW.out.trans (HB5.out.mono HW.out.size))
      have lq := (Array.getElem?_eq_some_iff.1 R3.out).1
      go_loopw [6, 7] (fun c i wi => ∃ j : Nat, j ≤ n ∧ i = .int .i64 (j : Int) ∧ c = .bool (decide ((xp, xm) ∈ S.take j)) ∧ Below w6.heap.size w6 wi) (fun _ i _ => n - (intOf i).toNat)
      case atStart => exact ⟨0, by omega, rfl, by simp, Below.refl _ _⟩
      case round =>
      obtain ⟨j, hj, rfl, rfl, hwi⟩ := hrel
      by_cases hlt2 : j < n
      · have hjl : j < S.length := by rw [HNn.out]; exact hlt2
        have hmt := mem_take_more (x := (xp, xm)) hjl
        obtain ⟨g, go, hao2, lg, d0, d1⟩ := HCELL.out j hjl
        subst hao2
        have lg6 : g < w6.heap.size := Nat.lt_of_lt_of_le lg HB5.out.size
        have d0 := ((hwi.cell (p := ⟨g, _, none⟩) lg6).trans (HB5.out.cell (p := ⟨g, _, none⟩) lg)).trans d0
        have d1 := ((hwi.cell (p := ⟨g, _, none⟩) lg6).trans (HB5.out.cell (p := ⟨g, _, none⟩) lg)).trans d1
        have rq := (hwi.block q lq).trans R3.out
        have r0 := cell_block rq (o := 0) rfl
        have r1 := cell_block rq (o := 1) rfl
        have heq := fun W => snd_eql (S[j].1.toNat : Int) (S[j].2.toNat : Int) ((xp, xm) : Snd).1.toNat ((xp, xm) : Snd).2.toNat W
        rw [snd_beq] at heq
        generalize S[j] = y at *
        obtain ⟨yp, ym⟩ := y
        simp only at d0 d1 heq
        have hj0 : (0 : Int) ≤ (j : Int) := by omega
        have hj3 : (j : Int) < (n : Int) := by omega
        have HWI := Lib.hid hwi; have HMT := Lib.hid hmt
        clear hwi hmt rq HCELL
        by_cases hin : (xp, xm) ∈ S.take j
        · have hnx : decide ((xp, xm) ∈ S.take (j + 1)) = true := decide_eq_true (HMT.out.2 (.inl hin))
          rw [decide_eq_true hin]
          have HNX := Lib.hid hnx
          clear hnx heq hin
          go_wp2_with fail
          go_region
          all_goals go_wp2_with fail
          all_goals (
            go_roundw
            case rel => exact ⟨j + 1, by omega, by go_num, by rw [HNX.out], HWI.out.drew⟩
            case measure => simp [intOf]; omega)
        · have hnx : decide ((xp, xm) ∈ S.take (j + 1)) = decide (((yp, ym) : Snd) = (xp, xm)) := decide_eq_decide.2 (HMT.out.trans ⟨fun h => h.elim (fun h => absurd h hin) id, .inr⟩)
          rw [decide_eq_false hin]
          have HNX := Lib.hid hnx
          clear hnx hin
          generalize decide (((yp, ym) : Snd) = (xp, xm)) = B at *
          go_wp2_with fail
          go_region
          all_goals go_wp2_with fail
          all_goals (
            go_roundw
            case rel => exact ⟨j + 1, by omega, by go_num, by rw [HNX.out], HWI.out.drew⟩
            case measure => simp [intOf]; omega)
      · obtain rfl : j = n := by omega
        have hall : S.take j = S := List.take_of_length_le (by rw [HNn.out]; exact Nat.le_refl _)
        rw [hall]
        have HWI := Lib.hid (HW6.out.trans (hwi.mono HW6.out.size)); have HOI := Lib.hid (HO6.out.below hwi); have RQ := Lib.hid ((hwi.block q lq).trans R3.out)
        clear hwi hall hlt2
        by_cases hin : (xp, xm) ∈ S
        · rw [decide_eq_true hin]
          clear hin
          go_wp2_with fail
          go_roundw
          case rel => exact ⟨k + 1, S, by omega, by go_num, HOI.out, HG.out, by rw [HNn.out]; exact hs, HWI.out⟩
          case measure => simp [intOf]; omega
        · have HGS := Lib.hid (HG.out.snoc hin HGD.out)
          rw [decide_eq_false hin]
          clear hin
          have r0 := cell_block RQ.out (o := 0) rfl
          have r1 := cell_block RQ.out (o := 1) rfl
          have hb8 : Below wr.heap.size wr (wr.alloc (.cells #[.int .u32 (xp.toNat : Int), .int .u32 (xm.toNat : Int)] 27)) := (Below.refl _ _).alloc (Nat.le_refl _) _
          have K8 := Lib.hid (World.alloc_heap_new wr (.cells #[.int .u32 (xp.toNat : Int), .int .u32 (xm.toNat : Int)] 27)); have HO8 := Lib.hid (HOI.out.below hb8); have HW8 := Lib.hid (HWI.out.trans (hb8.mono HWI.out.size))
          clear hb8
          go_wp2_with (at_builtin; (refine wpList_appL rfl (.tmp 49) (.tmp 51) rfl w.heap.size _ _ _ (xp, xm) rfl rfl K8.out HO8.out (by rw [HNn.out]; omega) (HW8.out.size) ?_; intro g cap2 w9 ho9 hg9 hat9; have HO9 := Lib.hid ho9; have HW9 := Lib.hid (HW8.out.grown hg9 HW8.out.size (fun k e => Own.row HO8.out k e)); clear ho9 hg9 hat9))
          go_roundw
          case rel => exact ⟨k + 1, S ++ [(xp, xm)], by omega, by go_num, HO9.out, HGS.out, by rw [List.length_append, HNn.out]; simp; omega, HW9.out⟩
          case measure => simp [intOf]; omega
    · have e2 : decide ((n : Int) < 24) = false := decide_eq_false (by omega)
      have e2' : decide (n < 24) = false := decide_eq_false hfull
      clear HC HCELL
      go_wp2_with fail
      go_returns
      exact ⟨_, S, rfl, HO.out, HG.out, by rw [HNn.out]; exact hs, HW.out⟩
  · have e1 : decide ((k : Int) < (N : Int)) = false := decide_eq_false (by omega)
    have e1' : decide (k < N) = false := decide_eq_false hlt
    clear HC HCELL
    go_wp2_with fail
    go_returns
    exact ⟨_, S, rfl, HO.out, HG.out, by rw [HNn.out]; exact hs, HW.out⟩
end Go.Proofs.YtpnmapfabjdfjaaDoor

/-
  NaturalNeeds: pure facts.
-/
namespace Go.Proofs.YtpnmapfabjdfjaaDoor
open Go.RowKit Go.Sort
theorem set_len {l : List Snd} (h : l.Nodup) : (setS l).length = l.length := by
  refine Nat.le_antisymm (len_of_sub _ _ (setS_nodup l) (fun x hx => (mem_setS l x).1 hx)) (len_of_sub _ _ h (fun x hx => (mem_setS l x).2 hx))
/-- Different valid sounds are an inventory. -/
theorem Good.ck {S : List Snd} (h : Good S) {most : Nat} (hl : S.length ≤ most) : ckE S most = 0 := by
  unfold ckE
  rw [if_neg (by omega), if_pos (List.all_eq_true.2 fun s hs => (h.2 s hs).1), set_len h.1, if_neg (by omega)]
theorem pow_bits {n k : Nat} (h1 : 2 ^ k ≤ n) (h2 : n < 2 ^ (k + 1)) : n.testBit k = true := by
  rw [Nat.testBit_eq_decide_div_mod_eq]
  have h0 : 0 < 2 ^ k := Nat.two_pow_pos k
  have e : n / 2 ^ k = 1 := by
    rw [Nat.pow_succ] at h2
    exact (Nat.div_eq_iff h0).2 (by omega)
  rw [e]; rfl
theorem pred_pow {n : Nat} (h0 : n ≠ 0) (h : n &&& (n - 1) = 0) : ∃ k, n = 2 ^ k := by
  refine ⟨Nat.log2 n, Classical.byContradiction fun hne => ?_⟩
  have h1 : 2 ^ Nat.log2 n ≤ n := Nat.log2_self_le h0
  have h2 : n < 2 ^ (Nat.log2 n + 1) := Nat.lt_log2_self
  have t1 := pow_bits h1 h2
  have t2 := pow_bits (n := n - 1) (k := Nat.log2 n) (by omega) (by omega)
  have t3 : (n &&& (n - 1)).testBit (Nat.log2 n) = true := by rw [Nat.testBit_and, t1, t2]; rfl
  rw [h, Nat.zero_testBit] at t3
  cases t3
theorem pow_pred : ∀ f : Fin 24, (2 ^ f.val) &&& (2 ^ f.val - 1) = 0 := by decide +kernel
theorem one_and {D : BitVec 32} (hD : D.toNat < 16777216) (h0 : D.toNat ≠ 0) : (D.toNat &&& (D.toNat - 1) = 0) ↔ ones D.toNat = 1 := by
  constructor
  · intro h
    obtain ⟨k, hk⟩ := pred_pow h0 h
    have hk2 : k < 24 := by
      refine Classical.byContradiction fun hn => ?_
      have : 2 ^ 24 ≤ 2 ^ k := Nat.pow_le_pow_right (by decide) (by omega)
      omega
    have := oc_pow ⟨k, hk2⟩
    rw [oc_sh ⟨k, hk2⟩] at this
    rw [hk]; exact this
  · intro h
    obtain ⟨k, hk, e⟩ := one_pow hD h
    have h1 := oc_sh ⟨k, hk⟩
    simp only at h1
    rw [e, h1]
    exact pow_pred ⟨k, hk⟩
/-- How the law asks whether a difference is of one feature. -/
theorem one_asked {D : BitVec 32} (hD : D.toNat < 16777216) (h0 : D.toNat ≠ 0) : (bits .and .u32 (D.toNat : Int) ((D.toNat : Int) - 1) != 0) = !(decide (ones D.toNat = 1)) := by
  have e : bits .and .u32 (D.toNat : Int) ((D.toNat : Int) - 1) = ((D.toNat &&& (D.toNat - 1) : Nat) : Int) := by
    have e1 : (D.toNat : Int) - 1 = ((BitVec.ofNat 32 (D.toNat - 1)).toNat : Int) := by
      rw [BitVec.toNat_ofNat, Nat.mod_eq_of_lt (by omega)]
      omega
    rw [e1, bv_and, ofInt32_nat, ofInt32_nat, BitVec.toNat_and, BitVec.toNat_ofNat, Nat.mod_eq_of_lt (by omega)]
  rw [e]
  by_cases h : ones D.toNat = 1
  · rw [(one_and hD h0).2 h, h]; rfl
  · have h2 : (D.toNat &&& (D.toNat - 1)) ≠ 0 := fun e => h ((one_and hD h0).1 e)
    rw [decide_eq_false h, Bool.not_false, bne_iff_ne]
    omega
theorem dif_ne {a b : Snd} (h : a ≠ b) : (dif a b).toNat ≠ 0 := by
  intro e
  have e2 : dif a b = 0#32 := BitVec.eq_of_toNat_eq (by simpa using e)
  unfold dif at e2
  obtain ⟨h1, h2⟩ : a.1 ^^^ b.1 = 0#32 ∧ a.2 ^^^ b.2 = 0#32 := by
    constructor
    · apply BitVec.eq_of_getLsbD_eq
      intro i hi
      have := congrArg (fun x => x.getLsbD i) e2
      simp only [BitVec.getLsbD_or, BitVec.getLsbD_zero, Bool.or_eq_false_iff] at this
      rw [this.1, BitVec.getLsbD_zero]
    · apply BitVec.eq_of_getLsbD_eq
      intro i hi
      have := congrArg (fun x => x.getLsbD i) e2
      simp only [BitVec.getLsbD_or, BitVec.getLsbD_zero, Bool.or_eq_false_iff] at this
      rw [this.2, BitVec.getLsbD_zero]
  exact h (Prod.ext (BitVec.xor_eq_zero_iff.1 h1) (BitVec.xor_eq_zero_iff.1 h2))
theorem inn_pre (l : List Snd) (i : Nat) : ∀ d m, inn l i m <+: inn l i (m + d)
  | 0, _ => List.prefix_refl _
  | d + 1, m => by
    have h := inn_pre l i d m
    rw [show m + (d + 1) = (m + d) + 1 from rfl, inn_succ]
    exact h.trans (List.prefix_append _ _)
theorem outP_pre (l : List Snd) : ∀ d k, outP l k <+: outP l (k + d)
  | 0, _ => List.prefix_refl _
  | d + 1, k => by
    have h := outP_pre l d k
    rw [show k + (d + 1) = (k + d) + 1 from rfl, outP_succ]
    exact h.trans (List.prefix_append _ _)
/-- The pairs that were met so far stand at the head of all. -/
theorem met_pre {l : List Snd} {k j : Nat} (hk : k < l.length) (hj : j ≤ l.length) : outP l k ++ inn l k j <+: prs l := by
  have h1 : inn l k j <+: inn l k l.length := by
    have := inn_pre l k (l.length - j) j
    rw [show j + (l.length - j) = l.length from by omega] at this
    exact this
  have h2 := outP_pre l (l.length - (k + 1)) (k + 1)
  rw [show k + 1 + (l.length - (k + 1)) = l.length from by omega, outP_succ] at h2
  obtain ⟨t, ht⟩ := h1
  refine List.IsPrefix.trans ⟨t, ?_⟩ h2
  rw [List.append_assoc, ht]
/-- The pair at hand is the next one. -/
theorem met_next {l : List Snd} {k j : Nat} (hk : k < j) (hj : j < l.length) (h1 : one (l.getD k zs) (l.getD j zs) = true) : ∃ h : (outP l k ++ inn l k j).length < (prs l).length, (prs l)[(outP l k ++ inn l k j).length] = (k, j) := by
  have hp := met_pre (l := l) (k := k) (j := j + 1) (by omega) (by omega)
  rw [inn_succ, if_pos (by rw [h1, decide_eq_true hk]; rfl), ← List.append_assoc] at hp
  obtain ⟨t, ht⟩ := hp
  have hlen : (outP l k ++ inn l k j).length < (prs l).length := by
    rw [← ht]
    simp
  refine ⟨hlen, ?_⟩
  have h2 : (prs l)[(outP l k ++ inn l k j).length]? = some (k, j) := by
    rw [← ht, List.getElem?_append_left (by simp), List.getElem?_append_right (Nat.le_refl _), Nat.sub_self]
    rfl
  rw [List.getElem?_eq_getElem hlen] at h2
  exact Option.some.inj h2
theorem pair_eqRun (a b c d : Int) (w : World) : (Op.equalIn (9999 + 1) 44 (.agg #[.int .i64 a, .int .i64 b]) (.agg #[.int .i64 c, .int .i64 d])).run Tryd.prog w = .ok (a == c && b == d) w := by
  have hu := Tryd.underlying3
  have hg := Tryd.isAgg3
  have hz := Tryd.sizeOf3
  rw [Op.equalIn]
  simp only [Sem.run_bind, run_underlying Tryd.underlying44, Result.andThen_ok]
  simp only [Std.Legacy.Range.forIn_eq_forIn_range', Std.Legacy.Range.size, Nat.sub_zero, Nat.add_sub_cancel, Nat.div_one, List.range'_succ, List.range'_zero, List.forIn_cons, List.forIn_nil]
  go_simp
  by_cases h1 : a = c
  · by_cases h2 : b = d
    · simp [h1, h2]
    · simp [h1, h2]
  · simp [h1]
theorem pair_neql (a b c d : Int) (w : World) : (binOp .neq 44 (.agg #[.int .i64 a, .int .i64 b]) (.agg #[.int .i64 c, .int .i64 d])).run Tryd.prog w = .ok (.bool (!(a == c && b == d))) w := by
  rw [run_neq_struct, pair_eqRun]; rfl
theorem ndM_good {S : List Snd} (h : ckE S 256 = 0) : ndM S = ndF S (prs S) := if_pos h
theorem prsM_good {S : List Snd} (h : ckE S 256 = 0) : prsM S = prs S := if_pos h
theorem prs_len2 (S : List Snd) : (prs S).length ≤ S.length * S.length := outP_len S S.length
end Go.Proofs.YtpnmapfabjdfjaaDoor

/-
  NaturalCloses, walked.
-/
namespace Go.Proofs.YtpnmapfabjdfjaaDoor
open Go.RowKit Go.Sort
theorem Wd.lenle {W : World} {v : Value} {ss : List Snd} (h : Wd W v ss) : ss.length ≤ 9223372036854775807 := by
  obtain ⟨_, _, _, h1, h2, _⟩ := h.open
  unfold maxLen at h2
  omega
theorem mod_and (a N : Nat) (hN : N ≤ 24) : bits .and .u32 (a : Int) ((2 ^ N : Nat) - 1 : Int) = ((a % 2 ^ N : Nat) : Int) ∧ True := by
  refine ⟨?_, trivial⟩
  have h0 : 0 < 2 ^ N := Nat.two_pow_pos N
  have h1 : 2 ^ N ≤ 2 ^ 24 := Nat.pow_le_pow_right (by decide) hN
  have e : ((2 ^ N : Nat) - 1 : Int) = ((2 ^ N - 1 : Nat) : Int) := by omega
  rw [e, bv_and, BitVec.ofInt_natCast, BitVec.ofInt_natCast, BitVec.toNat_and, BitVec.toNat_ofNat, BitVec.toNat_ofNat, Nat.mod_eq_of_lt (show 2 ^ N - 1 < 2 ^ 32 by omega), Nat.and_two_pow_sub_one_eq_mod, Nat.mod_mod_of_dvd _ (Nat.pow_dvd_pow 2 (by omega))]
theorem or_of (a b : Nat) (ha : a < 4294967296) (hb : b < 4294967296) : bits .or .u32 (a : Int) (b : Int) = ((a ||| b : Nat) : Int) := by
  rw [bv_or, BitVec.ofInt_natCast, BitVec.ofInt_natCast, BitVec.toNat_or, BitVec.toNat_ofNat, BitVec.toNat_ofNat, Nat.mod_eq_of_lt ha, Nat.mod_eq_of_lt hb]
/-- What NaturalCloses looks at. -/
structure ClP (l P1 P2 F1 F2 : List Snd) (C1 C2 : Snd) (M1 M2 : List Nat) (s1 : Nat) : Prop where
  e1 : cloE l P1 = 0
  e2 : cloE l P2 = 0
  c1 : cloC l P1 = C1
  c2 : cloC l P2 = C2
  m1 : cloM l P1 = M1
  m2 : cloM l P2 = M2
  e3 : cloE l F1 = 0
  c3 : cloC l F1 = C1
  m3 : cloM l F1 = M1
  is : isB l F1 = true
  se : selE l C1 = 0
  sm : selM l C1 = M1
  f1 : (M1.map fun i => l.getD i (0#32, 0#32)) = F1
  f2 : (M2.map fun i => l.getD i (0#32, 0#32)) = F2
  i1 : Inc l.length M1
  i2 : Inc l.length M2
  n1 : M1.length ≤ l.length
  n2 : M2.length ≤ l.length
  p1 : ∀ x ∈ P1, sat x C1 = true ∧ vld x.1 x.2 = true
  p2 : s1 ≠ 0 → ∀ x ∈ F1, sat x C2 = true
  pv : ∀ x ∈ F1, vld x.1 x.2 = true
  v1 : vld C1.1 C1.2 = true
  v2 : vld C2.1 C2.2 = true
  le : s1 ≠ 0 → F1.length ≤ F2.length
theorem clP_of {l : List Snd} {s1 s2 : Nat} (hg : Good l) (hn : l ≠ []) (hl : l.length ≤ 24) (h1 : s1 < 2 ^ l.length) (h2 : ∀ i, s1.testBit i = true → s2.testBit i = true) : ∃ P1 P2 F1 F2 C1 C2 M1 M2, ptL l s1 = P1 ∧ ptL l s2 = P2 ∧ ClP l P1 P2 F1 F2 C1 C2 M1 M2 s1 := by
  have hck := hg.ck (most := 256) (by omega)
  have hv : ∀ x ∈ l, vld x.1 x.2 = true := fun x hx => (hg.2 x hx).1
  have n1 := ptL_ne s1 hn
  have n2 := ptL_ne s2 hn
  have u1 : ∀ x ∈ ptL l s1, x ∈ l := ptL_mem
  have u2 : ∀ x ∈ ptL l s2, x ∈ l := ptL_mem
  have e1 := clo_zero hck n1 u1
  have e2 := clo_zero hck n2 u2
  have e3 := clo_zero hck (flt_ne n1 u1) (fun x hx => (mem_flt.1 hx).1)
  have v1 : vld (cmS (ptL l s1)).1 (cmS (ptL l s1)).2 = true := cmS_vld fun x hx => hv x (u1 x hx)
  have v2 : vld (cmS (ptL l s2)).1 (cmS (ptL l s2)).2 = true := cmS_vld fun x hx => hv x (u2 x hx)
  have hse : selE l (cmS (ptL l s1)) = 0 := by unfold selE; rw [if_neg (fun e => e hck), if_pos v1]
  have hst : s1 ≠ 0 → ∀ x ∈ flt (cmS (ptL l s1)) l, sat x (cmS (ptL l s2)) = true := fun h0 x hx => sat_trans (mem_flt.1 hx).2 (cm_mono n1 (ptL_more h0 h1 h2))
  refine ⟨_, _, flt (cmS (ptL l s1)) l, flt (cmS (ptL l s2)) l, cmS (ptL l s1), cmS (ptL l s2), msL (cmS (ptL l s1)) l 0, msL (cmS (ptL l s2)) l 0, rfl, rfl, ?_⟩
  exact {
    e1 := e1, e2 := e2, c1 := clo_C e1, c2 := clo_C e2, m1 := clo_M e1, m2 := clo_M e2, e3 := e3
    c3 := by rw [clo_C e3, cm_flt n1 u1]
    m3 := by rw [clo_M e3, cm_flt n1 u1]
    is := is_flt hg.1 hck n1 u1
    se := hse
    sm := by unfold selM; rw [if_pos hse]
    f1 := msL_flt _ _, f2 := msL_flt _ _, i1 := msL_inc _ _, i2 := msL_inc _ _, n1 := msL_len _ _ _, n2 := msL_len _ _ _
    p1 := fun x hx => ⟨sat_cmS x hx, hv x (u1 x hx)⟩
    p2 := hst
    pv := fun x hx => hv x (mem_flt.1 hx).1
    v1 := v1, v2 := v2
    le := fun h0 => len_of_sub _ _ (show (flt (cmS (ptL l s1)) l).Nodup from hg.1.filter _) (fun x hx => mem_flt.2 ⟨(mem_flt.1 hx).1, hst h0 x hx⟩) }
set_option maxRecDepth 100000 in
set_option maxHeartbeats 8000000 in
theorem closes_any (l0 : List (Nat × Nat)) (v0 : Value) (a b : Nat) (ha : a < 4294967296) (hb : b < 4294967296) (w : World) (h0 : Pz w v0 l0) (hT : Tab w) (lT : 0 < w.heap.size) : Gives 7 #[v0, .int .u32 (a : Int), .int .u32 (b : Int)] w (.bool true) := by
  unfold Gives
  have HT := Lib.hid hT; have LT := Lib.hid lT; have HDI := Lib.hid (different_any l0 v0 w h0); have HB0 := Lib.hid (Below.refl w.heap.size w)
  clear hT lT
  obtain ⟨ao0, cap0, rfl, -, -, -⟩ := h0.open
  clear h0
  go_enter Tryd.func7, Tryd.ntmps7
  go_wp2_with fail
  go_at_call 33
  refine HDI.out.mono ?_
  rintro e w1 ⟨m1, l, rfl, ho1, hg1, hs1, hb1⟩
  obtain ⟨ao, cap, hv1, c1, cm1, hc⟩ := ho1.wd.open
  obtain ⟨N, hN⟩ : ∃ N, l.length = N := ⟨_, rfl⟩
  have hwd := ho1.wd
  rw [hN] at hv1 hs1
  subst hv1
  have l1 : N ≤ 9223372036854775807 := by omega
  have HWD := Lib.hid hwd; have HBw1 := Lib.hid hb1; have HN := Lib.hid hN; have HG := Lib.hid hg1
  clear hc hwd hb1 ho1 HDI c1 cm1 hN hg1
  by_cases hz : N = 0
  · have g1 : ((N : Int) == 0) = true := by rw [hz]; rfl
    clear hz
    go_wp2_with fail
    go_at_call 14
    refine Gives.then (works_any _ (HT.out.below HBw1.out LT.out) (Nat.lt_of_lt_of_le LT.out HBw1.out.size)) ?_
    intro w6 hb6
    have HW6 := Lib.hid (HBw1.out.trans (hb6.mono HBw1.out.size))
    clear hb6
    go_wp2_with fail
    go_returns
    exact ⟨rfl, HW6.out⟩
  have g1 : ((N : Int) == 0) = false := by rw [beq_eq_false_iff_ne]; omega
  have hln : l ≠ [] := fun e => hz (by rw [← HN.out, e]; rfl)
  obtain ⟨P, hP⟩ : ∃ P : Nat, 2 ^ N = P := ⟨_, rfl⟩
  have hP2 : P ≤ 16777216 := by rw [← hP]; exact Nat.le_trans (Nat.pow_le_pow_right (by decide) hs1) (by decide)
  have hP1 : 1 ≤ P := by rw [← hP]; exact Nat.one_le_two_pow
  have hPi : ((2 : Int) ^ N) = (P : Int) := by rw [← hP]; simp
  have hmn : min N 32 = N := Nat.min_eq_left (by omega)
  have hm0 : (2 : Int) ^ (min N 32) % 4294967296 = (P : Int) := by rw [hmn, hPi]; omega
  have hm1 : (2 : Int) ^ N % 4294967296 = (P : Int) := by rw [hPi]; omega
  have hm2 : ((P : Int) - 1) % 4294967296 = (P : Int) - 1 := by omega
  have HMN := Lib.hid hmn; clear hmn
  have hand := (mod_and a N hs1).1
  rw [hP] at hand
  have hs1' : a % P < P := Nat.mod_lt _ hP1
  obtain ⟨s1, hs⟩ : ∃ s1, a % P = s1 := ⟨_, rfl⟩
  rw [hs] at hand hs1'
  have horr := or_of s1 b (by omega) hb
  have hsz : s1 < 4294967296 := by omega
  have hs2 : s1 ||| b < 4294967296 := Nat.or_lt_two_pow (n := 32) hsz hb
  obtain ⟨P1, P2, F1, F2, C1, C2, M1, M2, hp1, hp2, hK⟩ := clP_of (s1 := s1) (s2 := s1 ||| b) HG.out hln (by rw [HN.out]; exact hs1) (by rw [HN.out, hP]; exact hs1') (fun i hi => by rw [Nat.testBit_or, hi]; rfl)
  have hpa1 := fun W v h => part_any l s1 v W hsz (by rw [HN.out]; exact hs1) h
  have hpa2 := fun W v h => part_any l (s1 ||| b) v W hs2 (by rw [HN.out]; exact hs1) h
  rw [hp1] at hpa1; rw [hp2] at hpa2
  have HPA1 := Lib.hid hpa1; have HPA2 := Lib.hid hpa2; have HK := Lib.hid hK; have HLE := Lib.hid hK.le; have HLT := Lib.hid hs1
  generalize s1 ||| b = s2 at *
  clear hpa1 hpa2 hK hp1 hp2 hs hP hPi hs1' hs2 hP1 hP2 hln hs1
  obtain ⟨p1, q1⟩ := C1
  obtain ⟨p2, q2z⟩ := C2
  have hne : ∀ W, (binOp .neq 27 (.agg #[.int .u32 (p1.toNat : Int), .int .u32 (q1.toNat : Int)]) (.agg #[.int .u32 (p1.toNat : Int), .int .u32 (q1.toNat : Int)])).run Tryd.prog W = .ok (.bool false) W := fun W => by
    have h := snd_neq (p1.toNat : Int) (q1.toNat : Int) (p1.toNat : Int) (q1.toNat : Int) W
    simpa using h
  go_wp2_with fail
  go_at_call 34
  refine (HPA1.out _ _ HWD.out).mono ?_
  rintro e w2 ⟨m2, rfl, hop, hbw2⟩
  have HP1 := Lib.hid hop.wd
  clear hop
  have HBw2 := Lib.hid (HBw1.out.trans (hbw2.mono HBw1.out.size))
  have HWD := Lib.hid (HWD.out.below hbw2)
  clear hbw2
  go_wp2_with fail
  have hc : ∀ u, Wd w2 u P1 → Calls Tryd.prog 15 #[.slice ao N cap, u] w2 fun e w' => ∃ m, e = .returned (.tuple #[.agg #[.int .u32 (p1.toNat : Int), .int .u32 (q1.toNat : Int)], m, .int .i64 0]) ∧ OwnI w' w2.heap.size m M1 ∧ Below w2.heap.size w2 w' := fun u hu => by
    have h := closure_any l P1 _ u w2 HWD.out hu
    rw [HK.out.e1, HK.out.c1, HK.out.m1] at h
    exact h
  have HC := Lib.hid hc
  clear hc
  go_at_call 15
  refine (HC.out _ HP1.out).mono ?_
  rintro e w3 ⟨m3, rfl, hoi, hbw3⟩
  have HM1 := Lib.hid hoi.is
  clear hoi HC
  have HBw3 := Lib.hid (HBw2.out.trans (hbw3.mono HBw2.out.size))
  have HWD := Lib.hid (HWD.out.below hbw3)
  have HP1 := Lib.hid (HP1.out.below hbw3)
  clear hbw3
  go_wp2_with fail
  have k := World.alloc_heap_new w3 (.cells #[.int .u32 (p1.toNat : Int), .int .u32 (q1.toNat : Int)] 27)
  have hbw4 : Below w3.heap.size w3 (w3.alloc (.cells #[.int .u32 (p1.toNat : Int), .int .u32 (q1.toNat : Int)] 27)) := (Below.refl _ _).alloc (Nat.le_refl _) _
  generalize w3.alloc (.cells #[.int .u32 (p1.toNat : Int), .int .u32 (q1.toNat : Int)] 27) = w4 at *
  have HBw4 := Lib.hid (HBw3.out.trans (hbw4.mono HBw3.out.size))
  have HWD := Lib.hid (HWD.out.below hbw4)
  have HP1 := Lib.hid (HP1.out.below hbw4)
  have HM1 := Lib.hid (HM1.out.below hbw4)
  clear hbw4
  have K1 := Lib.hid k
  clear k
  generalize w3.heap.size = B1 at *
  go_at_call 34
  refine (HPA2.out _ _ HWD.out).mono ?_
  rintro e w5 ⟨m4, rfl, hop, hbw5⟩
  have HP2 := Lib.hid hop.wd
  clear hop
  have HBw5 := Lib.hid (HBw4.out.trans (hbw5.mono HBw4.out.size))
  have HWD := Lib.hid (HWD.out.below hbw5)
  have HP1 := Lib.hid (HP1.out.below hbw5)
  have HM1 := Lib.hid (HM1.out.below hbw5)
  have K1 := Lib.hid ((hbw5.block _ (Array.getElem?_eq_some_iff.1 K1.out).1).trans K1.out)
  clear hbw5
  go_wp2_with fail
  have hc : ∀ u, Wd w5 u P2 → Calls Tryd.prog 15 #[.slice ao N cap, u] w5 fun e w' => ∃ m, e = .returned (.tuple #[.agg #[.int .u32 (p2.toNat : Int), .int .u32 (q2z.toNat : Int)], m, .int .i64 0]) ∧ OwnI w' w5.heap.size m M2 ∧ Below w5.heap.size w5 w' := fun u hu => by
    have h := closure_any l P2 _ u w5 HWD.out hu
    rw [HK.out.e2, HK.out.c2, HK.out.m2] at h
    exact h
  have HC := Lib.hid hc
  clear hc
  go_at_call 15
  refine (HC.out _ HP2.out).mono ?_
  rintro e w6 ⟨m5, rfl, hoi, hbw6⟩
  have HM2 := Lib.hid hoi.is
  clear hoi HC
  have HBw6 := Lib.hid (HBw5.out.trans (hbw6.mono HBw5.out.size))
  have HWD := Lib.hid (HWD.out.below hbw6)
  have HP1 := Lib.hid (HP1.out.below hbw6)
  have HM1 := Lib.hid (HM1.out.below hbw6)
  have K1 := Lib.hid ((hbw6.block _ (Array.getElem?_eq_some_iff.1 K1.out).1).trans K1.out)
  have HP2 := Lib.hid (HP2.out.below hbw6)
  clear hbw6
  go_wp2_with fail
  clear HP1 HP2
  have k := World.alloc_heap_new w6 (.cells #[.int .u32 (p2.toNat : Int), .int .u32 (q2z.toNat : Int)] 27)
  have hbw7 : Below w6.heap.size w6 (w6.alloc (.cells #[.int .u32 (p2.toNat : Int), .int .u32 (q2z.toNat : Int)] 27)) := (Below.refl _ _).alloc (Nat.le_refl _) _
  generalize w6.alloc (.cells #[.int .u32 (p2.toNat : Int), .int .u32 (q2z.toNat : Int)] 27) = w7 at *
  have HBw7 := Lib.hid (HBw6.out.trans (hbw7.mono HBw6.out.size))
  have HWD := Lib.hid (HWD.out.below hbw7)
  have HM1 := Lib.hid (HM1.out.below hbw7)
  have K1 := Lib.hid ((hbw7.block _ (Array.getElem?_eq_some_iff.1 K1.out).1).trans K1.out)
  have HM2 := Lib.hid (HM2.out.below hbw7)
  clear hbw7
  have K2 := Lib.hid k
  clear k
  generalize w6.heap.size = B2 at *
  obtain ⟨n1, hn1⟩ : ∃ n1, F1.length = n1 := ⟨_, rfl⟩
  obtain ⟨n2, hn2⟩ : ∃ n2, F2.length = n2 := ⟨_, rfl⟩
  have HN1 := Lib.hid hn1; have HN2 := Lib.hid hn2; rw [hn1, hn2] at HLE; clear hn1 hn2
  have hc := at_any l M1 _ _ w7 (by rw [HN.out]; have := HLT.out; omega) HWD.out HM1.out HK.out.i1 (by have := HK.out.n1; rw [HN.out] at this; have := HLT.out; omega)
  rw [HK.out.f1] at hc
  have HC := Lib.hid hc
  clear hc
  go_at_call 35
  refine (HC.out).mono ?_
  rintro e w8 ⟨m6, rfl, hoi, hbw8⟩
  have HF1 := Lib.hid hoi.wd
  obtain ⟨a1, k1, hm, -⟩ := hoi.wd.open; rw [HN1.out] at hm
  subst hm
  clear hoi HC
  have HBw8 := Lib.hid (HBw7.out.trans (hbw8.mono HBw7.out.size))
  have HWD := Lib.hid (HWD.out.below hbw8)
  have HM1 := Lib.hid (HM1.out.below hbw8)
  have K1 := Lib.hid ((hbw8.block _ (Array.getElem?_eq_some_iff.1 K1.out).1).trans K1.out)
  have HM2 := Lib.hid (HM2.out.below hbw8)
  have K2 := Lib.hid ((hbw8.block _ (Array.getElem?_eq_some_iff.1 K2.out).1).trans K2.out)
  clear hbw8
  go_wp2_with fail
  have hc := at_any l M2 _ _ w8 (by rw [HN.out]; have := HLT.out; omega) HWD.out HM2.out HK.out.i2 (by have := HK.out.n2; rw [HN.out] at this; have := HLT.out; omega)
  rw [HK.out.f2] at hc
  have HC := Lib.hid hc
  clear hc
  go_at_call 35
  refine (HC.out).mono ?_
  rintro e w9 ⟨m7, rfl, hoi, hbw9⟩
  have HF2 := Lib.hid hoi.wd
  obtain ⟨a2, k2, hm, -⟩ := hoi.wd.open; rw [HN2.out] at hm
  subst hm
  clear hoi HC
  have HBw9 := Lib.hid (HBw8.out.trans (hbw9.mono HBw8.out.size))
  have HWD := Lib.hid (HWD.out.below hbw9)
  have HM1 := Lib.hid (HM1.out.below hbw9)
  have K1 := Lib.hid ((hbw9.block _ (Array.getElem?_eq_some_iff.1 K1.out).1).trans K1.out)
  have HM2 := Lib.hid (HM2.out.below hbw9)
  have K2 := Lib.hid ((hbw9.block _ (Array.getElem?_eq_some_iff.1 K2.out).1).trans K2.out)
  have HF1 := Lib.hid (HF1.out.below hbw9)
  clear hbw9
  go_wp2_with fail
  clear HM2 HF2
  have hc : ∀ u, Wd w9 u F1 → Calls Tryd.prog 15 #[.slice ao N cap, u] w9 fun e w' => ∃ m, e = .returned (.tuple #[.agg #[.int .u32 (p1.toNat : Int), .int .u32 (q1.toNat : Int)], m, .int .i64 0]) ∧ OwnI w' w9.heap.size m M1 ∧ Below w9.heap.size w9 w' := fun u hu => by
    have h := closure_any l F1 _ u w9 HWD.out hu
    rw [HK.out.e3, HK.out.c3, HK.out.m3] at h
    exact h
  have HC := Lib.hid hc
  clear hc
  go_at_call 15
  refine (HC.out _ HF1.out).mono ?_
  rintro e w10 ⟨m8, rfl, hoi, hbw10⟩
  have HM3 := Lib.hid hoi.is
  clear hoi HC
  have HBw10 := Lib.hid (HBw9.out.trans (hbw10.mono HBw9.out.size))
  have HWD := Lib.hid (HWD.out.below hbw10)
  have HM1 := Lib.hid (HM1.out.below hbw10)
  have K1 := Lib.hid ((hbw10.block _ (Array.getElem?_eq_some_iff.1 K1.out).1).trans K1.out)
  have K2 := Lib.hid ((hbw10.block _ (Array.getElem?_eq_some_iff.1 K2.out).1).trans K2.out)
  have HF1 := Lib.hid (HF1.out.below hbw10)
  clear hbw10
  go_wp2_with fail
  have k := World.alloc_heap_new w10 (.cells #[.int .u32 (p1.toNat : Int), .int .u32 (q1.toNat : Int)] 27)
  have hbw11 : Below w10.heap.size w10 (w10.alloc (.cells #[.int .u32 (p1.toNat : Int), .int .u32 (q1.toNat : Int)] 27)) := (Below.refl _ _).alloc (Nat.le_refl _) _
  generalize w10.alloc (.cells #[.int .u32 (p1.toNat : Int), .int .u32 (q1.toNat : Int)] 27) = w11 at *
  have HBw11 := Lib.hid (HBw10.out.trans (hbw11.mono HBw10.out.size))
  have HWD := Lib.hid (HWD.out.below hbw11)
  have HM1 := Lib.hid (HM1.out.below hbw11)
  have K1 := Lib.hid ((hbw11.block _ (Array.getElem?_eq_some_iff.1 K1.out).1).trans K1.out)
  have K2 := Lib.hid ((hbw11.block _ (Array.getElem?_eq_some_iff.1 K2.out).1).trans K2.out)
  have HF1 := Lib.hid (HF1.out.below hbw11)
  have HM3 := Lib.hid (HM3.out.below hbw11)
  clear hbw11
  have K3 := Lib.hid k
  clear k
  generalize w10.heap.size = B3 at *
  have hc : Gives 17 #[.slice ao N cap, .slice a1 n1 k1] w11 (.tuple #[.bool true, .int .i64 0]) := by
    have h := is_any l F1 _ _ w11 HWD.out HF1.out
    rw [HK.out.is, HK.out.e3] at h
    exact h
  have HC := Lib.hid hc
  clear hc
  go_at_call 17
  (with_reducible refine Gives.then (HC.out) ?_)
  intro w12 hbw12
  have HBw12 := Lib.hid (HBw11.out.trans (hbw12.mono HBw11.out.size))
  have HWD := Lib.hid (HWD.out.below hbw12)
  have HM1 := Lib.hid (HM1.out.below hbw12)
  have K1 := Lib.hid ((hbw12.block _ (Array.getElem?_eq_some_iff.1 K1.out).1).trans K1.out)
  have K2 := Lib.hid ((hbw12.block _ (Array.getElem?_eq_some_iff.1 K2.out).1).trans K2.out)
  have HF1 := Lib.hid (HF1.out.below hbw12)
  have HM3 := Lib.hid (HM3.out.below hbw12)
  have K3 := Lib.hid ((hbw12.block _ (Array.getElem?_eq_some_iff.1 K3.out).1).trans K3.out)
  clear hbw12
  clear HC
  have e0 : w12.cell? ⟨B1, 0, none⟩ = some (.int .u32 (p1.toNat : Int)) := cell_block K1.out rfl
  have e1 : w12.cell? ⟨B1, 1, none⟩ = some (.int .u32 (q1.toNat : Int)) := cell_block K1.out rfl
  go_wp2_with fail
  have hc : Calls Tryd.prog 23 #[.slice ao N cap, .agg #[.int .u32 (p1.toNat : Int), .int .u32 (q1.toNat : Int)]] w12 fun e w' => ∃ m, e = .returned (.tuple #[m, .int .i64 0]) ∧ OwnI w' w12.heap.size m M1 ∧ Below w12.heap.size w12 w' := by
    have h := select_any l (p1, q1) _ w12 HWD.out
    rw [HK.out.se, HK.out.sm] at h
    exact h
  clear e0 e1
  have HC := Lib.hid hc
  clear hc
  go_at_call 23
  refine (HC.out).mono ?_
  rintro e w13 ⟨m9, rfl, hoi, hbw13⟩
  have HM4 := Lib.hid hoi.is
  clear hoi HC
  have HBw13 := Lib.hid (HBw12.out.trans (hbw13.mono HBw12.out.size))
  have HWD := Lib.hid (HWD.out.below hbw13)
  have HM1 := Lib.hid (HM1.out.below hbw13)
  have K1 := Lib.hid ((hbw13.block _ (Array.getElem?_eq_some_iff.1 K1.out).1).trans K1.out)
  have K2 := Lib.hid ((hbw13.block _ (Array.getElem?_eq_some_iff.1 K2.out).1).trans K2.out)
  have HF1 := Lib.hid (HF1.out.below hbw13)
  have HM3 := Lib.hid (HM3.out.below hbw13)
  have K3 := Lib.hid ((hbw13.block _ (Array.getElem?_eq_some_iff.1 K3.out).1).trans K3.out)
  clear hbw13
  have f10 : w13.cell? ⟨B1, 0, none⟩ = some (.int .u32 (p1.toNat : Int)) := cell_block K1.out rfl
  have f11 : w13.cell? ⟨B1, 1, none⟩ = some (.int .u32 (q1.toNat : Int)) := cell_block K1.out rfl
  have f30 : w13.cell? ⟨B3, 0, none⟩ = some (.int .u32 (p1.toNat : Int)) := cell_block K3.out rfl
  have f31 : w13.cell? ⟨B3, 1, none⟩ = some (.int .u32 (q1.toNat : Int)) := cell_block K3.out rfl
  go_wp2_with fail
  have hc := equal_any M1 M1 _ _ w13 HM3.out HM1.out
  rw [decide_eq_true rfl] at hc
  have HC := Lib.hid hc
  clear hc
  go_at_call 21
  refine Gives.then (HC.out) ?_
  intro w14 hbw14
  have HBw14 := Lib.hid (HBw13.out.trans (hbw14.mono HBw13.out.size))
  have HWD := Lib.hid (HWD.out.below hbw14)
  have HM1 := Lib.hid (HM1.out.below hbw14)
  have K1 := Lib.hid ((hbw14.block _ (Array.getElem?_eq_some_iff.1 K1.out).1).trans K1.out)
  have K2 := Lib.hid ((hbw14.block _ (Array.getElem?_eq_some_iff.1 K2.out).1).trans K2.out)
  have HF1 := Lib.hid (HF1.out.below hbw14)
  have HM3 := Lib.hid (HM3.out.below hbw14)
  have K3 := Lib.hid ((hbw14.block _ (Array.getElem?_eq_some_iff.1 K3.out).1).trans K3.out)
  have HM4 := Lib.hid (HM4.out.below hbw14)
  clear hbw14
  go_wp2_with fail
  clear HC f10 f11 f30 f31
  have hc := equal_any M1 M1 _ _ w14 HM4.out HM1.out
  rw [decide_eq_true rfl] at hc
  have HC := Lib.hid hc
  clear hc
  go_at_call 21
  refine Gives.then (HC.out) ?_
  intro w15 hbw15
  have HBw15 := Lib.hid (HBw14.out.trans (hbw15.mono HBw14.out.size))
  have HWD := Lib.hid (HWD.out.below hbw15)
  have HM1 := Lib.hid (HM1.out.below hbw15)
  have K1 := Lib.hid ((hbw15.block _ (Array.getElem?_eq_some_iff.1 K1.out).1).trans K1.out)
  have K2 := Lib.hid ((hbw15.block _ (Array.getElem?_eq_some_iff.1 K2.out).1).trans K2.out)
  have HF1 := Lib.hid (HF1.out.below hbw15)
  have HM3 := Lib.hid (HM3.out.below hbw15)
  have K3 := Lib.hid ((hbw15.block _ (Array.getElem?_eq_some_iff.1 K3.out).1).trans K3.out)
  have HM4 := Lib.hid (HM4.out.below hbw15)
  clear hbw15
  go_wp2_with fail
  clear HC
  clear HM1 HM3 HM4 K3
  go_at_call 34
  refine (HPA1.out _ _ HWD.out).mono ?_
  rintro e w16 ⟨m10, rfl, hop, hbw16⟩
  have HP1 := Lib.hid hop.wd
  obtain ⟨a3, k3, hm, -, -, hcc⟩ := hop.wd.open
  obtain ⟨n3, hn3⟩ : ∃ n3, P1.length = n3 := ⟨_, rfl⟩
  rw [hn3] at hm
  subst hm
  have HCC := Lib.hid hcc; have HN3 := Lib.hid hn3
  have l3 : n3 ≤ 9223372036854775807 := by have := hop.wd.lenle; omega
  clear hop hcc hn3
  have HBw16 := Lib.hid (HBw15.out.trans (hbw16.mono HBw15.out.size))
  have HWD := Lib.hid (HWD.out.below hbw16)
  have K1 := Lib.hid ((hbw16.block _ (Array.getElem?_eq_some_iff.1 K1.out).1).trans K1.out)
  have K2 := Lib.hid ((hbw16.block _ (Array.getElem?_eq_some_iff.1 K2.out).1).trans K2.out)
  have HF1 := Lib.hid (HF1.out.below hbw16)
  clear hbw16
  go_wp2_with fail
  go_loopw [26] (fun i wr => ∃ k : Nat, k ≤ n3 ∧ i = .int .i64 (k : Int) ∧ Below w16.heap.size w16 wr) (fun i _ => n3 - (intOf i).toNat)
  case atStart => exact ⟨0, by omega, rfl, Below.refl _ _⟩
  case round =>
  obtain ⟨k, hk, rfl, hw⟩ := hrel
  by_cases hlt : k < n3
  · have hkl : k < P1.length := by rw [HN3.out]; exact hlt
    obtain ⟨g, off, hao, lg, d0, d1⟩ := HCC.out k hkl
    subst hao
    have d0 := (hw.cell (p := ⟨g, _, none⟩) lg).trans d0
    have d1 := (hw.cell (p := ⟨g, _, none⟩) lg).trans d1
    have zb := (Array.getElem?_eq_some_iff.1 K1.out).1
    have c0 : wr.cell? ⟨B1, 0, none⟩ = some (.int .u32 (p1.toNat : Int)) := (hw.cell (p := ⟨B1, _, none⟩) zb).trans (cell_block K1.out rfl)
    have c1 : wr.cell? ⟨B1, 1, none⟩ = some (.int .u32 (q1.toNat : Int)) := (hw.cell (p := ⟨B1, _, none⟩) zb).trans (cell_block K1.out rfl)
    obtain ⟨hst, hxv⟩ := HK.out.p1 P1[k] (List.getElem_mem hkl)
    have hsc := gv_st P1[k] (p1, q1) hxv HK.out.v1
    rw [hst] at hsc
    generalize P1[k] = x at *
    obtain ⟨xp, xm⟩ := x
    simp only at d0 d1 hsc
    have HSC := Lib.hid hsc; have HW := Lib.hid hw
    have hk3 : (k : Int) < (n3 : Int) := by omega
    have hk0 : (0 : Int) ≤ (k : Int) := by omega
    clear hsc hw hst hxv HCC
    go_wp2_with fail
    go_region_with (go_at_call 36; (with_reducible refine Gives.then (HSC.out _) ?_); intro w90 hb90; have HW90 := Lib.hid (HW.out.drew.trans (hb90.mono HW.out.size)); clear hb90)
    all_goals clear d0 d1 c0 c1
    all_goals (
      go_wp2_with fail
      go_roundw
      case rel => exact ⟨k + 1, by omega, by go_num, HW90.out⟩
      case measure => simp [intOf]; omega)
  obtain rfl : k = n3 := by omega
  have hbR := hw
  clear hw hlt HCC
  have HBwr := Lib.hid (HBw16.out.trans (hbR.mono HBw16.out.size))
  have HF1 := Lib.hid (HF1.out.below hbR)
  have K2 := Lib.hid ((hbR.block _ (Array.getElem?_eq_some_iff.1 K2.out).1).trans K2.out)
  clear hbR
  obtain ⟨a1x, k1x, hm, -, -, hcc⟩ := HF1.out.open
  rw [HN1.out] at hm
  obtain ⟨rfl, rfl⟩ : a1 = a1x ∧ k1 = k1x := by injection hm with x y z; exact ⟨x, z⟩
  have HCC := Lib.hid hcc
  have l4 : n1 ≤ 9223372036854775807 := by have := HF1.out.lenle; rw [HN1.out] at this; omega
  clear hcc hm
  go_wp2_with fail
  have hz0 : s1 = 0 ∨ s1 ≠ 0 := by omega
  rcases hz0 with hs0 | hs0
  · subst hs0
    obtain ⟨wS, hS⟩ : ∃ x, x = wr := ⟨_, rfl⟩
    subst hS
    go_loopw [27] (fun i wi => i = .int .i64 0 ∧ wi = wS) (fun i _ => 0)
    case atStart => exact ⟨rfl, rfl⟩
    case round =>
    obtain ⟨rfl, rfl⟩ := hrel
    go_wp2_with fail
    all_goals (
      go_at_call 14
      refine Gives.then (works_any _ (HT.out.below HBwr.out LT.out) (Nat.lt_of_lt_of_le LT.out HBwr.out.size)) ?_
      intro w6 hb6
      have HW6 := Lib.hid (HBwr.out.trans (hb6.mono HBwr.out.size))
      clear hb6
      go_wp2_with fail
      go_returns
      exact ⟨rfl, HW6.out⟩)
  · obtain ⟨wS, hS⟩ : ∃ x, x = wr := ⟨_, rfl⟩
    subst hS
    have HP2 := Lib.hid (HK.out.p2 hs0)
    have hle := HLE.out hs0
    have q1 : ((s1 : Int) != 0) = true := by rw [bne_iff_ne]; omega
    have q2 : ((s1 : Int) == 0) = false := by rw [beq_eq_false_iff_ne]; omega
    have q3 : (s1 = 0) = False := by simpa using hs0
    have q4 : decide ((n1 : Int) ≤ (n2 : Int)) = true := decide_eq_true (by omega)
    have q4' : decide (n1 ≤ n2) = true := decide_eq_true hle
    go_loopw [27] (fun i wi => ∃ k : Nat, k ≤ n1 ∧ i = .int .i64 (k : Int) ∧ Below wS.heap.size wS wi) (fun i _ => n1 - (intOf i).toNat)
    case atStart => exact ⟨0, by omega, rfl, Below.refl _ _⟩
    case round =>
    obtain ⟨k, hk, rfl, hw⟩ := hrel
    by_cases hlt : k < n1
    · have hkl : k < F1.length := by rw [HN1.out]; exact hlt
      obtain ⟨g, off, hao, lg, d0, d1⟩ := HCC.out k hkl
      subst hao
      have d0 := (hw.cell (p := ⟨g, _, none⟩) lg).trans d0
      have d1 := (hw.cell (p := ⟨g, _, none⟩) lg).trans d1
      have zb := (Array.getElem?_eq_some_iff.1 K2.out).1
      have c0 : wr.cell? ⟨B2, 0, none⟩ = some (.int .u32 (p2.toNat : Int)) := (hw.cell (p := ⟨B2, _, none⟩) zb).trans (cell_block K2.out rfl)
      have c1 : wr.cell? ⟨B2, 1, none⟩ = some (.int .u32 (q2z.toNat : Int)) := (hw.cell (p := ⟨B2, _, none⟩) zb).trans (cell_block K2.out rfl)
      have hst := HP2.out F1[k] (List.getElem_mem hkl)
      have hsc := gv_st F1[k] (p2, q2z) (HK.out.pv F1[k] (List.getElem_mem hkl)) HK.out.v2
      rw [hst] at hsc
      generalize F1[k] = x at *
      obtain ⟨xp, xm⟩ := x
      simp only at d0 d1 hsc
      have HSC := Lib.hid hsc; have HW := Lib.hid hw
      have hk3 : (k : Int) < (n1 : Int) := by omega
      have hk0 : (0 : Int) ≤ (k : Int) := by omega
      clear hsc hw hst HCC
      go_wp2_with fail
      go_region_with (go_at_call 36; (with_reducible refine Gives.then (HSC.out _) ?_); intro w95 hb95; have HW95 := Lib.hid (HW.out.drew.trans (hb95.mono HW.out.size)); clear hb95)
      all_goals clear d0 d1 c0 c1
      all_goals (
        go_wp2_with fail
        go_roundw
        case rel => exact ⟨k + 1, by omega, by go_num, HW95.out⟩
        case measure => simp [intOf]; omega)
    · obtain rfl : k = n1 := by omega
      have HW := Lib.hid (HBwr.out.trans (hw.mono HBwr.out.size))
      clear hw hlt HCC
      go_wp2_with fail
      go_at_call 14
      refine Gives.then (works_any _ (HT.out.below HW.out LT.out) (Nat.lt_of_lt_of_le LT.out HW.out.size)) ?_
      intro w6 hb6
      have HW6 := Lib.hid (HW.out.trans (hb6.mono HW.out.size))
      clear hb6
      go_wp2_with fail
      go_returns
      exact ⟨rfl, HW6.out⟩
end Go.Proofs.YtpnmapfabjdfjaaDoor

/-
  NaturalShort, walked.
-/
namespace Go.Proofs.YtpnmapfabjdfjaaDoor
open Go.RowKit Go.Sort
theorem msL_congr {c d : Snd} : ∀ {l : List Snd} (i : Nat), (∀ x ∈ l, sat x c = sat x d) → msL c l i = msL d l i
  | [], _, _ => rfl
  | x :: l, i, h => by
    unfold msL
    rw [h x (by simp), msL_congr (i + 1) fun y hy => h y (List.mem_cons_of_mem _ hy)]
theorem Sho.ms {l : List Snd} {c r : Snd} (h : Sho l c r) : msL r l 0 = msL c l 0 := msL_congr 0 fun x hx => by
  rw [Bool.eq_iff_iff]
  have h1 := @mem_flt r x l
  have h2 := @mem_flt c x l
  rw [h.mem] at h1
  constructor
  · intro hs; exact (h2.1 (h1.2 ⟨hx, hs⟩)).2
  · intro hs; exact (h1.1 (h2.2 ⟨hx, hs⟩)).2
/-- What NaturalShort looks at. -/
structure ShP (l P : List Snd) (C : Snd) (M : List Nat) (B : Bool) (R : Snd) : Prop where
  e : cloE l P = 0
  c : cloC l P = C
  m : cloM l P = M
  is : isB l P = B
  b : B = decide (M.length = P.length)
  r : shoS l P = R
  no : B = false → R = (0#32, 0#32)
  yes : B = true → selE l R = 0 ∧ selM l R = M ∧ vld R.1 R.2 = true ∧ sat C R = true ∧ ∀ f, f < 24 → getV R.1 R.2 f ≠ 0 → selE l (woS R f) = 0 ∧ M.length < (selM l (woS R f)).length ∧ (selM l (woS R f)).length ≤ l.length
  v : vld C.1 C.2 = true
  n : M.length ≤ l.length
theorem shP_of {l : List Snd} (a : Nat) (hg : Good l) (hn : l ≠ []) (hl : l.length ≤ 24) : ∃ P C M B R, ptL l a = P ∧ ShP l P C M B R := by
  have hck := hg.ck (most := 256) (by omega)
  have hv : ∀ x ∈ l, vld x.1 x.2 = true := fun x hx => (hg.2 x hx).1
  have n1 := ptL_ne a hn
  have u1 : ∀ x ∈ ptL l a, x ∈ l := ptL_mem
  have e1 := clo_zero hck n1 u1
  have v1 : vld (cmS (ptL l a)).1 (cmS (ptL l a)).2 = true := cmS_vld fun x hx => hv x (u1 x hx)
  have hnd : (ptL l a).Nodup := (ptL_sub l a).nodup hg.1
  have hse : ∀ c : Snd, vld c.1 c.2 = true → selE l c = 0 := fun c hc => by unfold selE; rw [if_neg (fun e => e hck), if_pos hc]
  have hsm : ∀ c : Snd, vld c.1 c.2 = true → selM l c = msL c l 0 := fun c hc => by unfold selM; rw [if_pos (hse c hc)]
  have hsho := shS_sho (l := l) (c := cmS (ptL l a)) (by omega) v1
  refine ⟨_, cmS (ptL l a), msL (cmS (ptL l a)) l 0, isB l (ptL l a), shoS l (ptL l a), rfl, ?_⟩
  exact {
    e := e1, c := clo_C e1, m := clo_M e1, is := rfl
    b := by rw [isB_len e1 hnd, clo_M e1]
    r := rfl
    no := fun h => by unfold shoS; rw [h]; rfl
    yes := fun h => by
      have hR : shoS l (ptL l a) = shS l (cmS (ptL l a)) := by unfold shoS; rw [if_pos h]
      rw [hR]
      have hsub := (sat_iff _ _).1 hsho.sub
      have hrv : vld (shS l (cmS (ptL l a))).1 (shS l (cmS (ptL l a))).2 = true := sub_vld (c := cmS (ptL l a)) ⟨by rw [BitVec.and_comm]; exact hsub.1, by rw [BitVec.and_comm]; exact hsub.2⟩ v1
      refine ⟨hse _ hrv, by rw [hsm _ hrv]; exact hsho.ms, hrv, hsho.sub, fun f hf hgf => ?_⟩
      have hwv : vld (woS (shS l (cmS (ptL l a))) f).1 (woS (shS l (cmS (ptL l a))) f).2 = true := vld_and (q := ~~~bit f) (n := ~~~bit f) hrv
      refine ⟨hse _ hwv, ?_, ?_⟩
      · rw [hsm _ hwv, msL_fl_len, msL_fl_len]
        exact hsho.all f hf hgf
      · rw [hsm _ hwv]; exact msL_len _ _ _
    v := v1
    n := msL_len _ _ _ }
set_option maxRecDepth 100000 in
set_option maxHeartbeats 8000000 in
theorem short_any (l0 : List (Nat × Nat)) (v0 : Value) (a : Nat) (ha : a < 4294967296) (w : World) (h0 : Pz w v0 l0) (hT : Tab w) (lT : 0 < w.heap.size) : Gives 8 #[v0, .int .u32 (a : Int)] w (.bool true) := by
  unfold Gives
  have HT := Lib.hid hT; have LT := Lib.hid lT; have HDI := Lib.hid (different_any l0 v0 w h0); have HB0 := Lib.hid (Below.refl w.heap.size w)
  clear hT lT
  obtain ⟨ao0, cap0, rfl, -, -, -⟩ := h0.open
  clear h0
  go_enter Tryd.func8, Tryd.ntmps8
  go_wp2_with fail
  go_at_call 33
  refine HDI.out.mono ?_
  rintro e w1 ⟨m1, l, rfl, ho1, hg1, hs1, hb1⟩
  obtain ⟨ao, cap, hv1, c1, cm1, hc⟩ := ho1.wd.open
  obtain ⟨N, hN⟩ : ∃ N, l.length = N := ⟨_, rfl⟩
  have hwd := ho1.wd
  rw [hN] at hv1 hs1
  subst hv1
  have l1 : N ≤ 9223372036854775807 := by omega
  have HWD := Lib.hid hwd; have HBw1 := Lib.hid hb1; have HN := Lib.hid hN; have HG := Lib.hid hg1
  clear hc hwd hb1 ho1 HDI c1 cm1 hN hg1
  by_cases hz : N = 0
  · have g1 : ((N : Int) == 0) = true := by rw [hz]; rfl
    clear hz
    go_wp2_with fail
    go_at_call 14
    refine Gives.then (works_any _ (HT.out.below HBw1.out LT.out) (Nat.lt_of_lt_of_le LT.out HBw1.out.size)) ?_
    intro w6 hb6
    have HW6 := Lib.hid (HBw1.out.trans (hb6.mono HBw1.out.size))
    clear hb6
    go_wp2_with fail
    go_returns
    exact ⟨rfl, HW6.out⟩
  have g1 : ((N : Int) == 0) = false := by rw [beq_eq_false_iff_ne]; omega
  have hln : l ≠ [] := fun e => hz (by rw [← HN.out, e]; rfl)
  obtain ⟨P, C, M, B, R, hp, hK⟩ := shP_of (l := l) a HG.out hln (by rw [HN.out]; exact hs1)
  have hpa1 := fun W v h => part_any l a v W ha (by rw [HN.out]; exact hs1) h
  rw [hp] at hpa1
  have HPA1 := Lib.hid hpa1; have HK := Lib.hid hK; have HLT := Lib.hid hs1
  have hMN := hK.n
  rw [HN.out] at hMN
  obtain ⟨M1, hM1⟩ : ∃ M1, M.length = M1 := ⟨_, rfl⟩
  obtain ⟨P1, hP1⟩ : ∃ P1, P.length = P1 := ⟨_, rfl⟩
  have hb := hK.b
  rw [hM1] at hMN; rw [hM1, hP1] at hb
  have HM1 := Lib.hid hM1; have HP1 := Lib.hid hP1
  clear hpa1 hK hp hln hs1 hM1 hP1
  obtain ⟨cp, cq⟩ := C
  obtain ⟨rp, rq⟩ := R
  have h0q : ∀ W, (binOp .eql 27 (.agg #[.int .u32 0, .int .u32 0]) (.agg #[.int .u32 0, .int .u32 0])).run Tryd.prog W = .ok (.bool true) W := fun W => by
    have h := snd_eql 0 0 0 0 W
    simpa using h
  go_wp2_with fail
  go_at_call 34
  refine (HPA1.out _ _ HWD.out).mono ?_
  rintro e w2 ⟨m2, rfl, hop, hbw2⟩
  have HPW := Lib.hid hop.wd
  obtain ⟨a2, k2, hm, -⟩ := hop.wd.open
  rw [HP1.out] at hm
  subst hm
  have hp2 := hop.wd.lenle
  rw [HP1.out] at hp2
  clear hop
  have HBw2 := Lib.hid (HBw1.out.trans (hbw2.mono HBw1.out.size))
  have HWD := Lib.hid (HWD.out.below hbw2)
  clear hbw2
  go_wp2_with fail
  have hc : Calls Tryd.prog 15 #[.slice ao N cap, .slice a2 P1 k2] w2 fun e w' => ∃ m, e = .returned (.tuple #[.agg #[.int .u32 (cp.toNat : Int), .int .u32 (cq.toNat : Int)], m, .int .i64 0]) ∧ OwnI w' w2.heap.size m M ∧ Below w2.heap.size w2 w' := by
    have h := closure_any l P _ _ w2 HWD.out HPW.out
    rw [HK.out.c, HK.out.m, HK.out.e] at h
    exact h
  have HC := Lib.hid hc
  clear hc
  go_at_call 15
  refine (HC.out).mono ?_
  rintro e w3 ⟨m3, rfl, hoi, hbw3⟩
  have HMI := Lib.hid hoi.is
  obtain ⟨a3, k3, hm⟩ := hoi.slice
  rw [HM1.out] at hm
  subst hm
  clear hoi HC
  have HBw3 := Lib.hid (HBw2.out.trans (hbw3.mono HBw2.out.size))
  have HWD := Lib.hid (HWD.out.below hbw3)
  have HPW := Lib.hid (HPW.out.below hbw3)
  clear hbw3
  go_wp2_with fail
  have k := World.alloc_heap_new w3 (.cells #[.int .u32 (cp.toNat : Int), .int .u32 (cq.toNat : Int)] 27)
  have hbw4 : Below w3.heap.size w3 (w3.alloc (.cells #[.int .u32 (cp.toNat : Int), .int .u32 (cq.toNat : Int)] 27)) := (Below.refl _ _).alloc (Nat.le_refl _) _
  generalize w3.alloc (.cells #[.int .u32 (cp.toNat : Int), .int .u32 (cq.toNat : Int)] 27) = w4 at *
  have HBw4 := Lib.hid (HBw3.out.trans (hbw4.mono HBw3.out.size))
  have HWD := Lib.hid (HWD.out.below hbw4)
  have HPW := Lib.hid (HPW.out.below hbw4)
  have HMI := Lib.hid (HMI.out.below hbw4)
  clear hbw4
  have KC := Lib.hid k
  clear k
  generalize w3.heap.size = BC at *
  have hc : Gives 17 #[.slice ao N cap, .slice a2 P1 k2] w4 (.tuple #[.bool B, .int .i64 0]) := by
    have h := is_any l P _ _ w4 HWD.out HPW.out
    rw [HK.out.is, HK.out.e] at h
    exact h
  have HC := Lib.hid hc
  clear hc
  go_at_call 17
  (with_reducible refine Gives.then (HC.out) ?_)
  intro w5 hbw5
  have HBw5 := Lib.hid (HBw4.out.trans (hbw5.mono HBw4.out.size))
  have HWD := Lib.hid (HWD.out.below hbw5)
  have HPW := Lib.hid (HPW.out.below hbw5)
  have HMI := Lib.hid (HMI.out.below hbw5)
  have KC := Lib.hid ((hbw5.block _ (Array.getElem?_eq_some_iff.1 KC.out).1).trans KC.out)
  clear hbw5
  go_wp2_with fail
  have hc2 : Gives 19 #[.slice ao N cap, .slice a2 P1 k2] w5 (.tuple #[.agg #[.int .u32 (rp.toNat : Int), .int .u32 (rq.toNat : Int)], .bool B, .int .i64 0]) := by
    have h := shortestE_any l P _ _ w5 HWD.out HPW.out
    rw [HK.out.r, HK.out.is, HK.out.e] at h
    exact h
  clear HC
  have HC := Lib.hid hc2
  clear hc2
  go_at_call 19
  (with_reducible refine Gives.then (HC.out) ?_)
  intro w6 hbw6
  have HBw6 := Lib.hid (HBw5.out.trans (hbw6.mono HBw5.out.size))
  have HWD := Lib.hid (HWD.out.below hbw6)
  have HPW := Lib.hid (HPW.out.below hbw6)
  have HMI := Lib.hid (HMI.out.below hbw6)
  have KC := Lib.hid ((hbw6.block _ (Array.getElem?_eq_some_iff.1 KC.out).1).trans KC.out)
  clear hbw6
  clear HC HPA1
  have k := World.alloc_heap_new w6 (.cells #[.int .u32 (rp.toNat : Int), .int .u32 (rq.toNat : Int)] 27)
  have hbx : Below w6.heap.size w6 (w6.alloc (.cells #[.int .u32 (rp.toNat : Int), .int .u32 (rq.toNat : Int)] 27)) := (Below.refl _ _).alloc (Nat.le_refl _) _
  have KR := Lib.hid k
  have HBX := Lib.hid (HBw6.out.trans (hbx.mono HBw6.out.size))
  have HWX := Lib.hid (HWD.out.below hbx); have HMX := Lib.hid (HMI.out.below hbx); have KCX := Lib.hid ((hbx.block _ (Array.getElem?_eq_some_iff.1 KC.out).1).trans KC.out)
  clear k hbx
  rcases B with _ | _
  · have hz2 := HK.out.no rfl
    obtain ⟨rfl, rfl⟩ : rp = 0#32 ∧ rq = 0#32 := by injection hz2 with x y; exact ⟨x, y⟩
    have g2 : ¬ M1 = P1 := of_decide_eq_false hb.symm
    have f0 : (w6.alloc (.cells #[.int .u32 0, .int .u32 0] 27)).cell? ⟨w6.heap.size, 0, none⟩ = some (.int .u32 0) := cell_block (World.alloc_heap_new _ _) rfl
    have f1 : (w6.alloc (.cells #[.int .u32 0, .int .u32 0] 27)).cell? ⟨w6.heap.size, 1, none⟩ = some (.int .u32 0) := cell_block (World.alloc_heap_new _ _) rfl
    clear hz2 hb
    go_wp2_with fail
    go_at_call 14
    refine Gives.then (works_any _ (HT.out.below HBX.out LT.out) (Nat.lt_of_lt_of_le LT.out HBX.out.size)) ?_
    intro w6 hb6
    have HW6 := Lib.hid (HBX.out.trans (hb6.mono HBX.out.size))
    clear hb6
    go_wp2_with fail
    go_returns
    exact ⟨rfl, HW6.out⟩
  · have hy := HK.out.yes rfl
    obtain rfl : M1 = P1 := of_decide_eq_true hb.symm
    have HY := Lib.hid hy
    have f0 : (w6.alloc (.cells #[.int .u32 (rp.toNat : Int), .int .u32 (rq.toNat : Int)] 27)).cell? ⟨w6.heap.size, 0, none⟩ = some (.int .u32 (rp.toNat : Int)) := cell_block KR.out rfl
    have f1 : (w6.alloc (.cells #[.int .u32 (rp.toNat : Int), .int .u32 (rq.toNat : Int)] 27)).cell? ⟨w6.heap.size, 1, none⟩ = some (.int .u32 (rq.toNat : Int)) := cell_block KR.out rfl
    clear hy hb
    go_wp2_with fail
    generalize w6.alloc (.cells #[.int .u32 (rp.toNat : Int), .int .u32 (rq.toNat : Int)] 27) = wx at *
    generalize w6.heap.size = BR at *
    clear f0 f1
    have hc : Calls Tryd.prog 23 #[.slice ao N cap, .agg #[.int .u32 (rp.toNat : Int), .int .u32 (rq.toNat : Int)]] wx fun e w' => ∃ m, e = .returned (.tuple #[m, .int .i64 0]) ∧ OwnI w' wx.heap.size m M ∧ Below wx.heap.size wx w' := by
      have h := select_any l (rp, rq) _ wx HWX.out
      rw [HY.out.1, HY.out.2.1] at h
      exact h
    have HC := Lib.hid hc
    clear hc
    go_at_call 23
    refine (HC.out).mono ?_
    rintro e w51 ⟨m9, rfl, hoi, hbw51⟩
    have HM4 := Lib.hid hoi.is
    clear hoi HC
    have HBw51 := Lib.hid (HBX.out.trans (hbw51.mono HBX.out.size))
    have HWX := Lib.hid (HWX.out.below hbw51)
    have HMX := Lib.hid (HMX.out.below hbw51)
    have KCX := Lib.hid ((hbw51.block _ (Array.getElem?_eq_some_iff.1 KCX.out).1).trans KCX.out)
    have KR := Lib.hid ((hbw51.block _ (Array.getElem?_eq_some_iff.1 KR.out).1).trans KR.out)
    clear hbw51
    go_wp2_with fail
    have hc := equal_any M M _ _ w51 HM4.out HMX.out
    rw [decide_eq_true rfl] at hc
    have HC := Lib.hid hc
    clear hc
    go_at_call 21
    refine Gives.then (HC.out) ?_
    intro w52 hbw52
    have HBw52 := Lib.hid (HBw51.out.trans (hbw52.mono HBw51.out.size))
    have HWX := Lib.hid (HWX.out.below hbw52)
    have HMX := Lib.hid (HMX.out.below hbw52)
    have KCX := Lib.hid ((hbw52.block _ (Array.getElem?_eq_some_iff.1 KCX.out).1).trans KCX.out)
    have KR := Lib.hid ((hbw52.block _ (Array.getElem?_eq_some_iff.1 KR.out).1).trans KR.out)
    have HM4 := Lib.hid (HM4.out.below hbw52)
    clear hbw52
    clear HM4 HMX
    clear HC
    have fBR0 : w52.cell? ⟨BR, 0, none⟩ = some (.int .u32 (rp.toNat : Int)) := cell_block KR.out rfl
    have fBR1 : w52.cell? ⟨BR, 1, none⟩ = some (.int .u32 (rq.toNat : Int)) := cell_block KR.out rfl
    have fBC0 : w52.cell? ⟨BC, 0, none⟩ = some (.int .u32 (cp.toNat : Int)) := cell_block KCX.out rfl
    have fBC1 : w52.cell? ⟨BC, 1, none⟩ = some (.int .u32 (cq.toNat : Int)) := cell_block KCX.out rfl
    go_wp2_with fail
    have hc := gv_st (cp, cq) (rp, rq) HK.out.v HY.out.2.2.1 w52
    rw [HY.out.2.2.2.1] at hc
    have HC := Lib.hid hc
    clear hc
    go_at_call 36
    (with_reducible refine Gives.then (HC.out) ?_)
    intro w53 hbw53
    have HBw53 := Lib.hid (HBw52.out.trans (hbw53.mono HBw52.out.size))
    have HWX := Lib.hid (HWX.out.below hbw53)
    have KCX := Lib.hid ((hbw53.block _ (Array.getElem?_eq_some_iff.1 KCX.out).1).trans KCX.out)
    have KR := Lib.hid ((hbw53.block _ (Array.getElem?_eq_some_iff.1 KR.out).1).trans KR.out)
    clear hbw53
    clear HC fBR0 fBR1 fBC0 fBC1
    clear KCX
    go_wp2_with fail
    go_loopw [17] (fun i wr => ∃ k : Nat, k ≤ 24 ∧ i = .int .i64 (k : Int) ∧ Below w53.heap.size w53 wr) (fun i _ => 24 - (intOf i).toNat)
    case atStart => exact ⟨0, by omega, rfl, Below.refl _ _⟩
    case round =>
    obtain ⟨k, hk, rfl, hw⟩ := hrel
    have HBR := Lib.hid (HBw53.out.trans (hw.mono HBw53.out.size)); have HWR := Lib.hid (HWX.out.below hw); have KRR := Lib.hid ((hw.block _ (Array.getElem?_eq_some_iff.1 KR.out).1).trans KR.out)
    have HW := Lib.hid hw
    clear hw
    by_cases hlt : k < 24
    · have hk3 : (k : Int) < 24 := by omega
      have e0 : wr.cell? ⟨BR, 0, none⟩ = some (.int .u32 (rp.toNat : Int)) := cell_block KRR.out rfl
      have e1 : wr.cell? ⟨BR, 1, none⟩ = some (.int .u32 (rq.toNat : Int)) := cell_block KRR.out rfl
      have hgt := get_ok rp rq k HY.out.2.2.1 hlt
      have hwi := with_any (rp, rq) k 0 HY.out.2.2.1 hlt (.inr (.inl rfl))
      have hwe : (withP rp k 0 = (woS (rp, rq) k).1) ∧ (withM rq k 0 = (woS (rp, rq) k).2) := ⟨rfl, rfl⟩
      rw [hwe.1, hwe.2] at hwi
      have hyf := HY.out.2.2.2.2 k hlt
      try simp only at hyf
      generalize getV rp rq k = gv at *
      have HGT := Lib.hid hgt; have HWI := Lib.hid hwi; have HYF := Lib.hid hyf
      clear hgt hwi hwe hyf
      generalize woS (rp, rq) k = tt at *
      obtain ⟨tp, tq⟩ := tt
      go_wp2_with fail
      go_at_call 37
      refine Gives.then (HGT.out _) ?_
      intro wg hbg
      have HBG := Lib.hid (HBR.out.trans (hbg.mono HBR.out.size)); have HWG := Lib.hid (HWR.out.below hbg); have KRG := Lib.hid ((hbg.block _ (Array.getElem?_eq_some_iff.1 KRR.out).1).trans KRR.out); have HG2 := Lib.hid (HW.out.trans (hbg.mono HW.out.size))
      clear hbg e0 e1
      have e0 : wg.cell? ⟨BR, 0, none⟩ = some (.int .u32 (rp.toNat : Int)) := cell_block KRG.out rfl
      have e1 : wg.cell? ⟨BR, 1, none⟩ = some (.int .u32 (rq.toNat : Int)) := cell_block KRG.out rfl
      by_cases hg0 : gv = 0
      · have gz : (gv == 0) = true := by rw [hg0]; rfl
        clear HYF hg0
        go_wp2_with fail
        go_roundw
        case rel => exact ⟨k + 1, by omega, by go_num, HG2.out⟩
        case measure => simp [intOf]; omega
      · have gz : (gv == 0) = false := by rw [beq_eq_false_iff_ne]; exact hg0
        have hyf := HYF.out hg0
        obtain ⟨y1, y2, y3⟩ := hyf
        obtain ⟨Q, hQ⟩ : ∃ Q, (selM l (tp, tq)).length = Q := ⟨_, rfl⟩
        rw [hQ] at y2 y3
        rw [HM1.out] at y2
        rw [HN.out] at y3
        have y4 : decide ((Q : Int) ≤ (M1 : Int)) = false := decide_eq_false (by omega)
        have y5 : decide (Q ≤ M1) = false := decide_eq_false (by omega)
        have Y1 := Lib.hid y1; have HQ := Lib.hid hQ
        clear HYF hg0 y1 y2 y3 hQ
        go_wp2_with fail
        go_at_call 38
        (with_reducible refine Gives.then (HWI.out _) ?_)
        intro wh hbh
        have hbi : Below wh.heap.size wh (wh.alloc (.cells #[.int .u32 (tp.toNat : Int), .int .u32 (tq.toNat : Int)] 27)) := (Below.refl _ _).alloc (Nat.le_refl _) _
        have ki := World.alloc_heap_new wh (.cells #[.int .u32 (tp.toNat : Int), .int .u32 (tq.toNat : Int)] 27)
        have HBI := Lib.hid ((HBG.out.trans (hbh.mono HBG.out.size)).trans (hbi.mono (HBG.out.trans (hbh.mono HBG.out.size)).size)); have HWI2 := Lib.hid ((HWG.out.below hbh).below hbi); have HG3 := Lib.hid ((HG2.out.trans (hbh.mono HG2.out.size)).trans (hbi.mono (HG2.out.trans (hbh.mono HG2.out.size)).size))
        have i0 : (wh.alloc (.cells #[.int .u32 (tp.toNat : Int), .int .u32 (tq.toNat : Int)] 27)).cell? ⟨wh.heap.size, 0, none⟩ = some (.int .u32 (tp.toNat : Int)) := cell_block ki rfl
        have i1 : (wh.alloc (.cells #[.int .u32 (tp.toNat : Int), .int .u32 (tq.toNat : Int)] 27)).cell? ⟨wh.heap.size, 1, none⟩ = some (.int .u32 (tq.toNat : Int)) := cell_block ki rfl
        clear hbh hbi e0 e1 HWI ki
        go_wp2_with fail
        go_at_call 23
        have hsl := select_any l (tp, tq) _ _ HWI2.out
        rw [Y1.out] at hsl
        refine hsl.mono ?_
        rintro e wj ⟨mj, rfl, hoj, hbj⟩
        obtain ⟨aj, kj, hm⟩ := hoj.slice
        rw [HQ.out] at hm
        subst hm
        have HG4 := Lib.hid (HG3.out.trans (hbj.mono HG3.out.size))
        clear hbj hoj hsl i0 i1
        go_wp2_with fail
        go_roundw
        case rel => exact ⟨k + 1, by omega, by go_num, HG4.out⟩
        case measure => simp [intOf]; omega
    · obtain rfl : k = 24 := by omega
      go_wp2_with fail
      go_at_call 14
      refine Gives.then (works_any _ (HT.out.below HBR.out LT.out) (Nat.lt_of_lt_of_le LT.out HBR.out.size)) ?_
      intro w6 hb6
      have HW6 := Lib.hid (HBR.out.trans (hb6.mono HBR.out.size))
      clear hb6
      go_wp2_with fail
      go_returns
      exact ⟨rfl, HW6.out⟩
end Go.Proofs.YtpnmapfabjdfjaaDoor

/-
  How a number of 32 bits is read.
-/
namespace Go.Proofs.YtpnmapfabjdfjaaDoor
set_option maxRecDepth 100000
open Go.ChangeShapes Go.WideShapes Go.ChangeAt Go.RowKit Go.Joins
theorem open_u32 {H : Type} {enc : TypeId × Value → H} {w : World} {base : Nat} {spare : Nat → Bool} {held : Bool} {r : Reach} {b0 : Nat} {v : Value} {d : DataW H} {p : List MemPlace}
    (hv : Value.okWide Tryd.prog w r b0 25 v) (h : DataW.Trod enc Tryd.prog w base spare held 25 v d p) : ∃ x : Nat, x < 4294967296 ∧ v = .int .u32 x := by
  obtain ⟨n, rfl, _, _, hw⟩ := open_int Tryd.underlying25 hv h
  have b := bounds_u32 hw
  exact ⟨n.toNat, by omega, by rw [show ((n.toNat : Nat) : Int) = n from by omega]⟩
end Go.Proofs.YtpnmapfabjdfjaaDoor
