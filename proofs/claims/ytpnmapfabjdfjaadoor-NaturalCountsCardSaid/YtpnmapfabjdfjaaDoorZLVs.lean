/-
  Lemmas that the theorem of this claim rests on: 8 texts, one behind the other.
-/
import Derived.Test.YtpnmapfabjdfjaaDoorM5
import Derived.Test.YtpnmapfabjdfjaaDoorM7
import Derived.BigQuiet
import Derived.Test.YtpnmapfabjdfjaaDoorM9
import Derived.Test.YtpnmapfabjdfjaaDoorM15
import Derived.Test.YtpnmapfabjdfjaaDoorM6
import Derived.Test.YtpnmapfabjdfjaaDoorM19
set_option linter.unusedSimpArgs false
set_option linter.unusedVariables false

/-
  The sounds whose bit is 1, and the sounds with some indexes.
-/
namespace Go.Proofs.YtpnmapfabjdfjaaDoor
open Go.RowKit Go.Sort
def ptL (l : List Snd) (b : Nat) : List Snd := if pk b l 0 = [] then l.drop (l.length - 1) else pk b l 0
theorem and_pk32 (c k : Nat) (hc : c < 4294967296) : bits .and .u32 ((c : Int) / 2 ^ k) 1 = if c.testBit k then 1 else 0 := by
  have e : ((c : Int) / 2 ^ k) = ((c / 2 ^ k : Nat) : Int) := by simp
  have hy : c / 2 ^ k < 4294967296 := Nat.lt_of_le_of_lt (Nat.div_le_self _ _) hc
  have ht : c.testBit k = decide (c / 2 ^ k % 2 = 1) := Nat.testBit_eq_decide_div_mod_eq
  rw [e, ht]
  generalize c / 2 ^ k = y at *
  have key : bits .and .u32 (y : Int) 1 = ((y % 2 : Nat) : Int) := by
    have h1 : (1 : Int) = ((1 : Nat) : Int) := rfl
    rw [bv_and, h1, BitVec.ofInt_natCast, BitVec.ofInt_natCast, BitVec.toNat_and, BitVec.toNat_ofNat, BitVec.toNat_ofNat, Nat.mod_eq_of_lt (show y < 2 ^ 32 by omega), show 1 % 2 ^ 32 = 2 ^ 1 - 1 by decide, Nat.and_two_pow_sub_one_eq_mod]
  rw [key]
  rcases Nat.mod_two_eq_zero_or_one y with h | h
  · rw [h]; simp
  · rw [h]; simp
/-- The choice so far. -/
def ptK (l : List Snd) (b k : Nat) : List Snd := if k < l.length then pk b (l.take k) 0 else ptL l b
theorem ptK_zero (l : List Snd) (b : Nat) : ptK l b 0 = [] := by
  unfold ptK ptL
  split
  · simp [pk]
  · rename_i h
    have : l = [] := List.eq_nil_of_length_eq_zero (by omega)
    subst this
    simp [pk]
theorem ptK_end (l : List Snd) (b : Nat) : ptK l b l.length = ptL l b := if_neg (by omega)
theorem ptK_succ {l : List Snd} {b k : Nat} (hk : k < l.length) : ptK l b (k + 1) = ptK l b k ++ (if b.testBit k then [l[k]] else if k + 1 = l.length ∧ ptK l b k = [] then [l[k]] else []) := by
  have hsn := pk_snoc b l[k] (l.take k) 0
  rw [← List.take_succ_eq_append_getElem hk, List.length_take, Nat.min_eq_left (by omega), Nat.zero_add] at hsn
  have h1 : ptK l b k = pk b (l.take k) 0 := if_pos hk
  rw [h1]
  by_cases h2 : k + 1 < l.length
  · have h3 : ptK l b (k + 1) = pk b (l.take (k + 1)) 0 := if_pos h2
    rw [h3, hsn]
    congr 1
    rw [if_neg (c := k + 1 = l.length ∧ _) (by omega)]
  · have h4 : k + 1 = l.length := by omega
    have h3 : ptK l b (k + 1) = ptL l b := if_neg (by omega)
    have h5 : l.take (k + 1) = l := List.take_of_length_le (by omega)
    have h6 : l.drop (l.length - 1) = [l[k]] := by
      rw [show l.length - 1 = k from by omega, List.drop_eq_getElem_cons hk, List.drop_of_length_le (by omega)]
    rw [h5] at hsn
    rw [h3, ptL, h6, hsn]
    by_cases hb : b.testBit k = true
    · rw [if_pos hb, if_pos hb, if_neg (by simp)]
    · rw [if_neg hb, if_neg hb, List.append_nil]
      by_cases hp : pk b (l.take k) 0 = []
      · rw [if_pos hp, if_pos ⟨h4, hp⟩, hp]; rfl
      · rw [if_neg hp, if_neg (fun h => hp h.2), List.append_nil]
theorem ptK_len (l : List Snd) (b : Nat) : ∀ k, k ≤ l.length → (ptK l b k).length ≤ k
  | 0, _ => by rw [ptK_zero]; exact Nat.le_refl _
  | k + 1, h => by
    have ih := ptK_len l b k (by omega)
    rw [ptK_succ (by omega), List.length_append]
    split
    · simp; omega
    · split
      · simp; omega
      · simp; omega
set_option maxRecDepth 100000 in
set_option maxHeartbeats 8000000 in
theorem part_any (l : List Snd) (b : Nat) (v : Value) (w : World) (hb : b < 4294967296) (hl : l.length ≤ 24) (h : Wd w v l) : Calls Tryd.prog 34 #[v, .int .u32 (b : Int)] w fun e w' => ∃ m, e = .returned m ∧ Own w' w.heap.size m (ptL l b) ∧ Below w.heap.size w w' := by
  obtain ⟨ao, cap, rfl, c1, m1, hc⟩ := h.open
  obtain ⟨N, hN⟩ : ∃ N, l.length = N := ⟨_, rfl⟩
  have HC := Lib.hid hc; have HN := Lib.hid hN
  rw [hN] at c1 hl ⊢
  have l1 : N ≤ 9223372036854775807 := by omega
  have hend := ptK_end l b
  rw [hN] at hend
  have HE := Lib.hid hend
  clear hc h hN m1 hend
  go_enter Tryd.func34, Tryd.ntmps34
  go_wp2_with fail
  go_loopw [5, 6] (fun u i wr => ∃ k : Nat, k ≤ N ∧ i = .int .i64 (k : Int) ∧ Own wr w.heap.size u (ptK l b k) ∧ Below w.heap.size w wr) (fun _ i _ => N - (intOf i).toNat)
  case atStart => exact ⟨0, by omega, rfl, by rw [ptK_zero]; exact Own.nil _ _, Below.refl _ _⟩
  case round =>
    obtain ⟨k, hk, rfl, ho, hw⟩ := hrel
    obtain ⟨oa, oc, hov, -, -, -⟩ := ho.wd.open
    obtain ⟨n, hn⟩ : ∃ n, (ptK l b k).length = n := ⟨_, rfl⟩
    rw [hn] at hov
    subst hov
    have hn2 := ptK_len l b k (by rw [HN.out]; exact hk)
    rw [hn] at hn2
    have HNn := Lib.hid hn
    by_cases hlt : k < N
    · have hkl : k < l.length := by rw [HN.out]; exact hlt
      obtain ⟨g, off, hao, lg, d0, d1⟩ := HC.out k hkl
      subst hao
      have d0 := (hw.cell (p := ⟨g, _, none⟩) lg).trans d0
      have d1 := (hw.cell (p := ⟨g, _, none⟩) lg).trans d1
      have hsn := ptK_succ (b := b) hkl
      rw [HN.out] at hsn
      have hnil : (ptK l b k = []) ↔ n = 0 := by rw [← hn]; exact List.length_eq_zero_iff.symm
      have HSN := Lib.hid hsn; have HNI := Lib.hid hnil
      clear hsn HC hnil hn
      generalize l[k] = x at *
      obtain ⟨p, m⟩ := x
      simp only at d0 d1 HSN
      have hab := and_pk32 b k hb
      have hbo := (Below.refl wr.heap.size wr).alloc (Nat.le_refl _) (.cells #[.int .u32 (p.toNat : Int), .int .u32 (m.toNat : Int)] 27)
      have HWO := Lib.hid (wd_one wr p m); have HZ := Lib.hid hw.size
      have HO := Lib.hid ho; have HW := Lib.hid hw; have HO3 := Lib.hid (ho.below hbo); have HW3 := Lib.hid (hw.trans (hbo.mono hw.size))
      have hk3 : (k : Int) < (N : Int) := by omega
      have hk0 : (0 : Int) ≤ (k : Int) := by omega
      have hw8 : IntKind.i64.wrap ((N : Int) - 1) = (N : Int) - 1 := by rw [IntKind.wrap_i64]; omega
      clear ho hw hbo
      rcases ht : b.testBit k with _ | _
      · rw [ht] at hab HSN
        have hab : bits .and .u32 ((b : Int) / 2 ^ k) 1 = 0 := hab
        rw [if_neg (by decide)] at HSN
        by_cases hlast : k + 1 = N
        · have g1 : ((k : Int) == (N : Int) - 1) = true := by rw [beq_iff_eq]; omega
          by_cases hz : n = 0
          · have g2 : ((n : Int) == 0) = true := by rw [hz]; rfl
            rw [if_pos ⟨hlast, HNI.out.2 hz⟩] at HSN
            clear hz hlast ht
            go_wp2_with (at_builtin; refine wpList_app rfl (.tmp 30) (.tmp 35) 22 Tryd.underlying22 rfl w.heap.size (.slice oa n oc) (.slice (some ⟨wr.heap.size, 0, none⟩) 1 1) (ptK l b k) [(p, m)] rfl rfl HO3.out HWO.out (by rw [HNn.out]; simp; omega) (by have := HZ.out; simp only [World.size_alloc]; omega) ?_; intro v4 w4 ho4 hk4 hz4; have HO4 := Lib.hid ho4; have HW4 := Lib.hid (hk4 _ _ (Nat.le_refl _) HW3.out); clear ho4 hk4 hz4)
            go_roundw
            case rel => exact ⟨k + 1, by omega, by go_num, by rw [HSN.out]; exact HO4.out, HW4.out⟩
            case measure => simp [intOf]; omega
          · have g2 : ((n : Int) == 0) = false := by rw [beq_eq_false_iff_ne]; omega
            rw [if_neg (fun h => hz (HNI.out.1 h.2)), List.append_nil] at HSN
            clear hz hlast ht
            go_wp2_with fail
            go_roundw
            case rel => exact ⟨k + 1, by omega, by go_num, by rw [HSN.out]; exact HO.out, HW.out⟩
            case measure => simp [intOf]; omega
        · have g1 : ((k : Int) == (N : Int) - 1) = false := by rw [beq_eq_false_iff_ne]; omega
          rw [if_neg (fun h => hlast h.1), List.append_nil] at HSN
          clear hlast ht
          go_wp2_with fail
          go_roundw
          case rel => exact ⟨k + 1, by omega, by go_num, by rw [HSN.out]; exact HO.out, HW.out⟩
          case measure => simp [intOf]; omega
      · rw [ht] at hab HSN
        have hab : bits .and .u32 ((b : Int) / 2 ^ k) 1 = 1 := hab
        rw [if_pos rfl] at HSN
        clear ht
        go_wp2_with (at_builtin; refine wpList_app rfl (.tmp 30) (.tmp 35) 22 Tryd.underlying22 rfl w.heap.size (.slice oa n oc) (.slice (some ⟨wr.heap.size, 0, none⟩) 1 1) (ptK l b k) [(p, m)] rfl rfl HO3.out HWO.out (by rw [HNn.out]; simp; omega) (by have := HZ.out; simp only [World.size_alloc]; omega) ?_; intro v4 w4 ho4 hk4 hz4; have HO4 := Lib.hid ho4; have HW4 := Lib.hid (hk4 _ _ (Nat.le_refl _) HW3.out); clear ho4 hk4 hz4)
        go_roundw
        case rel => exact ⟨k + 1, by omega, by go_num, by rw [HSN.out]; exact HO4.out, HW4.out⟩
        case measure => simp [intOf]; omega
    · obtain rfl : k = N := by omega
      rw [HE.out] at ho
      have HO := Lib.hid ho; have HW := Lib.hid hw
      clear ho hw hlt HC
      go_wp2_with fail
      go_returns
      exact ⟨_, rfl, HO.out, HW.out⟩
end Go.Proofs.YtpnmapfabjdfjaaDoor

/-
  The sounds with some indexes.
-/
namespace Go.Proofs.YtpnmapfabjdfjaaDoor
open Go.RowKit Go.Sort
/-- Indexes that increase and exist. -/
def Inc (N : Nat) (xs : List Nat) : Prop := (∀ i (h : i < xs.length), xs[i] < N) ∧ ∀ i (h : i + 1 < xs.length), xs[i] < xs[i + 1]
theorem below_drewN {B : Nat} {a w : World} (h : Below B a w) (q : Nat) : Below B a (w.drewN q) := ⟨h.os, h.tape, h.output, h.size, h.block⟩
set_option maxRecDepth 100000 in
set_option maxHeartbeats 8000000 in
theorem at_any (l : List Snd) (xs : List Nat) (v u : Value) (w : World) (hl : l.length ≤ 1000000) (h : Wd w v l) (hu : Is w u xs) (hi : Inc l.length xs) (hx : xs.length ≤ 1000000) : Calls Tryd.prog 35 #[v, u] w fun e w' => ∃ m, e = .returned (.tuple #[m, .bool true]) ∧ Own w' w.heap.size m (xs.map fun i => l.getD i (0#32, 0#32)) ∧ Below w.heap.size w w' := by
  obtain ⟨ao, cap, rfl, c1, m1, hc⟩ := h.open
  obtain ⟨bo, bap, rfl, c2, m2, hd⟩ := hu.open
  obtain ⟨N, hN⟩ : ∃ N, l.length = N := ⟨_, rfl⟩
  obtain ⟨M, hM⟩ : ∃ M, xs.length = M := ⟨_, rfl⟩
  have HC := Lib.hid hc; have HN := Lib.hid hN; have HD := Lib.hid hd; have HM := Lib.hid hM
  rw [hN] at c1 hl hi ⊢
  rw [hM] at c2 hx ⊢
  have l1 : N ≤ 9223372036854775807 := by omega
  have l2 : M ≤ 9223372036854775807 := by omega
  have HI := Lib.hid hi
  clear hc h hN m1 hd hM hi hu m2
  go_enter Tryd.func35, Tryd.ntmps35
  go_wp2_with fail
  go_loopw [6, 7] (fun u i wr => ∃ k : Nat, k ≤ M ∧ i = .int .i64 (k : Int) ∧ Own wr w.heap.size u ((xs.take k).map fun i => l.getD i (0#32, 0#32)) ∧ Below w.heap.size w wr) (fun _ i _ => M - (intOf i).toNat)
  case atStart => exact ⟨0, by omega, rfl, Own.nil _ _, Below.refl _ _⟩
  case round =>
    obtain ⟨k, hk, rfl, ho, hw⟩ := hrel
    obtain ⟨oa, oc, hov, -, -, -⟩ := ho.wd.open
    rw [List.length_map, List.length_take, HM.out, Nat.min_eq_left hk] at hov
    subst hov
    by_cases hlt : k < M
    · have hkl : k < xs.length := by rw [HM.out]; exact hlt
      obtain ⟨g, hbo, lg, d0⟩ := HD.out k hkl
      subst hbo
      have d0 := (hw.cell (p := ⟨g, _, none⟩) lg).trans d0
      have hq := HI.out.1 k hkl
      have hsn : (xs.take (k + 1)).map (fun i => l.getD i (0#32, 0#32)) = (xs.take k).map (fun i => l.getD i (0#32, 0#32)) ++ [l.getD xs[k] (0#32, 0#32)] := by
        rw [List.take_succ_eq_append_getElem hkl, List.map_append]; rfl
      have hpr : 0 < k → ∃ q, wr.cell? ⟨g, k - 1, none⟩ = some (.int .i64 (q : Int)) ∧ (q : Int) < (xs[k] : Int) := fun h0 => by
        obtain ⟨g', hbo', lg', e0⟩ := HD.out (k - 1) (by omega)
        cases hbo'
        refine ⟨xs[k - 1], (hw.cell (p := ⟨g, _, none⟩) lg).trans e0, ?_⟩
        have := HI.out.2 (k - 1) (by omega)
        simp only [show k - 1 + 1 = k from by omega] at this
        exact_mod_cast this
      generalize xs[k] = q at *
      have hql : q < l.length := by rw [HN.out]; exact hq
      have hqd : l.getD q (0#32, 0#32) = l[q] := by simp [List.getD, List.getElem?_eq_getElem hql]
      rw [hqd] at hsn
      obtain ⟨b, off, hao, lb, c0, c1'⟩ := HC.out q hql
      subst hao
      have c0 := (hw.cell (p := ⟨b, _, none⟩) lb).trans c0
      have c1' := (hw.cell (p := ⟨b, _, none⟩) lb).trans c1'
      generalize l[q] = x at *
      obtain ⟨p, m⟩ := x
      simp only at c0 c1'
      have HSN := Lib.hid hsn
      have HO := Lib.hid ho; have HW := Lib.hid hw
      have hk3 : (k : Int) < (M : Int) := by omega
      have hk0 : (0 : Int) ≤ (k : Int) := by omega
      have hq3 : (q : Int) < (N : Int) := by omega
      have hq0 : (0 : Int) ≤ (q : Int) := by omega
      have g1 : decide ((q : Int) < 0) = false := decide_eq_false (by omega)
      have g2 : decide ((N : Int) ≤ (q : Int)) = false := decide_eq_false (by omega)
      have g2' : decide (N ≤ q) = false := decide_eq_false (by omega)
      have hwk : IntKind.i64.wrap ((k : Int) - 1) = (k : Int) - 1 := by rw [IntKind.wrap_i64]; omega
      have HPR := Lib.hid hpr
      have D0 := Lib.hid d0; have C0 := Lib.hid c0; have C1 := Lib.hid c1'
      clear hsn hqd hql hpr HC HD ho hw
      by_cases hk8 : 0 < k
      · obtain ⟨q', e0, hq'⟩ := HPR.out hk8
        have g3 : decide ((0 : Int) < (k : Int)) = true := decide_eq_true (by omega)
        have g3' : decide (0 < k) = true := decide_eq_true hk8
        have g4 : decide ((q : Int) ≤ (q' : Int)) = false := decide_eq_false (by omega)
        have g4' : decide (q ≤ q') = false := decide_eq_false (by omega)
        have hk5 : (k : Int) - 1 < (M : Int) := by omega
        have hk6 : (0 : Int) ≤ (k : Int) - 1 := by omega
        have hk7 : ((k : Int) - 1).toNat = k - 1 := by omega
        clear HPR
        go_wp2_with fail
        go_quiet (fail)
        have hbd : Below wr.heap.size wr (wr.drewN nq) := below_drewN (Below.refl _ _) nq
        have HO2 := Lib.hid (HO.out.below hbd); have HW2 := Lib.hid (HW.out.trans (hbd.mono HW.out.size))
        have D02 : (wr.drewN nq).cell? ⟨g, k, none⟩ = some (.int .i64 (q : Int)) := D0.out
        have C02 : (wr.drewN nq).cell? ⟨b, off + q * 2, none⟩ = some (.int .u32 (p.toNat : Int)) := C0.out
        have C12 : (wr.drewN nq).cell? ⟨b, off + q * 2 + 1, none⟩ = some (.int .u32 (m.toNat : Int)) := C1.out
        clear d0 c0 c1' hbd
        generalize (wr.drewN nq) = w3 at *
        have hbo := (Below.refl w3.heap.size w3).alloc (Nat.le_refl _) (.cells #[.int .u32 (p.toNat : Int), .int .u32 (m.toNat : Int)] 27)
        have HWO := Lib.hid (wd_one w3 p m); have HZ := Lib.hid HW2.out.size
        have HO3 := Lib.hid (HO2.out.below hbo); have HW3 := Lib.hid (HW2.out.trans (hbo.mono HW2.out.size))
        clear hbo
        go_wp2_with (at_builtin; refine wpList_app rfl (.tmp 44) (.tmp 52) 22 Tryd.underlying22 rfl w.heap.size (.slice oa k oc) (.slice (some ⟨w3.heap.size, 0, none⟩) 1 1) _ [(p, m)] rfl rfl HO3.out HWO.out (by rw [List.length_map, List.length_take]; simp; omega) (by have := HZ.out; simp only [World.size_alloc]; omega) ?_; intro v4 w4 ho4 hk4 hz4; have HO4 := Lib.hid ho4; have HW4 := Lib.hid (hk4 _ _ (Nat.le_refl _) HW3.out); clear ho4 hk4 hz4)
        go_roundw
        case rel => exact ⟨k + 1, by omega, by go_num, by rw [HSN.out]; exact HO4.out, HW4.out⟩
        case measure => simp [intOf]; omega
      · have g3 : decide ((0 : Int) < (k : Int)) = false := decide_eq_false (by omega)
        have g3' : decide (0 < k) = false := decide_eq_false hk8
        clear HPR
        go_wp2_with fail
        go_quiet (fail)
        have hbd : Below wr.heap.size wr (wr.drewN nq) := below_drewN (Below.refl _ _) nq
        have HO2 := Lib.hid (HO.out.below hbd); have HW2 := Lib.hid (HW.out.trans (hbd.mono HW.out.size))
        have D02 : (wr.drewN nq).cell? ⟨g, k, none⟩ = some (.int .i64 (q : Int)) := D0.out
        have C02 : (wr.drewN nq).cell? ⟨b, off + q * 2, none⟩ = some (.int .u32 (p.toNat : Int)) := C0.out
        have C12 : (wr.drewN nq).cell? ⟨b, off + q * 2 + 1, none⟩ = some (.int .u32 (m.toNat : Int)) := C1.out
        clear d0 c0 c1' hbd
        generalize (wr.drewN nq) = w3 at *
        have hbo := (Below.refl w3.heap.size w3).alloc (Nat.le_refl _) (.cells #[.int .u32 (p.toNat : Int), .int .u32 (m.toNat : Int)] 27)
        have HWO := Lib.hid (wd_one w3 p m); have HZ := Lib.hid HW2.out.size
        have HO3 := Lib.hid (HO2.out.below hbo); have HW3 := Lib.hid (HW2.out.trans (hbo.mono HW2.out.size))
        clear hbo
        go_wp2_with (at_builtin; refine wpList_app rfl (.tmp 44) (.tmp 52) 22 Tryd.underlying22 rfl w.heap.size (.slice oa k oc) (.slice (some ⟨w3.heap.size, 0, none⟩) 1 1) _ [(p, m)] rfl rfl HO3.out HWO.out (by rw [List.length_map, List.length_take]; simp; omega) (by have := HZ.out; simp only [World.size_alloc]; omega) ?_; intro v4 w4 ho4 hk4 hz4; have HO4 := Lib.hid ho4; have HW4 := Lib.hid (hk4 _ _ (Nat.le_refl _) HW3.out); clear ho4 hk4 hz4)
        go_roundw
        case rel => exact ⟨k + 1, by omega, by go_num, by rw [HSN.out]; exact HO4.out, HW4.out⟩
        case measure => simp [intOf]; omega
    · obtain rfl : k = M := by omega
      have hall : xs.take k = xs := List.take_of_length_le (by rw [HM.out]; exact Nat.le_refl _)
      rw [hall] at ho
      have HO := Lib.hid ho; have HW := Lib.hid hw
      clear ho hw hlt HC HD
      go_wp2_with fail
      go_ret2
      exact ⟨_, rfl, HO.out, HW.out⟩
end Go.Proofs.YtpnmapfabjdfjaaDoor

/-
  Closures, pure: what is common, what satisfies it, and the members.
-/
namespace Go.Proofs.YtpnmapfabjdfjaaDoor
open Go.RowKit Go.Sort
/-- The sounds that satisfy a condition. -/
def flt (c : Snd) (l : List Snd) : List Snd := l.filter fun x => sat x c
theorem msL_at (c : Snd) : ∀ (l pre : List Snd), ((msL c l pre.length).map fun i => (pre ++ l).getD i (0#32, 0#32)) = flt c l
  | [], _ => rfl
  | x :: l, pre => by
    have ih := msL_at c l (pre ++ [x])
    rw [List.append_assoc, List.singleton_append, List.length_append, List.length_singleton] at ih
    have hx : (pre ++ x :: l).getD pre.length (0#32, 0#32) = x := by simp [List.getD]
    unfold msL flt
    by_cases h : sat x c = true
    · rw [if_pos h, List.map_cons, hx, List.filter_cons_of_pos (p := fun x => sat x c) h, ih]; rfl
    · rw [if_neg h, List.filter_cons_of_neg (p := fun x => sat x c) h, ih]; rfl
theorem msL_flt (c : Snd) (l : List Snd) : ((msL c l 0).map fun i => l.getD i (0#32, 0#32)) = flt c l := msL_at c l []
theorem msL_fl_len (c : Snd) (l : List Snd) : (msL c l 0).length = (flt c l).length := by rw [← msL_flt, List.length_map]
theorem msL_ge (c : Snd) : ∀ (l : List Snd) (i : Nat), ∀ x ∈ msL c l i, i ≤ x
  | [], _, _, h => by simp [msL] at h
  | x :: l, i, y, h => by
    unfold msL at h
    split at h
    · rcases List.mem_cons.1 h with rfl | h
      · exact Nat.le_refl _
      · have := msL_ge c l (i + 1) y h; omega
    · have := msL_ge c l (i + 1) y h; omega
theorem msL_pw (c : Snd) : ∀ (l : List Snd) (i : Nat), (msL c l i).Pairwise (· < ·)
  | [], _ => by simp [msL]
  | x :: l, i => by
    unfold msL
    split
    · exact List.pairwise_cons.2 ⟨fun y hy => by have := msL_ge c l (i + 1) y hy; omega, msL_pw c l (i + 1)⟩
    · exact msL_pw c l (i + 1)
theorem msL_inc (c : Snd) (l : List Snd) : Inc l.length (msL c l 0) := by
  refine ⟨fun i h => ?_, fun i h => ?_⟩
  · have := msL_lt c l 0 _ (List.getElem_mem h); omega
  · exact (List.pairwise_iff_getElem.1 (msL_pw c l 0)) i (i + 1) (by omega) h (by omega)
theorem sat_iff (x c : Snd) : sat x c = true ↔ x.1 &&& c.1 = c.1 ∧ x.2 &&& c.2 = c.2 := by unfold sat; rw [Bool.and_eq_true, beq_iff_eq, beq_iff_eq]
theorem sat_refl (x : Snd) : sat x x = true := (sat_iff x x).2 ⟨by simp, by simp⟩
theorem sat_trans {x c d : Snd} (h1 : sat x c = true) (h2 : sat c d = true) : sat x d = true := by
  rw [sat_iff] at *
  exact ⟨by rw [← h2.1, ← BitVec.and_assoc, h1.1], by rw [← h2.2, ← BitVec.and_assoc, h1.2]⟩
theorem sat_anti {c d : Snd} (h1 : sat c d = true) (h2 : sat d c = true) : c = d := by
  rw [sat_iff] at *
  exact Prod.ext (by rw [← h2.1, BitVec.and_comm]; exact h1.1) (by rw [← h2.2, BitVec.and_comm]; exact h1.2)
theorem sat_me {a b c : Snd} (h1 : sat a c = true) (h2 : sat b c = true) : sat (meS a b) c = true := by
  rw [sat_iff] at *
  unfold meS
  exact ⟨by rw [BitVec.and_assoc, h2.1, h1.1], by rw [BitVec.and_assoc, h2.2, h1.2]⟩
theorem sat_fld (c : Snd) : ∀ (l : List Snd) (a : Snd), sat a c = true → (∀ x ∈ l, sat x c = true) → sat (l.foldl meS a) c = true
  | [], _, h, _ => h
  | x :: l, a, h, hl => sat_fld c l _ (sat_me h (hl x (by simp))) (fun y hy => hl y (by simp [hy]))
/-- What all sounds satisfy, their common values do. -/
theorem cm_sat {s : List Snd} {c : Snd} (hn : s ≠ []) (h : ∀ x ∈ s, sat x c = true) : sat (cmS s) c = true := by
  cases s with
  | nil => exact absurd rfl hn
  | cons x l => exact sat_fld c (x :: l) x (h x (by simp)) h
/-- More sounds have fewer values in common. -/
theorem cm_mono {s t : List Snd} (hn : s ≠ []) (h : ∀ x ∈ s, x ∈ t) : sat (cmS s) (cmS t) = true := cm_sat hn (fun x hx => sat_cmS x (h x hx))
theorem mem_flt {c x : Snd} {l : List Snd} : x ∈ flt c l ↔ x ∈ l ∧ sat x c = true := by unfold flt; rw [List.mem_filter]
/-- The closure of a closure is the same. -/
theorem cm_flt {l s : List Snd} (hn : s ≠ []) (h : ∀ x ∈ s, x ∈ l) : cmS (flt (cmS s) l) = cmS s := by
  have hin : ∀ x ∈ s, x ∈ flt (cmS s) l := fun x hx => mem_flt.2 ⟨h x hx, sat_cmS x hx⟩
  have hne : flt (cmS s) l ≠ [] := by
    cases s with
    | nil => exact absurd rfl hn
    | cons a t => intro e; have := hin a (by simp); rw [e] at this; simp at this
  exact sat_anti (cm_sat hne fun x hx => (mem_flt.1 hx).2) (cm_mono hn hin)
theorem flt_ne {l s : List Snd} (hn : s ≠ []) (h : ∀ x ∈ s, x ∈ l) : flt (cmS s) l ≠ [] := by
  cases s with
  | nil => exact absurd rfl hn
  | cons a t => intro e; have : a ∈ flt (cmS (a :: t)) l := mem_flt.2 ⟨h a (by simp), sat_cmS a (by simp)⟩; rw [e] at this; simp at this
theorem set_len' {l : List Snd} (h : l.Nodup) : (setS l).length = l.length := by
  refine Nat.le_antisymm (len_of_sub _ _ (setS_nodup l) (fun x hx => (mem_setS l x).1 hx)) (len_of_sub _ _ h (fun x hx => (mem_setS l x).2 hx))
theorem clo_zero {l s : List Snd} (hc : ckE l 256 = 0) (hn : s ≠ []) (h : ∀ x ∈ s, x ∈ l) : cloE l s = 0 := by
  unfold cloE
  rw [if_neg (fun e => e hc), if_neg (fun e => e.elim hn (fun e => e h))]
theorem clo_C {l s : List Snd} (h : cloE l s = 0) : cloC l s = cmS s := if_pos h
theorem clo_M {l s : List Snd} (h : cloE l s = 0) : cloM l s = msL (cmS s) l 0 := if_pos h
/-- The members of a closure are a natural class. -/
theorem is_flt {l s : List Snd} (hl : l.Nodup) (hc : ckE l 256 = 0) (hn : s ≠ []) (h : ∀ x ∈ s, x ∈ l) : isB l (flt (cmS s) l) = true := by
  have h0 := clo_zero hc (flt_ne hn h) (fun x hx => (mem_flt.1 hx).1)
  unfold isB
  rw [h0, clo_M h0, cm_flt hn h, msL_fl_len, set_len' (show (flt (cmS s) l).Nodup from hl.filter _)]
  simp
theorem isB_len {l s : List Snd} (h : cloE l s = 0) (hs : s.Nodup) : isB l s = decide ((cloM l s).length = s.length) := by
  unfold isB
  rw [h, set_len' hs]
  simp
theorem pk_sub (c : Nat) : ∀ (l : List Snd) (i : Nat), (pk c l i).Sublist l
  | [], _ => by simp [pk]
  | x :: l, i => by
    unfold pk
    split
    · exact (pk_sub c l (i + 1)).cons_cons x
    · exact (pk_sub c l (i + 1)).cons x
theorem pk_more {c d : Nat} (h : ∀ i, c.testBit i = true → d.testBit i = true) : ∀ (l : List Snd) (i : Nat), ∀ x ∈ pk c l i, x ∈ pk d l i
  | [], _, _, h => by simp [pk] at h
  | y :: l, i, x, hx => by
    unfold pk at hx ⊢
    by_cases hc : c.testBit i = true
    · rw [if_pos hc] at hx
      rw [if_pos (h i hc)]
      rcases List.mem_cons.1 hx with rfl | hx
      · simp
      · exact List.mem_cons_of_mem _ (pk_more h l (i + 1) x hx)
    · rw [if_neg hc] at hx
      have := pk_more h l (i + 1) x hx
      split
      · exact List.mem_cons_of_mem _ this
      · exact this
theorem ptL_ne {l : List Snd} (b : Nat) (h : l ≠ []) : ptL l b ≠ [] := by
  unfold ptL
  split
  · intro e
    have := congrArg List.length e
    rw [List.length_drop] at this
    have := List.length_pos_iff.2 h
    simp at *
    omega
  · assumption
theorem ptL_sub (l : List Snd) (b : Nat) : (ptL l b).Sublist l := by
  unfold ptL
  split
  · exact List.drop_sublist _ _
  · exact pk_sub b l 0
theorem ptL_mem {l : List Snd} {b : Nat} : ∀ x ∈ ptL l b, x ∈ l := fun _ h => (ptL_sub l b).subset h
theorem ptL_len (l : List Snd) (b : Nat) : (ptL l b).length ≤ l.length := (ptL_sub l b).length_le
theorem ptL_more {l : List Snd} {c d : Nat} (h0 : c ≠ 0) (hc : c < 2 ^ l.length) (h : ∀ i, c.testBit i = true → d.testBit i = true) : ∀ x ∈ ptL l c, x ∈ ptL l d := by
  have h1 := pk_ne h0 hc
  have h2 : pk d l 0 ≠ [] := by
    obtain ⟨x, hx⟩ := List.exists_mem_of_ne_nil _ h1
    intro e
    have := pk_more h l 0 x hx
    rw [e] at this
    simp at this
  unfold ptL
  rw [if_neg h1, if_neg h2]
  exact pk_more h l 0
end Go.Proofs.YtpnmapfabjdfjaaDoor

/-
  The search for the shortest condition: what it finds, and when (pure).
-/
namespace Go.Proofs.YtpnmapfabjdfjaaDoor
open Go.RowKit Go.Sort
/-- The bit of a crowd. -/
def bitC (c : Cr) (i : Nat) : Bool := if i < 64 then c.1.getLsbD i else if i < 128 then c.2.1.getLsbD (i - 64) else if i < 192 then c.2.2.1.getLsbD (i - 128) else c.2.2.2.getLsbD (i - 192)
theorem bitC_ext {c d : Cr} (h : ∀ i, i < 256 → bitC c i = bitC d i) : c = d := by
  obtain ⟨a0, a1, a2, a3⟩ := c
  obtain ⟨b0, b1, b2, b3⟩ := d
  have e0 : a0 = b0 := BitVec.eq_of_getLsbD_eq fun i hi => by have := h i (by omega); simpa [bitC, hi] using this
  have e1 : a1 = b1 := BitVec.eq_of_getLsbD_eq fun i hi => by
    have := h (64 + i) (by omega)
    simpa [bitC, show ¬ 64 + i < 64 by omega, show 64 + i < 128 by omega] using this
  have e2 : a2 = b2 := BitVec.eq_of_getLsbD_eq fun i hi => by
    have := h (128 + i) (by omega)
    simpa [bitC, show ¬ 128 + i < 64 by omega, show ¬ 128 + i < 128 by omega, show 128 + i < 192 by omega] using this
  have e3 : a3 = b3 := BitVec.eq_of_getLsbD_eq fun i hi => by
    have := h (192 + i) (by omega)
    simpa [bitC, show ¬ 192 + i < 64 by omega, show ¬ 192 + i < 128 by omega, show ¬ 192 + i < 192 by omega] using this
  rw [e0, e1, e2, e3]
theorem bitC_me (c d : Cr) (i : Nat) : bitC (meC c d) i = (bitC c i && bitC d i) := by
  unfold bitC meC
  simp only
  split
  · rw [BitVec.getLsbD_and]
  · split
    · rw [BitVec.getLsbD_and]
    · split
      · rw [BitVec.getLsbD_and]
      · rw [BitVec.getLsbD_and]
theorem bitC_z (i : Nat) : bitC zC i = false := by unfold bitC zC; simp
theorem crC_fold (q j : Nat) (hj : j < 64) : ∀ (xs : List Nat) (s : BitVec 64), (xs.foldl (fun s i => if i / 64 = q then s ||| (1#64 <<< (i % 64)) else s) s).getLsbD j = (s.getLsbD j || decide (q * 64 + j ∈ xs))
  | [], s => by simp
  | x :: xs, s => by
    rw [List.foldl_cons, crC_fold q j hj xs]
    by_cases hq : x / 64 = q
    · rw [if_pos hq, BitVec.getLsbD_or, Bool.or_assoc]
      congr 1
      have e : (1#64 <<< (x % 64)).getLsbD j = decide (j = x % 64) := by
        rw [BitVec.getLsbD_shiftLeft]
        by_cases h1 : j < x % 64
        · rw [decide_eq_true h1, decide_eq_false (show ¬ j = x % 64 by omega)]; simp
        · rw [decide_eq_false h1]
          by_cases h2 : j = x % 64
          · subst h2; simp; omega
          · have : j - x % 64 ≠ 0 := by omega
            rw [decide_eq_false h2]
            simp [BitVec.getLsbD_one, this]
      rw [e, ← Bool.decide_or]
      apply decide_eq_decide.2
      rw [List.mem_cons]
      constructor
      · rintro (h | h)
        · exact .inl (by omega)
        · exact .inr h
      · rintro (h | h)
        · exact .inl (by omega)
        · exact .inr h
    · rw [if_neg hq]
      congr 1
      apply decide_eq_decide.2
      rw [List.mem_cons]
      exact ⟨.inr, fun h => h.elim (fun h => absurd (by omega) hq) id⟩
theorem crC_bit (q : Nat) (xs : List Nat) (j : Nat) (hj : j < 64) : (crC q xs).getLsbD j = decide (q * 64 + j ∈ xs) := by
  unfold crC
  rw [crC_fold q j hj]
  simp
theorem bitC_crT (xs : List Nat) (i : Nat) (hi : i < 256) : bitC (crT xs) i = decide (i ∈ xs) := by
  unfold bitC crT
  simp only
  split
  · rw [crC_bit 0 xs i (by omega)]; simp
  · split
    · rw [crC_bit 1 xs (i - 64) (by omega)]; rw [show 1 * 64 + (i - 64) = i from by omega]
    · split
      · rw [crC_bit 2 xs (i - 128) (by omega)]; rw [show 2 * 64 + (i - 128) = i from by omega]
      · rw [crC_bit 3 xs (i - 192) (by omega)]; rw [show 3 * 64 + (i - 192) = i from by omega]
/-- Crowds tell lists of indexes apart. -/
theorem crT_mem {xs ys : List Nat} (h : crT xs = crT ys) (i : Nat) (hi : i < 256) : i ∈ xs ↔ i ∈ ys := by
  have := congrArg (fun c => bitC c i) h
  simp only [bitC_crT _ i hi] at this
  exact decide_eq_decide.1 this
/-- The crowd is that of the sounds with a property. -/
def Rep (o : List Snd) (p : Snd → Bool) (c : Cr) : Prop := ∀ i, i < 256 → bitC c i = (decide (i < o.length) && p (o.getD i (0#32, 0#32)))
theorem mem_msL (c : Snd) : ∀ (l pre : List Snd) (j : Nat), j ∈ msL c l pre.length ↔ pre.length ≤ j ∧ j < pre.length + l.length ∧ sat ((pre ++ l).getD j (0#32, 0#32)) c = true
  | [], pre, j => by simp [msL]; omega
  | x :: l, pre, j => by
    have ih := mem_msL c l (pre ++ [x]) j
    rw [List.append_assoc, List.singleton_append, List.length_append, List.length_singleton] at ih
    have hx : (pre ++ x :: l).getD pre.length (0#32, 0#32) = x := by simp [List.getD]
    unfold msL
    rw [List.length_cons]
    by_cases h : sat x c = true
    · rw [if_pos h, List.mem_cons, ih]
      constructor
      · rintro (rfl | h2)
        · exact ⟨Nat.le_refl _, by omega, by rw [hx]; exact h⟩
        · exact ⟨by omega, by omega, h2.2.2⟩
      · intro h2
        by_cases hj : j = pre.length
        · exact .inl hj
        · exact .inr ⟨by omega, by omega, h2.2.2⟩
    · rw [if_neg h, ih]
      constructor
      · intro h2; exact ⟨by omega, by omega, h2.2.2⟩
      · intro h2
        have hj : j ≠ pre.length := fun e => h (by have := h2.2.2; rw [e, hx] at this; exact this)
        exact ⟨by omega, by omega, h2.2.2⟩
theorem mem_msL0 (c : Snd) (l : List Snd) (j : Nat) : j ∈ msL c l 0 ↔ j < l.length ∧ sat (l.getD j (0#32, 0#32)) c = true := by
  have := mem_msL c l [] j
  simpa using this
theorem rep_thr (o : List Snd) (v : Snd) : Rep o (fun x => sat x v) (thr o v) := fun i hi => by
  unfold thr
  rw [bitC_crT _ i hi, Bool.eq_iff_iff, decide_eq_true_iff, Bool.and_eq_true, decide_eq_true_iff]
  exact mem_msL0 v o i
theorem sat_zero (x : Snd) : sat x (0#32, 0#32) = true := by unfold sat; simp
theorem Rep.me {o : List Snd} {p q : Snd → Bool} {c d : Cr} (h1 : Rep o p c) (h2 : Rep o q d) : Rep o (fun x => p x && q x) (meC c d) := fun i hi => by
  rw [bitC_me, h1 i hi, h2 i hi]
  cases decide (i < o.length) <;> simp
theorem Rep.congr {o : List Snd} {p q : Snd → Bool} {c : Cr} (h1 : Rep o p c) (h : ∀ x, p x = q x) : Rep o q c := fun i hi => by rw [h1 i hi, h]
theorem rep_bhd (o : List Snd) : ∀ vs, Rep o (fun x => vs.all fun v => sat x v) (bhd o vs)
  | [] => (rep_thr o (0#32, 0#32)).congr fun x => by rw [sat_zero]; rfl
  | v :: vs => ((rep_thr o v).me (rep_bhd o vs)).congr fun x => by rw [List.all_cons]
theorem Rep.zero {o : List Snd} {p : Snd → Bool} {c : Cr} (h : Rep o p c) (hl : o.length ≤ 256) : c = zC ↔ ∀ x ∈ o, p x = false := by
  constructor
  · intro e x hx
    obtain ⟨i, hi, rfl⟩ := List.getElem_of_mem hx
    have := h i (by omega)
    rw [e, bitC_z, decide_eq_true hi, Bool.true_and] at this
    simpa [List.getD, List.getElem?_eq_getElem hi] using this.symm
  · intro hp
    refine bitC_ext fun i hi => ?_
    rw [h i hi, bitC_z]
    by_cases hl : i < o.length
    · rw [decide_eq_true hl, Bool.true_and]
      have := hp _ (List.getElem_mem hl)
      simpa [List.getD, List.getElem?_eq_getElem hl] using this
    · rw [decide_eq_false hl, Bool.false_and]
/-- The values t keep out all others of the crowd. -/
def Kills (o : List Snd) (p : Snd → Bool) (t : List Snd) : Prop := ∀ x ∈ o, p x = true → (t.all fun v => sat x v) = false
theorem srch_some {o : List Snd} (hl : o.length ≤ 256) : ∀ (vs : List Snd) (m : Nat) (p : Snd → Bool) (left : Cr) (t : List Snd), Rep o p left → t.Sublist vs → t.length ≤ m → Kills o p t → (srch o vs m left).isSome = true := by
  intro vs
  induction vs with
  | nil =>
    intro m p left t hr ht _ hk
    have : t = [] := by simpa using ht
    subst this
    have hz : left = zC := (hr.zero hl).2 fun x hx => by
      by_cases h : p x = true
      · have := hk x hx h; simp at this
      · simpa using h
    unfold srch
    rw [if_pos hz]; rfl
  | cons v vs ih =>
    intro m p left t hr ht hm hk
    by_cases hz : left = zC
    · unfold srch; rw [if_pos hz]; rfl
    have hne : ¬ ∀ x ∈ o, p x = false := fun h => hz ((hr.zero hl).2 h)
    have ht0 : t ≠ [] := fun e => hne fun x hx => by
      by_cases h : p x = true
      · have := hk x hx h; rw [e] at this; simp at this
      · simpa using h
    have hm0 : m ≠ 0 := fun e => ht0 (List.eq_nil_of_length_eq_zero (by omega))
    have hs : srch o (v :: vs) m left = srL o (v :: vs) m left := by unfold srch; rw [if_neg hz, if_neg hm0]
    have hs2 : srch o vs m left = srL o vs m left := by unfold srch; rw [if_neg hz, if_neg hm0]
    rw [hs, srL_cons]
    have hb : meC left (bhd o (v :: vs)) = zC := ((hr.me (rep_bhd o (v :: vs))).zero hl).2 fun x hx => by
      by_cases h : p x = true
      · have h2 := hk x hx h
        rw [h, Bool.true_and]
        rw [List.all_eq_false] at h2 ⊢
        obtain ⟨y, hy, h3⟩ := h2
        exact ⟨y, ht.subset hy, h3⟩
      · simp [h]
    rw [if_pos hb]
    by_cases hin : ∃ t', t = v :: t' ∧ t'.Sublist vs
    · obtain ⟨t', rfl, ht'⟩ := hin
      have h1 := ih (m - 1) _ _ t' (hr.me (rep_thr o v)) ht' (by simp at hm; omega) (fun x hx h => by
        rw [Bool.and_eq_true] at h
        have := hk x hx h.1
        rw [List.all_cons, h.2, Bool.true_and] at this
        exact this)
      cases hq : srch o vs (m - 1) (meC left (thr o v)) with
      | some r => rfl
      | none => rw [hq] at h1; cases h1
    · have ht2 : t.Sublist vs := by
        cases ht with
        | cons _ h => exact h
        | cons_cons _ h => exact absurd ⟨_, rfl, h⟩ hin
      have h1 := ih m p left t hr ht2 hm hk
      cases hq : srch o vs (m - 1) (meC left (thr o v)) with
      | some r => rfl
      | none => rw [← hs2]; exact h1
/-- The condition that has just these values. -/
def unL (t : List Snd) : Snd := t.foldr uniS (0#32, 0#32)
theorem srch_found {o : List Snd} (hl : o.length ≤ 256) : ∀ (vs : List Snd) (m : Nat) (p : Snd → Bool) (left : Cr) (r : Snd), Rep o p left → srch o vs m left = some r → ∃ t, t.Sublist vs ∧ t.length ≤ m ∧ r = unL t ∧ Kills o p t := by
  have hzc : ∀ (p : Snd → Bool) (left : Cr), Rep o p left → left = zC → Kills o p [] := fun p left hr hz x hx h => by
    have := (hr.zero hl).1 hz x hx
    rw [h] at this; cases this
  intro vs
  induction vs with
  | nil =>
    intro m p left r hr h
    unfold srch at h
    by_cases hz : left = zC
    · rw [if_pos hz] at h
      obtain rfl := Option.some.inj h
      exact ⟨[], List.Sublist.refl _, Nat.zero_le _, rfl, hzc p left hr hz⟩
    · rw [if_neg hz] at h
      split at h
      · cases h
      · simp [srL] at h
  | cons v vs ih =>
    intro m p left r hr h
    by_cases hz : left = zC
    · unfold srch at h
      rw [if_pos hz] at h
      obtain rfl := Option.some.inj h
      exact ⟨[], List.nil_sublist _, Nat.zero_le _, rfl, hzc p left hr hz⟩
    by_cases hm0 : m = 0
    · unfold srch at h
      rw [if_neg hz, if_pos hm0] at h
      cases h
    have hs : srch o (v :: vs) m left = srL o (v :: vs) m left := by unfold srch; rw [if_neg hz, if_neg hm0]
    have hs2 : srch o vs m left = srL o vs m left := by unfold srch; rw [if_neg hz, if_neg hm0]
    rw [hs, srL_cons] at h
    split at h
    · cases hq : srch o vs (m - 1) (meC left (thr o v)) with
      | some r' =>
        rw [hq] at h
        obtain rfl := Option.some.inj h
        obtain ⟨t, h1, h2, h3, h4⟩ := ih _ _ _ _ (hr.me (rep_thr o v)) hq
        refine ⟨v :: t, h1.cons_cons v, by simp; omega, by rw [h3]; rfl, fun x hx hp => ?_⟩
        rw [List.all_cons]
        by_cases hv : sat x v = true
        · rw [hv, Bool.true_and]; exact h4 x hx (by simp only []; rw [hp, hv]; rfl)
        · simp [hv]
      | none =>
        rw [hq] at h
        simp only at h
        rw [← hs2] at h
        obtain ⟨t, h1, h2, h3, h4⟩ := ih _ _ _ _ hr h
        exact ⟨t, h1.cons v, h2, h3, h4⟩
    · cases h
end Go.Proofs.YtpnmapfabjdfjaaDoor

/-
  What does not depend on the order of an inventory: its classes, its needed features, its gaps (pure).
-/
namespace Go.Proofs.YtpnmapfabjdfjaaDoor
open Go.RowKit Go.Sort
theorem cm_same {s t : List Snd} (h : ∀ x, x ∈ s ↔ x ∈ t) : cmS s = cmS t := by
  by_cases hs : s = []
  · subst hs
    have : t = [] := List.eq_nil_iff_forall_not_mem.2 fun x hx => by have := (h x).2 hx; simp at this
    rw [this]
  · have ht : t ≠ [] := fun e => by
      obtain ⟨x, hx⟩ := List.exists_mem_of_ne_nil _ hs
      have := (h x).1 hx
      rw [e] at this
      simp at this
    exact sat_anti (cm_mono hs fun x hx => (h x).1 hx) (cm_mono ht fun x hx => (h x).2 hx)
theorem pk_half (c : Nat) : ∀ (l : List Snd) (i : Nat), pk c l (i + 1) = pk (c / 2) l i
  | [], _ => rfl
  | x :: l, i => by
    unfold pk
    rw [Nat.testBit_succ, pk_half c l (i + 1)]
/-- The choice of the sounds with a property. -/
def bitsP (p : Snd → Bool) : List Snd → Nat
  | [] => 0
  | x :: l => 2 * bitsP p l + (if p x then 1 else 0)
theorem bitsP_cons (p : Snd → Bool) (x : Snd) (l : List Snd) : bitsP p (x :: l) = 2 * bitsP p l + (if p x then 1 else 0) := rfl
theorem bitsP_lt (p : Snd → Bool) : ∀ l : List Snd, bitsP p l < 2 ^ l.length
  | [] => by simp [bitsP]
  | x :: l => by
    have := bitsP_lt p l
    unfold bitsP
    rw [List.length_cons, Nat.pow_succ]
    split <;> omega
theorem pk_bitsP (p : Snd → Bool) : ∀ l : List Snd, pk (bitsP p l) l 0 = l.filter p
  | [] => rfl
  | x :: l => by
    have ih := pk_bitsP p l
    have e : bitsP p (x :: l) / 2 = bitsP p l := by rw [bitsP_cons]; split <;> omega
    have hb : (bitsP p (x :: l)).testBit 0 = p x := by
      rw [Nat.testBit_zero]
      rw [bitsP_cons]
      cases p x
      · simp
      · simp
    unfold pk
    rw [hb, pk_half, e, ih]
    cases hp : p x
    · rw [List.filter_cons_of_neg (by simp [hp])]; rfl
    · rw [List.filter_cons_of_pos hp]; rfl
/-- The conditions of closures, each once, in the order in which they come up. -/
def dd (l : List Snd) : Nat → List Snd
  | 0 => []
  | c + 1 => if c = 0 then [] else addK (dd l c) (cmS (pk c l 0))
theorem dd_nodup (l : List Snd) : ∀ m, (dd l m).Nodup
  | 0 => by simp [dd]
  | c + 1 => by
    unfold dd
    split
    · simp
    · exact addK_nodup (dd_nodup l c)
theorem dd_len (l : List Snd) : ∀ m, (dd l m).length ≤ m - 1
  | 0 => by simp [dd]
  | c + 1 => by
    have := dd_len l c
    unfold dd
    split
    · simp
    · have h2 := addK_len (dd l c) (cmS (pk c l 0))
      omega
theorem dd_mem (l : List Snd) (C : Snd) : ∀ m, C ∈ dd l m ↔ ∃ c, c ≠ 0 ∧ c < m ∧ C = cmS (pk c l 0)
  | 0 => by simp [dd]
  | m + 1 => by
    have ih := dd_mem l C m
    unfold dd
    by_cases h : m = 0
    · rw [if_pos h]
      constructor
      · intro h2; simp at h2
      · rintro ⟨c, h1, h2, _⟩; omega
    · rw [if_neg h, addK_mem, ih]
      constructor
      · rintro (⟨c, h1, h2, h3⟩ | rfl)
        · exact ⟨c, h1, by omega, h3⟩
        · exact ⟨m, h, by omega, rfl⟩
      · rintro ⟨c, h1, h2, h3⟩
        by_cases hc : c = m
        · subst hc; exact .inr h3
        · exact .inl ⟨c, h1, by omega, h3⟩
theorem dd_all (l : List Snd) (C : Snd) : C ∈ dd l (2 ^ l.length) ↔ ∃ P : List Snd, P ≠ [] ∧ (∀ x ∈ P, x ∈ l) ∧ C = cmS P := by
  rw [dd_mem]
  constructor
  · rintro ⟨c, h1, h2, rfl⟩
    exact ⟨pk c l 0, pk_ne h1 h2, fun x hx => pk_mem hx, rfl⟩
  · rintro ⟨P, h1, h2, rfl⟩
    have hf : ∀ x, x ∈ pk (bitsP (fun x => decide (x ∈ P)) l) l 0 ↔ x ∈ P := fun x => by
      rw [pk_bitsP, List.mem_filter, decide_eq_true_iff]
      exact ⟨fun h => h.2, fun h => ⟨h2 x h, h⟩⟩
    refine ⟨bitsP (fun x => decide (x ∈ P)) l, fun e => ?_, bitsP_lt _ _, (cm_same hf).symm⟩
    obtain ⟨x, hx⟩ := List.exists_mem_of_ne_nil _ h1
    have := (hf x).2 hx
    rw [e] at this
    have hz : ∀ (l : List Snd) (i : Nat), pk 0 l i = [] := by
      intro l
      induction l with
      | nil => intro i; rfl
      | cons y l ih => intro i; unfold pk; rw [Nat.zero_testBit, ih]; rfl
    rw [hz] at this
    simp at this
theorem len_of_sub' {α : Type} [DecidableEq α] : ∀ (a b : List α), a.Nodup → (∀ x ∈ a, x ∈ b) → a.length ≤ b.length
  | [], _, _, _ => Nat.zero_le _
  | x :: a, b, hn, hs => by
    rw [List.nodup_cons] at hn
    have hx := hs x (by simp)
    have h := len_of_sub' a (b.erase x) hn.2 (fun y hy => by
      have hne : y ≠ x := fun e => hn.1 (e ▸ hy)
      exact (List.mem_erase_of_ne hne).2 (hs y (by simp [hy])))
    rw [List.length_erase_of_mem hx] at h
    have := List.length_pos_of_mem hx
    simp
    omega
/-- The number of classes hangs on the sounds alone. -/
theorem dd_same {l l' : List Snd} (h : ∀ x, x ∈ l ↔ x ∈ l') : (dd l (2 ^ l.length)).length = (dd l' (2 ^ l'.length)).length := by
  have hm : ∀ C, C ∈ dd l (2 ^ l.length) ↔ C ∈ dd l' (2 ^ l'.length) := fun C => by
    rw [dd_all, dd_all]
    constructor
    · rintro ⟨P, h1, h2, h3⟩; exact ⟨P, h1, fun x hx => (h x).1 (h2 x hx), h3⟩
    · rintro ⟨P, h1, h2, h3⟩; exact ⟨P, h1, fun x hx => (h x).2 (h2 x hx), h3⟩
  exact Nat.le_antisymm (len_of_sub _ _ (dd_nodup _ _) fun C hC => (hm C).1 hC) (len_of_sub _ _ (dd_nodup _ _) fun C hC => (hm C).2 hC)
theorem addK_map {K L : Type} [DecidableEq K] [DecidableEq L] {g : K → L} {ks : List K} {k : K} (h : ∀ a ∈ ks, g a = g k → a = k) : addK (ks.map g) (g k) = (addK ks k).map g := by
  unfold addK
  by_cases hk : k ∈ ks
  · rw [if_pos hk, if_pos (List.mem_map.2 ⟨k, hk, rfl⟩)]
  · rw [if_neg hk, if_neg (fun hm => by
      obtain ⟨a, ha, e⟩ := List.mem_map.1 hm
      exact hk (h a ha e ▸ ha)), List.map_append]
    rfl
/-- A condition that a closure has. -/
def Clo (l : List Snd) (C : Snd) : Prop := cmS (flt C l) = C
theorem clo_pk {l : List Snd} {c : Nat} (h : pk c l 0 ≠ []) : Clo l (cmS (pk c l 0)) := cm_flt h fun x hx => pk_mem hx
theorem ms_inj {l : List Snd} {C D : Snd} (hc : Clo l C) (hd : Clo l D) (h : ∀ i, i ∈ msL C l 0 ↔ i ∈ msL D l 0) : C = D := by
  rw [← hc, ← hd]
  refine cm_same fun x => ?_
  rw [← msL_flt, ← msL_flt, List.mem_map, List.mem_map]
  exact ⟨fun ⟨i, hi, e⟩ => ⟨i, (h i).1 hi, e⟩, fun ⟨i, hi, e⟩ => ⟨i, (h i).2 hi, e⟩⟩
theorem kk_dd {l : List Snd} (hl : l.length ≤ 256) : ∀ m, m ≤ 2 ^ l.length → kk l m = (dd l m).map fun C => crT (msL C l 0)
  | 0, _ => rfl
  | c + 1, h => by
    have ih := kk_dd hl c (by omega)
    unfold kk dd
    by_cases hc : c = 0
    · rw [if_pos hc, if_pos hc]; rfl
    · rw [if_neg hc, if_neg hc, ih]
      have e : crAt l c = (fun C => crT (msL C l 0)) (cmS (pk c l 0)) := rfl
      rw [e]
      refine addK_map fun a ha hag => ?_
      obtain ⟨d, h1, h2, rfl⟩ := (dd_mem l a c).1 ha
      have hlt : ∀ C : Snd, ∀ i ∈ msL C l 0, i < 256 := fun C i hi => by have := msL_lt C l 0 i hi; omega
      refine ms_inj (clo_pk (pk_ne h1 (by omega))) (clo_pk (pk_ne hc (by omega))) fun i => ?_
      constructor
      · intro hi; exact (crT_mem hag i (hlt _ i hi)).1 hi
      · intro hi; exact (crT_mem hag i (hlt _ i hi)).2 hi
theorem cnt_dd {l : List Snd} (h : ckE l 12 = 0) : cntN l = ((dd l (2 ^ l.length)).length : Int) := by
  have hl := ckE_len h
  unfold cntN
  rw [if_pos h, kk_dd (by omega) _ (Nat.le_refl _), List.length_map]
theorem cnt_same {l l' : List Snd} (h : ckE l 12 = 0) (h' : ckE l' 12 = 0) (hm : ∀ x, x ∈ l ↔ x ∈ l') : cntN l = cntN l' := by rw [cnt_dd h, cnt_dd h', dd_same hm]
theorem cnt_bounds {l : List Snd} (h : ckE l 12 = 0) : (min l.length 1 : Nat) ≤ cntN l ∧ cntN l ≤ ((2 ^ l.length : Nat) : Int) - 1 := by
  rw [cnt_dd h]
  have h1 := dd_len l (2 ^ l.length)
  have h0 := Nat.two_pow_pos l.length
  refine ⟨?_, by omega⟩
  by_cases hn : l = []
  · subst hn; simp
  · have h2 : cmS l ∈ dd l (2 ^ l.length) := (dd_all l _).2 ⟨l, hn, fun _ h => h, rfl⟩
    have := List.length_pos_of_mem h2
    have h3 : min l.length 1 ≤ 1 := Nat.min_le_right _ _
    omega
end Go.Proofs.YtpnmapfabjdfjaaDoor

/-
  The specification's equal, and lists of lists of indexes.
-/
namespace Go.Proofs.YtpnmapfabjdfjaaDoor
open Go.RowKit Go.Sort
set_option maxRecDepth 100000 in
set_option maxHeartbeats 4000000 in
theorem requal_any (xs ys : List Nat) (v u : Value) (w : World) (h1 : Is w v xs) (h2 : Is w u ys) : Gives 69 #[v, u] w (.bool (decide (xs = ys))) := by
  unfold Gives
  obtain ⟨ao, cap, rfl, c1, m1, hc⟩ := h1.open
  obtain ⟨bo, cap', rfl, c2, m2, hd⟩ := h2.open
  clear h1 h2
  obtain ⟨n, hn⟩ : ∃ n, xs.length = n := ⟨_, rfl⟩
  obtain ⟨m, hm⟩ : ∃ m, ys.length = m := ⟨_, rfl⟩
  rw [hn] at c1 ⊢
  rw [hm] at c2 ⊢
  have HN := Lib.hid hn; have HM := Lib.hid hm; have HC := Lib.hid hc; have HD := Lib.hid hd
  have l1 : n ≤ 9223372036854775807 := by unfold maxLen at m1; omega
  have l2 : m ≤ 9223372036854775807 := by unfold maxLen at m2; omega
  clear hn hm hc hd m1 m2
  by_cases hnm : n = m
  · subst hnm
    obtain ⟨R, hR⟩ : ∃ R, decide (xs = ys) = R := ⟨_, rfl⟩
    have HR := Lib.hid hR
    rw [hR]
    clear hR
    go_enter Tryd.func69, Tryd.ntmps69
    go_wp2_with fail
    go_loopw [5] (fun i wr => ∃ k : Nat, k ≤ n ∧ i = .int .i64 (k : Int) ∧ xs.take k = ys.take k ∧ Below w.heap.size w wr) (fun i _ => n - (intOf i).toNat)
    case atStart => exact ⟨0, by omega, rfl, by simp, Below.refl _ _⟩
    case round =>
      obtain ⟨k, hk, rfl, hp, hw⟩ := hrel
      have HP := Lib.hid hp
      clear hp
      by_cases hlt : k < n
      · have hx : k < xs.length := by rw [HN.out]; exact hlt
        have hy : k < ys.length := by rw [HM.out]; exact hlt
        obtain ⟨b, rfl, lb, d0⟩ := HC.out k hx
        obtain ⟨b', rfl, lb', g0⟩ := HD.out k hy
        have d0 := (hw.cell (p := ⟨b, _, none⟩) lb).trans d0
        have g0 := (hw.cell (p := ⟨b', _, none⟩) lb').trans g0
        have hmore := nats_more hx hy HP.out
        have hno := nats_no hx hy
        have HMO := Lib.hid hmore; have HNO := Lib.hid hno; have HW := Lib.hid hw
        clear hmore hno HC HD HP hw
        generalize xs[k] = x at *
        generalize ys[k] = y at *
        by_cases hxy : x = y
        · have HM2 := Lib.hid (HMO.out hxy)
          clear HNO HMO
          subst hxy
          go_wp2_with fail
          go_region
          all_goals go_wp2_with fail
          all_goals (
            go_roundw
            case rel => exact ⟨k + 1, by omega, by go_num, HM2.out, HW.out.drew⟩
            case measure => simp [intOf]; omega)
        · have hr : R = false := by rw [← HR.out]; exact decide_eq_false (HNO.out hxy)
          subst hr
          have e1 : ((x : Int) == (y : Int)) = false := by rw [beq_eq_false_iff_ne]; omega
          have e2 : (x == y) = false := by rw [beq_eq_false_iff_ne]; exact hxy
          clear HNO HMO
          go_wp2_with fail
          go_region
          all_goals go_wp2_with fail
          all_goals go_returns
          all_goals exact ⟨rfl, HW.out.drew⟩
      · obtain rfl : k = n := by omega
        have hr : R = true := by
          rw [← HR.out]
          have hp := HP.out
          rw [List.take_of_length_le (by rw [HN.out]; exact Nat.le_refl _), List.take_of_length_le (by rw [HM.out]; exact Nat.le_refl _)] at hp
          exact decide_eq_true hp
        subst hr
        go_wp2_with fail
        go_returns
        exact ⟨rfl, hw⟩
  · rw [decide_eq_false (fun e => hnm (by rw [← HN.out, ← HM.out, e]))]
    have e1 : ((n : Int) == (m : Int)) = false := by rw [beq_eq_false_iff_ne]; omega
    have e2 : (n == m) = false := by rw [beq_eq_false_iff_ne]; exact hnm
    go_enter Tryd.func69, Tryd.ntmps69
    go_wp2_with fail
    go_returns
    exact ⟨rfl, Below.refl _ _⟩

theorem infoInts : (Tryd.prog.info? 28).map (fun i => (i.zero, i.size, i.bytes)) = some (some (.slice none 0 0), 1, 24) := by kernel_rfl
/-- A row of lists of indexes that the call has made. -/
def OwnJ (w : World) (base : Nat) (v : Value) (cs : List Value) : Prop := w.ownsRow base 28 1 v cs.length cs
theorem OwnJ.nil (w : World) (base : Nat) : OwnJ w base (.slice none 0 0) [] := ⟨rfl, .inl ⟨rfl, rfl⟩⟩
theorem OwnJ.below {w w' : World} {base : Nat} {v : Value} {cs : List Value} (h : OwnJ w base v cs) (hb : Below w.heap.size w w') : OwnJ w' base v cs := by
  obtain ⟨hl, h0 | ⟨g, cap, cur, hv, hg, hh, hr⟩⟩ := h
  · exact ⟨hl, .inl h0⟩
  · exact ⟨hl, .inr ⟨g, cap, cur, hv, hg, (hb.block g (Array.getElem?_eq_some_iff.1 hh).1).trans hh, hr⟩⟩
theorem OwnJ.slice {w : World} {base : Nat} {v : Value} {cs : List Value} (h : OwnJ w base v cs) : ∃ ao cap, v = .slice ao cs.length cap := by
  obtain ⟨hl, ⟨rfl, h0⟩ | ⟨g, cap, cur, rfl, _⟩⟩ := h
  · exact ⟨none, 0, by rw [h0]⟩
  · exact ⟨_, cap, rfl⟩
/-- A row of indexes is no row of lists. -/
theorem own_neJ {w : World} {b b' : Nat} {v u : Value} {xs : List Nat} {cs : List Value} (h : OwnI w b v xs) (h' : OwnJ w b' u cs) : v.ownBlock = none ∨ v.ownBlock ≠ u.ownBlock := by
  obtain ⟨_, ⟨rfl, _⟩ | ⟨g, cap, cur, rfl, _, hh, _⟩⟩ := h
  · exact .inl rfl
  · obtain ⟨_, ⟨rfl, _⟩ | ⟨g', cap', cur', rfl, _, hh', _⟩⟩ := h'
    · exact .inr (by simp [Value.ownBlock])
    · refine .inr fun e => ?_
      simp only [Value.ownBlock, Option.some.injEq] at e
      subst e
      rw [hh] at hh'
      simp at hh'
theorem own_grownJ {w w' : World} {b b' : Nat} {v u : Value} {xs : List Nat} {cs : List Value} (h : OwnI w b v xs) (h' : OwnJ w b' u cs) (hg : w.grownBy w' u.ownBlock) : OwnI w' b v xs := World.ownsRow.kept h hg (own_neJ h h')
/-- append of one list to a row of lists that the call has made. -/
theorem wpList_appJ {ops : Array Oper} {rest : List Oper} {o : Oper} {a : Act} {w : World} {Q : Exit → Act → World → Prop} (hgd : o.guard = none) (s x : Operand)
    (ho : o.op = .call { callee := .builtin .append, args := #[s, x], argTypes := #[98, 98] })
    (base D : Nat) (v y : Value) (cs : List Value) (hs : a.eval s = v) (hx : a.eval x = .slice (some ⟨D, 0, none⟩) 1 1) (hc : w.heap[D]? = some (.cells #[y] 28 (0, 0))) (hy : y.oneCell' = true) (hown : OwnJ w base v cs) (hlen : cs.length + 1 ≤ 1000000000) (hbase : base ≤ w.heap.size)
    (h : ∀ v' w', OwnJ w' base v' (cs ++ [y]) → w.grownBy w' v.ownBlock → wpList Tryd.prog ops Q rest (a.put o.dst v') w') : wpList Tryd.prog ops Q (o :: rest) a w := by
  obtain ⟨i, hi, hz, hs1, hb1⟩ := info_parts infoInts
  refine wpList_append_own w hgd s x 98 ho base _ i _ 1 24 Tryd.underlying98 hi hz hs1 hb1 rfl (by decide) v cs.length cs hs hown ⟨D, 0, none⟩ 1 1 [y] hx (by simp) ?_ ?_ (Nat.le_trans hlen (by decide)) (by omega) hbase ?_
  · intro j z hz2
    match j, hz2 with
    | 0, hz2 => cases hz2; exact cell_block hc rfl
  · intro z hz2
    rw [List.mem_singleton] at hz2
    subst hz2; exact hy
  · intro v' w' ho' hg _
    refine h v' w' ?_ hg
    unfold OwnJ
    rw [List.length_append]
    exact ho'
/-- A list of lists of indexes that the call has made. -/
def OwnF (w : World) (base : Nat) (v : Value) (l : List (Value × List Nat)) : Prop := OwnJ w base v (l.map (·.1)) ∧ ∀ x ∈ l, OwnI w base x.1 x.2
theorem OwnF.nil (w : World) (base : Nat) : OwnF w base (.slice none 0 0) [] := ⟨OwnJ.nil w base, fun x h => by simp at h⟩
theorem OwnF.below {w w' : World} {base : Nat} {v : Value} {l : List (Value × List Nat)} (h : OwnF w base v l) (hb : Below w.heap.size w w') : OwnF w' base v l := ⟨h.1.below hb, fun x hx => (h.2 x hx).below hb⟩
theorem OwnF.slice {w : World} {base : Nat} {v : Value} {l : List (Value × List Nat)} (h : OwnF w base v l) : ∃ ao cap, v = .slice ao l.length cap := by
  obtain ⟨ao, cap, e⟩ := h.1.slice
  exact ⟨ao, cap, by rw [e, List.length_map]⟩
theorem OwnF.get {w : World} {base : Nat} {a : Option Addr} {n c : Nat} {l : List (Value × List Nat)} (h : OwnF w base (.slice a n c) l) : ∀ i (hi : i < l.length), ∃ b, a = some ⟨b, 0, none⟩ ∧ b < w.heap.size ∧ w.cell? ⟨b, i, none⟩ = some l[i].1 ∧ OwnI w base l[i].1 l[i].2 := by
  intro i hi
  obtain ⟨⟨hl, ⟨e, h0⟩ | ⟨g, cap, cur, e, hg, hh, hn, hm, hs, ht⟩⟩, hw⟩ := h
  · rw [List.length_map] at h0; omega
  · injection e with e1 e2 e3
    subst e1
    refine ⟨g, rfl, (Array.getElem?_eq_some_iff.1 hh).1, cell_block hh ?_, hw _ (List.getElem_mem hi)⟩
    have key : (l.map (·.1))[i]? = some l[i].1 := by rw [List.getElem?_map, List.getElem?_eq_getElem hi]; rfl
    rw [← key, ← ht, List.getElem?_take_of_lt (by rw [List.length_map]; omega), Array.getElem?_toList]
theorem OwnF.more {w w' : World} {base : Nat} {v v' y : Value} {l : List (Value × List Nat)} {xs : List Nat} (h : OwnF w base v l) (hy : OwnI w base y xs) (ho : OwnJ w' base v' (l.map (·.1) ++ [y])) (hg : w.grownBy w' v.ownBlock) : OwnF w' base v' (l ++ [(y, xs)]) := by
  refine ⟨by rw [List.map_append]; exact ho, fun x hx => ?_⟩
  rcases List.mem_append.1 hx with hx | hx
  · exact own_grownJ (h.2 x hx) h.1 hg
  · rw [List.mem_singleton] at hx; subst hx
    exact own_grownJ hy h.1 hg
theorem OwnI.one {w : World} {base : Nat} {v : Value} {xs : List Nat} (h : OwnI w base v xs) : v.oneCell' = true := by
  obtain ⟨a, c, rfl⟩ := h.slice
  rfl
/-- What Count has found so far. -/
def fnC (l : List Snd) (c : Nat) (fs : List (Value × List Nat)) : Prop := fs.map (·.2) = (dd l c).map fun C => msL C l 0
theorem fnC_len {l : List Snd} {c : Nat} {fs : List (Value × List Nat)} (h : fnC l c fs) : fs.length = (dd l c).length := by
  have := congrArg List.length h
  simpa using this
theorem fnC_step {l : List Snd} {c : Nat} {fs : List (Value × List Nat)} (hc0 : c ≠ 0) (hc : c < 2 ^ l.length) (h : fnC l c fs) :
    (msL (cmS (pk c l 0)) l 0 ∈ fs.map (·.2) → fnC l (c + 1) fs) ∧ (msL (cmS (pk c l 0)) l 0 ∉ fs.map (·.2) → ∀ y, fnC l (c + 1) (fs ++ [(y, msL (cmS (pk c l 0)) l 0)])) := by
  have e : dd l (c + 1) = addK (dd l c) (cmS (pk c l 0)) := by
    show (if c = 0 then [] else _) = _
    rw [if_neg hc0]
  have hinj : ∀ a ∈ dd l c, msL a l 0 = msL (cmS (pk c l 0)) l 0 → a = cmS (pk c l 0) := fun a ha hag => by
    obtain ⟨d, h1, h2, rfl⟩ := (dd_mem l a c).1 ha
    exact ms_inj (clo_pk (pk_ne h1 (by omega))) (clo_pk (pk_ne hc0 hc)) fun i => by rw [hag]
  have hm : msL (cmS (pk c l 0)) l 0 ∈ fs.map (·.2) ↔ cmS (pk c l 0) ∈ dd l c := by
    rw [show fs.map (·.2) = (dd l c).map fun C => msL C l 0 from h, List.mem_map]
    constructor
    · rintro ⟨a, ha, e⟩; exact hinj a ha e ▸ ha
    · intro ha; exact ⟨_, ha, rfl⟩
  constructor
  · intro hin
    show fs.map (·.2) = _
    rw [e, addK, if_pos (hm.1 hin)]
    exact h
  · intro hni y
    show (fs ++ [(y, msL (cmS (pk c l 0)) l 0)]).map (·.2) = _
    rw [e, addK, if_neg (fun hin => hni (hm.2 hin)), List.map_append, List.map_append, show fs.map (·.2) = (dd l c).map fun C => msL C l 0 from h]
    rfl
end Go.Proofs.YtpnmapfabjdfjaaDoor

/-
  The specification's Count.
-/
namespace Go.Proofs.YtpnmapfabjdfjaaDoor
open Go.RowKit Go.Sort
set_option maxRecDepth 100000 in
set_option maxHeartbeats 8000000 in
theorem rcount_any (l : List Snd) (v : Value) (w : World) (h : Wd w v l) : Gives 32 #[v] w (.tuple #[.int .i64 (cntN l), .int .i64 (ckE l 12)]) := by
  unfold Gives
  have hck := rcheck_any l v 12 w (by decide) h
  rw [show ((12 : Nat) : Int) = 12 from rfl] at hck
  have hvl := fun (h1 : ckE l 12 = 0) => ckE_vld h1
  have hln := fun (h1 : ckE l 12 = 0) => ckE_len h1
  have hCN : cntN l = if ckE l 12 = 0 then ((kk l (2 ^ l.length)).length : Int) else 0 := rfl
  have hWd := fun (W : World) (hb : Below w.heap.size w W) => h.below hb
  obtain ⟨ao, cap, rfl, c1, m1, hc⟩ := h.open
  obtain ⟨N, hN⟩ : ∃ N, l.length = N := ⟨_, rfl⟩
  have HC := Lib.hid hc; have HCK := Lib.hid hck; have HVL := Lib.hid hvl; have HLN := Lib.hid hln; have HN := Lib.hid hN; have HWD := Lib.hid hWd
  rw [hN] at c1 hCN HCK HLN HWD ⊢
  clear hc hck hvl hln h hN hWd
  generalize cntN l = CN at *
  generalize hE : ckE l 12 = E at *
  clear hE
  by_cases h0 : E = 0
  · subst h0
    rw [if_pos rfl] at hCN
    have l2 : N ≤ 12 := HLN.out rfl
    have l1 : N ≤ 9223372036854775807 := by omega
    have HV := Lib.hid (HVL.out rfl)
    obtain ⟨P, hP⟩ : ∃ P : Nat, 2 ^ N = P := ⟨_, rfl⟩
    have hP2 : P ≤ 4096 := by rw [← hP]; exact Nat.le_trans (Nat.pow_le_pow_right (by decide) l2) (by decide)
    have hP1 : 1 ≤ P := by rw [← hP]; exact Nat.one_le_two_pow
    have hPi : ((2 : Int) ^ N) = (P : Int) := by rw [← hP]; simp
    have hPw : IntKind.i64.wrap ((2 : Int) ^ N) = (P : Int) := by rw [hPi, IntKind.wrap_i64]; omega
    rw [hP] at hCN
    subst hCN
    have HP := Lib.hid hP; have HPi := Lib.hid hPi
    clear HLN HVL m1 hP hPi
    go_enter Tryd.func32, Tryd.ntmps32
    go_wp2_with fail
    go_at_call 51
    refine Gives.then HCK.out ?_
    intro w1 hb1
    have HW1 := Lib.hid hb1
    clear hb1 HCK
    go_wp2_with fail
    go_loopw [5, 6] (fun u i wr => ∃ (c : Nat) (fs : List (Value × List Nat)), 1 ≤ c ∧ c ≤ P ∧ i = .int .i64 (c : Int) ∧ OwnF wr w.heap.size u fs ∧ fnC l c fs ∧ Below w.heap.size w wr) (fun _ i _ => P - (intOf i).toNat)
    case atStart => exact ⟨1, [], by omega, hP1, rfl, OwnF.nil _ _, rfl, HW1.out⟩
    case round =>
      obtain ⟨c, fs, hc1, hcP, rfl, hk, hfn, hw⟩ := hrel
      obtain ⟨fa, fc, hfv⟩ := hk.slice
      obtain ⟨F, hF⟩ : ∃ F, fs.length = F := ⟨_, rfl⟩
      have hF2 : F ≤ 4096 := by
        have h1 := fnC_len hfn
        have h2 := dd_len l c
        omega
      rw [hF] at hfv
      subst hfv
      have HF := Lib.hid hF; have HFN := Lib.hid hfn
      clear hF hfn
      by_cases hlt : c < P
      · obtain ⟨wS, hS⟩ : ∃ x, x = wr := ⟨_, rfl⟩
        subst hS
        have HK := Lib.hid hk; have HW := Lib.hid hw
        have hcp : c ≤ 9223372036854775807 := by omega
        clear hk hw
        go_wp2_with fail
        go_loopw [7, 8] (fun u i wi => ∃ k : Nat, k ≤ N ∧ i = .int .i64 (k : Int) ∧ Own wi wS.heap.size u (pk c (l.take k) 0) ∧ Below wS.heap.size wS wi) (fun _ i _ => N - (intOf i).toNat)
        case atStart => exact ⟨0, by omega, rfl, Own.nil _ _, Below.refl _ _⟩
        case round =>
          obtain ⟨k, hk, rfl, ho, hwi⟩ := hrel
          obtain ⟨oa, oc, hov, -, -, -⟩ := ho.wd.open
          obtain ⟨n, hn⟩ : ∃ n, (pk c (l.take k) 0).length = n := ⟨_, rfl⟩
          rw [hn] at hov
          subst hov
          have hn2 := pk_len c (l.take k) 0
          rw [hn, List.length_take] at hn2
          have hn3 : n ≤ 12 := by omega
          have HNn := Lib.hid hn
          clear hn hn2
          by_cases hlt2 : k < N
          · have hkl : k < l.length := by rw [HN.out]; exact hlt2
            obtain ⟨b, off, hao, lb, d0, d1⟩ := HC.out k hkl
            subst hao
            have lb2 := Nat.lt_of_lt_of_le lb HW.out.size
            have d0 := (hwi.cell (p := ⟨b, _, none⟩) lb2).trans ((HW.out.cell (p := ⟨b, _, none⟩) lb).trans d0)
            have d1 := (hwi.cell (p := ⟨b, _, none⟩) lb2).trans ((HW.out.cell (p := ⟨b, _, none⟩) lb).trans d1)
            have hsn := pk_snoc c l[k] (l.take k) 0
            rw [← List.take_succ_eq_append_getElem hkl, List.length_take, Nat.min_eq_left (by omega), Nat.zero_add] at hsn
            have HSN := Lib.hid hsn
            clear hsn HC
            generalize l[k] = x at *
            obtain ⟨p, m⟩ := x
            simp only at d0 d1
            have hwo := wd_one wr p m
            have hbo := (Below.refl wr.heap.size wr).alloc (Nat.le_refl _) (.cells #[.int .u32 (p.toNat : Int), .int .u32 (m.toNat : Int)] 27)
            have hab := and_pk c k (by omega)
            have HWO := Lib.hid hwo; have HBO := Lib.hid hbo
            clear hwo hbo
            rcases ht : c.testBit k with _ | _
            · rw [ht] at hab HSN
              have hab : bits .and .i64 ((c : Int) / 2 ^ k) 1 = 0 := hab
              have HW3 := Lib.hid hwi; have HO3 := Lib.hid ho
              clear ht ho hwi
              go_wp2_with fail
              go_roundw
              case rel => exact ⟨k + 1, by omega, by go_num, by rw [HSN.out]; simpa using HO3.out, HW3.out⟩
              case measure => simp [intOf]; omega
            · rw [ht] at hab HSN
              have hab : bits .and .i64 ((c : Int) / 2 ^ k) 1 = 1 := hab
              have HW3 := Lib.hid (hwi.trans (HBO.out.mono hwi.size)); have HO3 := Lib.hid (ho.below HBO.out); have HZ := Lib.hid hwi.size
              clear ht ho hwi
              go_wp2_with (at_builtin; refine wpList_app rfl (.tmp 35) (.tmp 40) 22 Tryd.underlying22 rfl wS.heap.size (.slice oa n oc) (.slice (some ⟨wr.heap.size, 0, none⟩) 1 1) (pk c (l.take k) 0) [(p, m)] rfl rfl HO3.out HWO.out (by rw [HNn.out]; simp; omega) (by have := HZ.out; simp only [World.size_alloc]; omega) ?_; intro v4 w4 ho4 hk4 hz4; have HO4 := Lib.hid ho4; have HW4 := Lib.hid (hk4 _ _ (Nat.le_refl _) HW3.out); clear ho4 hk4 hz4)
              go_roundw
              case rel => exact ⟨k + 1, by omega, by go_num, by rw [HSN.out]; exact HO4.out, HW4.out⟩
              case measure => simp [intOf]; omega
          · obtain rfl : k = N := by omega
            have ho : Own wr wS.heap.size (.slice oa n oc) (pk c l 0) := by
              rw [← HN.out, List.take_length] at ho
              exact ho
            have hpn : pk c l 0 ≠ [] := pk_ne (by omega) (by rw [HN.out, HP.out]; exact hlt)
            have hpv : ∀ x ∈ pk c l 0, vld x.1 x.2 = true := fun x hx => HV.out x (pk_mem hx)
            have hcm := rcommon_any (pk c l 0) _ wr ho.wd hpn hpv
            have hpl : (pk c l 0).length = n := by have := HNn.out; rw [← HN.out, List.take_length] at this; exact this
            have hwS := HW.out.trans (hwi.mono HW.out.size)
            have hmm2 := fun (W : World) (hb : Below w.heap.size w W) => rmembers_any l (cmS (pk c l 0)) _ W (HWD.out W hb) HV.out (cmS_vld hpv) (by rw [HN.out]; omega)
            have hk1 := HK.out.below hwi
            have hst := fnC_step (l := l) (c := c) (by omega) (by rw [HN.out, HP.out]; exact hlt) HFN.out
            have hmn := msL_len (cmS (pk c l 0)) l 0
            rw [HN.out] at hmn
            generalize cmS (pk c l 0) = cm at *
            generalize msL cm l 0 = ml at *
            obtain ⟨cp, cmm⟩ := cm
            have HCM := Lib.hid hcm; have HMM := Lib.hid hmm2; have HK1 := Lib.hid hk1; have HWS := Lib.hid hwS; have HST := Lib.hid hst; have HMN := Lib.hid hmn
            clear hcm hmm2 hk1 hwS hst hmn ho hwi hpn hpv hlt2
            go_wp2_with fail
            go_at_call 53
            refine Gives.then HCM.out ?_
            intro w5 hb5
            have HW5 := Lib.hid (HWS.out.trans (hb5.mono HWS.out.size)); have HK5 := Lib.hid (HK1.out.below hb5)
            clear hb5
            go_wp2_with fail
            go_at_call 54
            refine (HMM.out _ HW5.out).mono ?_
            rintro e w6 ⟨v6, rfl, ho6, hb6⟩
            obtain ⟨a6, c6, hv6⟩ := ho6.slice
            obtain ⟨Q, hQ⟩ : ∃ Q, ml.length = Q := ⟨_, rfl⟩
            rw [hQ] at hv6
            subst hv6
            have HO6 := Lib.hid (ho6.mono HW5.out.size); have HW6 := Lib.hid (HW5.out.trans (hb6.mono HW5.out.size)); have HK6 := Lib.hid (HK5.out.below hb6)
            clear hb6 ho6 hQ
            go_wp2_with fail
            go_loopw [10, 11] (fun y i wi => ∃ k : Nat, k ≤ F ∧ i = .int .i64 (k : Int) ∧ y = .bool (decide (ml ∈ (fs.take k).map (·.2))) ∧ Below w6.heap.size w6 wi) (fun _ i _ => F - (intOf i).toNat)
            case atStart => exact ⟨0, by omega, rfl, by simp, Below.refl _ _⟩
            case round =>
              obtain ⟨k2, hk2, rfl, rfl, hw7⟩ := hrel
              by_cases hin : ml ∈ (fs.take k2).map (·.2)
              · rw [decide_eq_true hin]
                have hin2 : ml ∈ fs.map (·.2) := by
                  rw [List.map_take] at hin
                  exact List.mem_of_mem_take hin
                have HFS := Lib.hid (HST.out.1 hin2)
                have HW7 := Lib.hid (HW6.out.trans (hw7.mono HW6.out.size)); have HK7 := Lib.hid (HK6.out.below hw7)
                clear hin hin2 hw7
                go_wp2_with fail
                all_goals (
                  go_roundw
                  case rel => exact ⟨c + 1, fs, by omega, by omega, by go_num, HK7.out, HFS.out, HW7.out⟩
                  case measure => simp [intOf]; omega)
              · rw [decide_eq_false hin]
                by_cases hk3 : k2 < F
                · have hkf : k2 < fs.length := by rw [HF.out]; exact hk3
                  have HK7 := Lib.hid (HK6.out.below hw7); have HO7 := Lib.hid (HO6.out.below hw7)
                  obtain ⟨b7, hfa, lb7, d7, ho7⟩ := HK7.out.get k2 hkf
                  subst hfa
                  have hmo : decide (ml ∈ (fs.take (k2 + 1)).map (·.2)) = decide (fs[k2].2 = ml) := by
                    apply decide_eq_decide.2
                    rw [List.take_succ_eq_append_getElem hkf, List.map_append, List.mem_append]
                    constructor
                    · rintro (h | h)
                      · exact absurd h hin
                      · simpa using Eq.symm (by simpa using h)
                    · intro h; exact .inr (by simp [h])
                  have HMO := Lib.hid hmo
                  have heq := requal_any fs[k2].2 ml _ _ wr ho7.is HO7.out.is
                  obtain ⟨a8, c8, hv8⟩ := ho7.slice
                  generalize fs[k2].2 = xs8 at *
                  generalize fs[k2].1 = v8 at *
                  subst hv8
                  have HEQ := Lib.hid heq
                  have HW7 := Lib.hid hw7
                  have hk4 : (k2 : Int) < (F : Int) := by omega
                  have hk5 : (0 : Int) ≤ (k2 : Int) := by omega
                  clear hmo heq ho7 hin hw7
                  go_wp2_with fail
                  go_at_call 69
                  refine Gives.then HEQ.out ?_
                  intro w8 hb8
                  have HW8 := Lib.hid (HW7.out.trans (hb8.mono HW7.out.size))
                  clear hb8 d7
                  go_wp2_with fail
                  go_roundw
                  case rel => exact ⟨k2 + 1, by omega, by go_num, by rw [HMO.out], HW8.out⟩
                  case measure => simp [intOf]; omega
                · obtain rfl : k2 = F := by omega
                  have hall : fs.take k2 = fs := List.take_of_length_le (by rw [HF.out]; exact Nat.le_refl _)
                  rw [hall] at hin
                  have HK7 := Lib.hid (HK6.out.below hw7); have HO7 := Lib.hid (HO6.out.below hw7); have HW7 := Lib.hid (HW6.out.trans (hw7.mono HW6.out.size))
                  have HFS := Lib.hid (HST.out.2 hin (.slice a6 Q c6))
                  have hb9 := (Below.refl wr.heap.size wr).alloc (Nat.le_refl _) (.cells #[.slice a6 Q c6] 28)
                  have HB9 := Lib.hid hb9; have HY9 := Lib.hid (World.alloc_heap_new wr (.cells #[.slice a6 Q c6] 28))
                  clear hall hin hw7 hb9 hk3
                  go_wp2_with (at_builtin; refine wpList_appJ rfl (.tmp 64) (.tmp 66) rfl w.heap.size wr.heap.size (.slice fa k2 fc) (.slice a6 Q c6) (fs.map (·.1)) rfl rfl HY9.out rfl (HK7.out.below HB9.out).1 (by rw [List.length_map, HF.out]; omega) (by have := HW7.out.size; rw [World.size_alloc]; omega) ?_; intro v11 w11 ho11 hg11; have HF11 := Lib.hid ((HK7.out.below HB9.out).more (HO7.out.below HB9.out) ho11 hg11); have HW11 := Lib.hid ((HW7.out.trans (HB9.out.mono HW7.out.size)).grown hg11 (by rw [World.size_alloc]; have := HW7.out.size; omega) (fun q e => own_row HK7.out.1 q e)); clear ho11 hg11)
                  go_roundw
                  case rel => exact ⟨c + 1, fs ++ [(.slice a6 Q c6, ml)], by omega, by omega, by go_num, HF11.out, HFS.out, HW11.out⟩
                  case measure => simp [intOf]; omega
      · obtain rfl : c = P := by omega
        have HK := Lib.hid hk; have HW := Lib.hid hw
        have he : ((kk l c).length : Int) = (F : Int) := by
          rw [kk_dd (l := l) (by rw [HN.out]; omega) c (by rw [HN.out, HP.out]; exact Nat.le_refl _), List.length_map, ← fnC_len HFN.out, HF.out]
        have HEE := Lib.hid he
        clear hk hw hlt he
        go_wp2_with fail
        go_ret2
        exact ⟨by rw [HEE.out]; rfl, HW.out⟩
  · rw [if_neg h0] at hCN
    subst hCN
    have g1 : (E == 0) = false := by simpa using h0
    clear HVL HLN
    go_enter Tryd.func32, Tryd.ntmps32
    go_wp2_with fail
    go_at_call 51
    refine Gives.then HCK.out ?_
    intro w1 hb1
    go_wp2_with fail
    go_ret2
    exact ⟨rfl, hb1⟩
end Go.Proofs.YtpnmapfabjdfjaaDoor

/-
  NaturalCounts, walked.
-/
namespace Go.Proofs.YtpnmapfabjdfjaaDoor
open Go.RowKit Go.Sort
set_option maxRecDepth 100000 in
set_option maxHeartbeats 8000000 in
theorem counts_any (l : List Snd) (v : Value) (w : World) (h : Wd w v l) (hT : Tab w) (lT : 0 < w.heap.size) : Gives 6 #[v] w (.bool true) := by
  unfold Gives
  have HT := Lib.hid hT; have LT := Lib.hid lT; have HWD := Lib.hid h
  clear hT lT
  have hc1 := count_any l v w h
  have hc2 := fun W hb => rcount_any l v W (h.below hb)
  obtain ⟨ao, cap, rfl, c1, m1, hc⟩ := h.open
  obtain ⟨N, hN⟩ : ∃ N, l.length = N := ⟨_, rfl⟩
  rw [hN] at hc1 hc2 ⊢
  have HC1 := Lib.hid hc1; have HC2 := Lib.hid hc2
  clear hc1 hc2 hc h c1 m1 HWD hN
  generalize cntN l = CN at *
  generalize ckE l 12 = E at *
  by_cases hbig : (10 < N ∧ N ≤ 12) ∨ 300 < N
  · rcases hbig with ⟨h1, h2⟩ | h1
    · have g1 : decide ((10 : Int) < (N : Int)) = true := decide_eq_true (by omega)
      have g2 : decide ((N : Int) ≤ 12) = true := decide_eq_true (by omega)
      have g1' : decide (10 < N) = true := decide_eq_true h1
      have g2' : decide (N ≤ 12) = true := decide_eq_true h2
      go_enter Tryd.func6, Tryd.ntmps6
      go_wp2_with fail
      go_at_call 14
      refine Gives.then (works_any _ HT.out LT.out) ?_
      intro w6 hb6
      go_wp2_with fail
      go_returns
      exact ⟨rfl, hb6⟩
    · have g1 : decide ((10 : Int) < (N : Int)) = true := decide_eq_true (by omega)
      have g2 : decide ((N : Int) ≤ 12) = false := decide_eq_false (by omega)
      have g3 : decide ((300 : Int) < (N : Int)) = true := decide_eq_true (by omega)
      have g1' : decide (10 < N) = true := decide_eq_true (by omega)
      have g2' : decide (N ≤ 12) = false := decide_eq_false (by omega)
      have g3' : decide (300 < N) = true := decide_eq_true h1
      go_enter Tryd.func6, Tryd.ntmps6
      go_wp2_with fail
      go_at_call 14
      refine Gives.then (works_any _ HT.out LT.out) ?_
      intro w6 hb6
      go_wp2_with fail
      go_returns
      exact ⟨rfl, hb6⟩
  · have g3 : decide ((300 : Int) < (N : Int)) = false := decide_eq_false (by omega)
    have g3' : decide (300 < N) = false := decide_eq_false (by omega)
    have hor : N ≤ 10 ∨ 12 < N := by omega
    rcases hor with h1 | h1
    · have g1 : decide ((10 : Int) < (N : Int)) = false := decide_eq_false (by omega)
      have g1' : decide (10 < N) = false := decide_eq_false (by omega)
      go_enter Tryd.func6, Tryd.ntmps6
      go_wp2_with fail
      go_at_call 31
      refine Gives.then HC1.out ?_
      intro w1 hb1
      have HB1 := Lib.hid hb1; have HC3 := Lib.hid (HC2.out w1 hb1)
      clear hb1
      go_wp2_with fail
      go_at_call 32
      refine Gives.then HC3.out ?_
      intro w2 hb2
      have HB2 := Lib.hid (HB1.out.trans (hb2.mono HB1.out.size))
      clear hb2
      go_wp2_with fail
      go_at_call 14
      refine Gives.then (works_any _ (HT.out.below HB2.out LT.out) (Nat.lt_of_lt_of_le LT.out HB2.out.size)) ?_
      intro w6 hb6
      have HW6 := Lib.hid (HB2.out.trans (hb6.mono HB2.out.size))
      clear hb6
      go_wp2_with fail
      go_returns
      exact ⟨rfl, HW6.out⟩
    · have g1 : decide ((10 : Int) < (N : Int)) = true := decide_eq_true (by omega)
      have g1' : decide (10 < N) = true := decide_eq_true (by omega)
      have g2 : decide ((N : Int) ≤ 12) = false := decide_eq_false (by omega)
      have g2' : decide (N ≤ 12) = false := decide_eq_false (by omega)
      go_enter Tryd.func6, Tryd.ntmps6
      go_wp2_with fail
      go_at_call 31
      refine Gives.then HC1.out ?_
      intro w1 hb1
      have HB1 := Lib.hid hb1; have HC3 := Lib.hid (HC2.out w1 hb1)
      clear hb1
      go_wp2_with fail
      go_at_call 32
      refine Gives.then HC3.out ?_
      intro w2 hb2
      have HB2 := Lib.hid (HB1.out.trans (hb2.mono HB1.out.size))
      clear hb2
      go_wp2_with fail
      go_at_call 14
      refine Gives.then (works_any _ (HT.out.below HB2.out LT.out) (Nat.lt_of_lt_of_le LT.out HB2.out.size)) ?_
      intro w6 hb6
      have HW6 := Lib.hid (HB2.out.trans (hb6.mono HB2.out.size))
      clear hb6
      go_wp2_with fail
      go_returns
      exact ⟨rfl, HW6.out⟩
end Go.Proofs.YtpnmapfabjdfjaaDoor
