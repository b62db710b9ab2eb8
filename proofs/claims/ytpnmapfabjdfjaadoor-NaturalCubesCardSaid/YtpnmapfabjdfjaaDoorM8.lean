/-
  Lemmas that the theorem of this claim rests on: 6 texts, one behind the other.
-/
import Derived.Test.YtpnmapfabjdfjaaDoorM7
import Derived.Test.YtpnmapfabjdfjaaDoorM4
import Derived.Test.YtpnmapfabjdfjaaDoorM1
import Derived.Lib.TrailingZeros
import Derived.Laws.BitsAllLaws
import Derived.Lib.LaidTab
set_option linter.unusedSimpArgs false
set_option linter.unusedVariables false

/-
  The specification's Pairs.
-/
namespace Go.Proofs.YtpnmapfabjdfjaaDoor
open Go.RowKit Go.Sort
set_option maxRecDepth 100000 in
set_option maxHeartbeats 8000000 in
theorem rpairs_any (l : List Snd) (v : Value) (w : World) (h : Wd w v l) : Calls Tryd.prog 26 #[v] w fun e w' => ∃ m, e = .returned (.tuple #[m, .int .i64 (ckE l 256)]) ∧ OwnP w' w.heap.size m (prsM l) ∧ Below w.heap.size w w' := by
  have hck := rcheck_any l v 256 w (by decide) h
  rw [show ((256 : Nat) : Int) = 256 from rfl] at hck
  have hvl := fun (h1 : ckE l 256 = 0) => ckE_vld h1
  have hln := fun (h1 : ckE l 256 = 0) => ckE_len h1
  have hP : prsM l = if ckE l 256 = 0 then outP l l.length else [] := rfl
  obtain ⟨ao, cap, rfl, c1, m1, hc⟩ := h.open
  obtain ⟨N, hN⟩ : ∃ N, l.length = N := ⟨_, rfl⟩
  have HC := Lib.hid hc; have HCK := Lib.hid hck; have HVL := Lib.hid hvl; have HLN := Lib.hid hln; have HN := Lib.hid hN
  rw [hN] at c1 hP HCK HLN ⊢
  clear hc hck hvl hln h hN
  generalize prsM l = PR at *
  generalize hE : ckE l 256 = E at *
  clear hE
  by_cases h0 : E = 0
  · subst h0
    rw [if_pos rfl] at hP
    subst hP
    have l2 : N ≤ 256 := HLN.out rfl
    have l1 : N ≤ 9223372036854775807 := by omega
    have HV := Lib.hid (HVL.out rfl)
    clear HLN HVL m1
    go_enter Tryd.func26, Tryd.ntmps26
    go_wp2_with fail
    go_at_call 51
    refine Gives.then HCK.out ?_
    intro w1 hb1
    have HW1 := Lib.hid hb1
    clear hb1 HCK
    go_wp2_with fail
    go_loopw [5, 6] (fun u i wr => ∃ k : Nat, k ≤ N ∧ i = .int .i64 (k : Int) ∧ OwnP wr w.heap.size u (outP l k) ∧ Below w.heap.size w wr) (fun _ i _ => N - (intOf i).toNat)
    case atStart => exact ⟨0, by omega, rfl, OwnP.nil _ _, HW1.out⟩
    case round =>
      obtain ⟨k, hk, rfl, ho, hw⟩ := hrel
      obtain ⟨oa, oc, hov⟩ := ho.slice
      obtain ⟨n, hn⟩ : ∃ n, (outP l k).length = n := ⟨_, rfl⟩
      rw [hn] at hov
      subst hov
      have HNn := Lib.hid hn
      clear hn
      by_cases hlt : k < N
      · have hkl : k < l.length := by rw [HN.out]; exact hlt
        obtain ⟨b, off, hao, lb, d0, d1⟩ := HC.out k hkl
        subst hao
        have hxd : l.getD k zs = l[k] := by simp [List.getD, List.getElem?_eq_getElem hkl]
        have hxv := HV.out l[k] (List.getElem_mem hkl)
        obtain ⟨x, hx⟩ : ∃ x, l[k] = x := ⟨_, rfl⟩
        rw [hx] at d0 d1 hxd hxv
        have HXD := Lib.hid hxd; have HXV := Lib.hid hxv; have HW8 := Lib.hid hw; have HO8 := Lib.hid ho
        clear hxd hxv hx ho hw
        obtain ⟨p, m⟩ := x
        simp only at d0 d1
        have D0 := Lib.hid d0; have D1 := Lib.hid d1
        clear d0 d1
        go_wp2_with fail
        go_loopw [5, 7] (fun u i wi => ∃ j : Nat, k + 1 ≤ j ∧ j ≤ N ∧ i = .int .i64 (j : Int) ∧ OwnP wi w.heap.size u (outP l k ++ inn l k j) ∧ Below w.heap.size w wi) (fun _ i _ => N - (intOf i).toNat)
        case atStart => exact ⟨k + 1, Nat.le_refl _, by omega, by go_num, by rw [inn_start, List.append_nil]; exact HO8.out, HW8.out⟩
        case round =>
          obtain ⟨j, hj1, hj2, rfl, hoi, hwi⟩ := hrel
          obtain ⟨oa2, oc2, hov2⟩ := hoi.slice
          obtain ⟨n2, hn2⟩ : ∃ n2, (outP l k ++ inn l k j).length = n2 := ⟨_, rfl⟩
          have hn3 : n2 ≤ 100000 := by
            rw [← hn2, List.length_append]
            have e1 := outP_len l k
            have e2 := inn_len l k j
            rw [HN.out] at e1
            have e3 : k * N ≤ 256 * 256 := Nat.mul_le_mul (by omega) l2
            omega
          rw [hn2] at hov2
          subst hov2
          have HN2 := Lib.hid hn2
          clear hn2
          by_cases hlt2 : j < N
          · have hjl : j < l.length := by rw [HN.out]; exact hlt2
            obtain ⟨b', off', hao', lb', d0, d1⟩ := HC.out j hjl
            cases hao'
            have d0 := (hwi.cell (p := ⟨b, _, none⟩) lb).trans d0
            have d1 := (hwi.cell (p := ⟨b, _, none⟩) lb).trans d1
            have hyd : l.getD j zs = l[j] := by simp [List.getD, List.getElem?_eq_getElem hjl]
            have hyv := HV.out l[j] (List.getElem_mem hjl)
            obtain ⟨y, hy⟩ : ∃ y, l[j] = y := ⟨_, rfl⟩
            rw [hy] at d0 d1 hyd hyv
            have hsn := inn_succ l k j
            rw [HXD.out, hyd, decide_eq_true (show k < j by omega), Bool.true_and] at hsn
            have hal := ralone_any (p, m) y HXV.out hyv
            have hor := lon_dif (a := (p, m)) (b := y) HXV.out hyv
            rw [hor] at hal
            generalize (lonF (dif (p, m) y)).1 = F at *
            generalize one (p, m) y = on at *
            have c0 := (hwi.cell (p := ⟨b, _, none⟩) lb).trans D0.out
            have c1' := (hwi.cell (p := ⟨b, _, none⟩) lb).trans D1.out
            clear hor hyd hyv hy
            obtain ⟨yp, ym⟩ := y
            simp only at d0 d1 hal
            have HSN := Lib.hid hsn; have HAL := Lib.hid hal
            have HOI := Lib.hid hoi; have HWI := Lib.hid hwi
            have hj0 : (0 : Int) ≤ (j : Int) := by omega
            have hj3 : (j : Int) < (N : Int) := by omega
            clear hsn hal hoi hwi
            go_wp2_with fail
            go_region_with (go_at_call 61; (with_reducible refine Gives.then (HAL.out _) ?_); intro w10 hb10; have HW10 := Lib.hid (HWI.out.drew.trans (hb10.mono HWI.out.size)); have HO10 := Lib.hid ((show OwnP wr.drew w.heap.size _ _ from HOI.out).below hb10); clear hb10)
            all_goals clear d0 d1 c0 c1' HWI HOI HAL
            all_goals (
              rcases on with _ | _
              · rw [if_neg (by decide), List.append_nil] at HSN
                go_wp2_with fail
                go_roundw
                case rel => exact ⟨j + 1, by omega, by omega, by go_num, by rw [HSN.out]; exact HO10.out, HW10.out⟩
                case measure => simp [intOf]; omega
              · rw [if_pos rfl] at HSN
                have hpr := World.alloc_heap_new w10 (.cells #[.int .i64 (k : Int), .int .i64 (j : Int)] 44)
                have hbp := (Below.refl w10.heap.size w10).alloc (Nat.le_refl _) (.cells #[.int .i64 (k : Int), .int .i64 (j : Int)] 44)
                have HPR := Lib.hid hpr; have HBP := Lib.hid hbp
                clear hpr hbp
                go_wp2_with (at_builtin; refine wpList_appP rfl (.tmp 42) (.tmp 46) rfl w.heap.size w10.heap.size (.slice oa2 n2 oc2) (outP l k ++ inn l k j) (k, j) rfl rfl HPR.out (HO10.out.below HBP.out) (by rw [HN2.out]; omega) (by have := HW10.out.size; rw [World.size_alloc]; omega) ?_; intro v11 w11 ho11 hg11; have hbb := (HW10.out.trans (HBP.out.mono HW10.out.size)).grown hg11 (by rw [World.size_alloc]; have := HW10.out.size; omega) (fun q e => own_row HO10.out q e); have HO11 := Lib.hid ho11; have HW11 := Lib.hid hbb; clear ho11 hg11 hbb)
                go_roundw
                case rel => exact ⟨j + 1, by omega, by omega, by go_num, by rw [HSN.out, ← List.append_assoc]; exact HO11.out, HW11.out⟩
                case measure => simp [intOf]; omega)
          · obtain rfl : j = N := by omega
            have HOI := Lib.hid hoi; have HWI := Lib.hid hwi
            clear hoi hwi hlt2
            have hsk := outP_succ l k
            rw [HN.out] at hsk
            have HSK := Lib.hid hsk
            clear hsk
            go_wp2_with fail
            go_roundw
            case rel => exact ⟨k + 1, by omega, by go_num, by rw [HSK.out]; exact HOI.out, HWI.out⟩
            case measure => simp [intOf]; omega
      · obtain rfl : k = N := by omega
        have HO := Lib.hid ho; have HW := Lib.hid hw
        clear ho hw hlt
        go_wp2_with fail
        go_ret2
        exact ⟨_, rfl, HO.out, HW.out⟩
  · rw [if_neg h0] at hP
    subst hP
    have g1 : (E == 0) = false := by simpa using h0
    clear HVL HLN
    go_enter Tryd.func26, Tryd.ntmps26
    go_wp2_with fail
    go_at_call 51
    refine Gives.then HCK.out ?_
    intro w1 hb1
    go_wp2_with fail
    go_ret2
    exact ⟨_, rfl, OwnP.nil _ _, hb1⟩
end Go.Proofs.YtpnmapfabjdfjaaDoor

/-
  The specification's Needed.
-/
namespace Go.Proofs.YtpnmapfabjdfjaaDoor
open Go.RowKit Go.Sort
theorem prs_one {l : List Snd} {x : Nat × Nat} (h : x ∈ prs l) : one (l.getD x.1 zs) (l.getD x.2 zs) = true := by
  unfold prs outP at h
  obtain ⟨i, _, hx⟩ := List.mem_flatMap.1 h
  unfold inn at hx
  obtain ⟨j, hj, rfl⟩ := List.mem_map.1 hx
  have h2 := (List.mem_filter.1 hj).2
  rw [Bool.and_eq_true] at h2
  exact h2.2
theorem lon_val {D : BitVec 32} (hD : D.toNat < 16777216) (h : ones D.toNat = 1) : (lonF D).1 < 24 ∧ D = 1#32 <<< (lonF D).1 := by
  obtain ⟨k, hk, e⟩ := one_pow hD h
  rcases hf : (List.range 24).find? (fun f => decide (D = 1#32 <<< f)) with _ | f
  · have := List.find?_eq_none.1 hf k (List.mem_range.2 hk)
    simp [e] at this
  · have h2 : (lonF D).1 = f := by unfold lonF; rw [hf]
    have h3 := List.find?_some hf
    have h4 := List.mem_range.1 (List.mem_of_find?_eq_some hf)
    rw [decide_eq_true_iff] at h3
    rw [h2]
    exact ⟨h4, h3⟩
set_option maxRecDepth 100000 in
set_option maxHeartbeats 8000000 in
theorem rneeded_any (l : List Snd) (v : Value) (w : World) (h : Wd w v l) : Gives 28 #[v] w (.tuple #[.int .u32 ((ndM l).toNat : Int), .int .i64 (ckE l 256)]) := by
  unfold Gives
  have hpa := rpairs_any l v w h
  have hvl := fun (h1 : ckE l 256 = 0) => ckE_vld h1
  have hP : prsM l = if ckE l 256 = 0 then prs l else [] := rfl
  have hM : ndM l = if ckE l 256 = 0 then ndF l (prs l) else 0#32 := rfl
  obtain ⟨ao, cap, rfl, c1, m1, hc⟩ := h.open
  obtain ⟨N, hN⟩ : ∃ N, l.length = N := ⟨_, rfl⟩
  have HC := Lib.hid hc; have HPA := Lib.hid hpa; have HVL := Lib.hid hvl; have HN := Lib.hid hN
  rw [hN] at c1 HPA ⊢
  clear hc hpa hvl h hN
  generalize ndM l = ND at *
  generalize prsM l = PR at *
  generalize hE : ckE l 256 = E at *
  clear hE
  by_cases h0 : E = 0
  · subst h0
    rw [if_pos rfl] at hP hM
    have HV := Lib.hid (HVL.out rfl)
    have hin : ∀ x ∈ PR, x.1 < l.length ∧ x.2 < l.length := fun x hx => prs_mem (by rw [← hP]; exact hx)
    rw [← hP] at hM
    have hon : ∀ x ∈ PR, one (l.getD x.1 zs) (l.getD x.2 zs) = true := fun x hx => prs_one (by rw [← hP]; exact hx)
    have HIN := Lib.hid hin; have HM := Lib.hid hM; have HON := Lib.hid hon
    clear HVL hP hM hin hon
    go_enter Tryd.func28, Tryd.ntmps28
    go_wp2_with fail
    go_at_call 26
    refine HPA.out.mono ?_
    rintro e w1 ⟨v1, rfl, ho1, hb1⟩
    obtain ⟨a1, k1, hv1, hk1, hk2, hp1⟩ := ho1.ps.open
    obtain ⟨M, hMl⟩ : ∃ M, PR.length = M := ⟨_, rfl⟩
    rw [hMl] at hv1 hk1
    subst hv1
    have HP1 := Lib.hid hp1; have HW1 := Lib.hid hb1; have HML := Lib.hid hMl
    have l1 : M ≤ 9223372036854775807 := by unfold maxLen at hk2; omega
    clear hp1 ho1 hb1 hMl HPA hk2 m1
    go_wp2_with fail
    go_loopw [6, 7] (fun u i wr => ∃ k : Nat, k ≤ M ∧ i = .int .i64 (k : Int) ∧ u = .int .u32 ((ndF l (PR.take k)).toNat : Int) ∧ Below w1.heap.size w1 wr) (fun _ i _ => M - (intOf i).toNat)
    case atStart => exact ⟨0, by omega, rfl, rfl, Below.refl _ _⟩
    case round =>
      obtain ⟨k, hk, rfl, rfl, hw⟩ := hrel
      by_cases hlt : k < M
      · have hkl : k < PR.length := by rw [HML.out]; exact hlt
        obtain ⟨b, hao, lb, d0, d1⟩ := HP1.out k hkl
        subst hao
        have d0 := (hw.cell (p := ⟨b, _, none⟩) lb).trans d0
        have d1 := (hw.cell (p := ⟨b, _, none⟩) lb).trans d1
        have hsn := ndF_snoc l (PR.take k) PR[k]
        rw [← List.take_succ_eq_append_getElem hkl] at hsn
        obtain ⟨hi, hj⟩ := HIN.out PR[k] (List.getElem_mem hkl)
        have hoo := HON.out PR[k] (List.getElem_mem hkl)
        generalize PR[k] = x at *
        obtain ⟨i, j⟩ := x
        simp only at d0 d1 hsn hi hj hoo
        have hid : l.getD i zs = l[i] := by simp [List.getD, List.getElem?_eq_getElem hi]
        have hjd : l.getD j zs = l[j] := by simp [List.getD, List.getElem?_eq_getElem hj]
        rw [hid, hjd] at hsn hoo
        obtain ⟨b2, off, hao2, lb2, p0, p1⟩ := HC.out i hi
        subst hao2
        obtain ⟨b3, off3, hao3, _, q0, q1⟩ := HC.out j hj
        cases hao3
        have hv1 := HV.out _ (List.getElem_mem hi)
        have hv2 := HV.out _ (List.getElem_mem hj)
        have hal := ralone_any l[i] l[j] hv1 hv2
        obtain ⟨hF, hS⟩ := lon_val (dif_lt hv1 hv2) (of_decide_eq_true hoo)
        rw [lon_dif hv1 hv2, hoo] at hal
        clear hv1 hv2 hoo
        have lb4 := Nat.lt_of_lt_of_le lb2 HW1.out.size
        have p0 := (hw.cell (p := ⟨b2, _, none⟩) lb4).trans ((HW1.out.cell (p := ⟨b2, _, none⟩) lb2).trans p0)
        have p1 := (hw.cell (p := ⟨b2, _, none⟩) lb4).trans ((HW1.out.cell (p := ⟨b2, _, none⟩) lb2).trans p1)
        have q0 := (hw.cell (p := ⟨b2, _, none⟩) lb4).trans ((HW1.out.cell (p := ⟨b2, _, none⟩) lb2).trans q0)
        have q1 := (hw.cell (p := ⟨b2, _, none⟩) lb4).trans ((HW1.out.cell (p := ⟨b2, _, none⟩) lb2).trans q1)
        have lb5 := Nat.lt_of_lt_of_le lb4 hw.size
        generalize ndF l (PR.take k) = S1 at *
        generalize hFF : (lonF (dif l[i] l[j])).1 = F at *
        rw [hS] at hsn
        have hsh := shl32 F hF
        have hor := or_nat S1 (1#32 <<< F)
        clear hS hFF
        generalize 1#32 <<< F = S at *
        have HSN := Lib.hid hsn
        generalize l[i] = x at *
        generalize l[j] = y at *
        obtain ⟨xp, xm⟩ := x
        obtain ⟨yp, ym⟩ := y
        simp only at p0 p1 q0 q1 hal
        have hi3 : (i : Int) < (N : Int) := by rw [HN.out] at hi; omega
        have hj3 : (j : Int) < (N : Int) := by rw [HN.out] at hj; omega
        have hi4 : i < N := by omega
        have hj4 : j < N := by omega
        have HAL := Lib.hid hal; have HW8 := Lib.hid hw
        clear hal hw hid hjd hsn HC lb5
        go_wp2_with fail
        go_region_with (go_at_call 61; (with_reducible refine Gives.then (HAL.out _) ?_); intro w9 hb9; have HW9 := Lib.hid (HW8.out.drew.trans (hb9.mono HW8.out.size)); clear hb9)
        all_goals clear p0 p1 q0 q1 d0 d1 HAL HW8
        all_goals go_wp2_with fail
        all_goals (
          go_roundw
          case rel => exact ⟨k + 1, by omega, by go_num, by rw [HSN.out, BitVec.toNat_or], HW9.out⟩
          case measure => simp [intOf]; omega)
      · obtain rfl : k = M := by omega
        have he : ndF l (PR.take k) = ND := by rw [HM.out, ← HML.out, List.take_length]
        rw [he] at *
        have HW := Lib.hid (HW1.out.trans (hw.mono HW1.out.size))
        clear hw hlt he
        go_wp2_with fail
        go_ret2
        exact ⟨rfl, HW.out⟩
  · rw [if_neg h0] at hP hM
    subst hP hM
    have g1 : (E == 0) = false := by simpa using h0
    clear HVL
    go_enter Tryd.func28, Tryd.ntmps28
    go_wp2_with fail
    go_at_call 26
    refine HPA.out.mono ?_
    rintro e w1 ⟨v1, rfl, ho1, hb1⟩
    obtain ⟨a1, k1, rfl⟩ := ho1.slice
    go_wp2_with fail
    go_ret2
    exact ⟨rfl, hb1⟩
end Go.Proofs.YtpnmapfabjdfjaaDoor

/-
  Sets of exchanges of values.
-/
namespace Go.Proofs.YtpnmapfabjdfjaaDoor
open Go.RowKit Go.Sort
/-- An exchange of values: a feature and two values. -/
abbrev Sw := Int × Int × Int
def swv (x : Sw) : Value := .agg #[.int .i64 x.1, .int .i64 x.2.1, .int .i64 x.2.2]
theorem swap_eqRun (a b c a' b' c' : Int) (w : World) : (Op.equalIn 10000 87 (.agg #[.int .i64 a, .int .i64 b, .int .i64 c]) (.agg #[.int .i64 a', .int .i64 b', .int .i64 c'])).run Tryd.prog w = .ok (a == a' && (b == b' && c == c')) w := by
  by_cases h1 : a = a'
  · by_cases h2 : b = b'
    · by_cases h3 : c = c'
      · simp [go_sem, h1, h2, h3]
      · simp [go_sem, h1, h2, h3]
    · simp [go_sem, h1, h2]
  · simp [go_sem, h1]
theorem swap_key : ∃ u, KeyOk (K := Sw) 87 u swv := by
  refine ⟨_, ⟨Tryd.underlying87, fun e k w => by kernel_rfl, fun a b w => ?_, fun k => ?_, fun k es => ?_⟩⟩
  · obtain ⟨a1, a2, a3⟩ := a
    obtain ⟨b1, b2, b3⟩ := b
    show (Op.equalIn 10000 _ (.agg _) (.agg _)).run _ _ = _
    rw [swap_eqRun]
    congr 1
    rw [Bool.eq_iff_iff, decide_eq_true_iff]
    simp only [Bool.and_eq_true, beq_iff_eq, Prod.mk.injEq]
  · unfold swv
    simp [Instr.sameBits]
  · cases es with
    | nil => exact .inl ⟨rfl, rfl⟩
    | cons e es => exact .inr rfl
end Go.Proofs.YtpnmapfabjdfjaaDoor

/-
  The features of a set, in increasing order, and how the least of them is found and struck out. No program is named here.
-/
namespace Go.Proofs.YtpnmapfabjdfjaaDoor
open Go.RowKit

/-- The elements of the set r from j on, f places. -/
def fl (r : BitVec 32) : Nat → Nat → List (Fin 32)
  | 0, _ => []
  | f + 1, j => if r.getLsbD j then Fin.ofNat 32 j :: fl r f (j + 1) else fl r f (j + 1)
/-- The elements of a set, in increasing order. -/
def elems (r : BitVec 32) : List (Fin 32) := fl r 32 0

theorem fl_congr {r r' : BitVec 32} : ∀ (f j : Nat), (∀ i, j ≤ i → r.getLsbD i = r'.getLsbD i) → fl r f j = fl r' f j
  | 0, _, _ => rfl
  | f + 1, j, h => by
    simp only [fl, h j (Nat.le_refl _), fl_congr f (j + 1) (fun i hi => h i (by omega))]
theorem fl_step {r r' : BitVec 32} {k : Nat} (h1 : ∀ i, i < k → r.getLsbD i = false) (h2 : r.getLsbD k = true) (h3 : ∀ i, r'.getLsbD i = (r.getLsbD i && decide (i ≠ k))) :
    ∀ (f j : Nat), j ≤ k → k < j + f → fl r f j = Fin.ofNat 32 k :: fl r' f j
  | 0, j, hj, hf => by omega
  | f + 1, j, hj, hf => by
    by_cases hjk : j = k
    · subst hjk
      have e : r'.getLsbD j = false := by rw [h3]; simp
      simp only [fl, h2, e, if_true]
      rw [fl_congr f (j + 1) (fun i hi => by rw [h3]; simp; omega)]
      simp
    · have e1 : r.getLsbD j = false := h1 j (by omega)
      have e2 : r'.getLsbD j = false := by rw [h3, e1]; rfl
      simp only [fl, e1, e2]
      exact fl_step h1 h2 h3 f (j + 1) (by omega) (by omega)
theorem fl_zero : ∀ (f j : Nat), fl 0#32 f j = []
  | 0, _ => rfl
  | f + 1, j => by simp [fl, fl_zero f (j + 1)]
theorem elems_zero : elems 0#32 = [] := fl_zero 32 0

theorem low_bits (x k m : Nat) (h : x = 2 ^ k * (2 * m + 1)) : (∀ i, i < k → x.testBit i = false) ∧ x.testBit k = true ∧ (∀ i, (x &&& (x - 1)).testBit i = (x.testBit i && decide (i ≠ k))) := by
  have hb : ∀ i, x.testBit i = (decide (k ≤ i) && (2 * m + 1).testBit (i - k)) := fun i => by rw [h, Nat.testBit_two_pow_mul]
  have hp : 0 < 2 ^ k := Nat.two_pow_pos k
  have h1 : x - 1 = 2 ^ k * (2 * m) + (2 ^ k - 1) := by
    rw [h, Nat.mul_add, Nat.mul_one]; omega
  have hb1 : ∀ i, (x - 1).testBit i = if i < k then true else (2 * m).testBit (i - k) := fun i => by
    rw [h1, Nat.testBit_two_pow_mul_add _ (by omega)]
    split
    · rename_i hi; rw [Nat.testBit_two_pow_sub_one]; simpa using hi
    · rfl
  refine ⟨fun i hi => by rw [hb]; simp; omega, by rw [hb]; simp, fun i => ?_⟩
  rw [Nat.testBit_and, hb, hb1]
  by_cases hik : i < k
  · simp [hik]; omega
  · by_cases hek : i = k
    · subst hek; simp
    · have hgt : k < i := by omega
      obtain ⟨d, rfl⟩ : ∃ d, i = k + (d + 1) := ⟨i - k - 1, by omega⟩
      have e1 : k + (d + 1) - k = d + 1 := by omega
      rw [e1, if_neg hik]
      have a1 : (2 * m + 1).testBit (d + 1) = m.testBit d := by rw [Nat.testBit_succ]; congr 1; omega
      have a2 : (2 * m).testBit (d + 1) = m.testBit d := by rw [Nat.testBit_succ]; congr 1; omega
      rw [a1, a2]
      simp

theorem elems_step (r : BitVec 32) (h : r.toNat ≠ 0) : Lib.ctz 32 r.toNat < 32 ∧ elems r = Fin.ofNat 32 (Lib.ctz 32 r.toNat) :: elems (r &&& (r - 1#32)) ∧ (r &&& (r - 1#32)).toNat < r.toNat ∧ (r &&& (r - 1#32)).toNat = r.toNat &&& (r.toNat - 1) := by
  have hlt : r.toNat < 2 ^ 32 := r.isLt
  obtain ⟨m, hm, hk⟩ := Lib.ctzFrom_spec 32 r.toNat (by omega) hlt
  have e : Lib.ctz 32 r.toNat = Lib.ctzFrom 32 r.toNat := by simp [Lib.ctz, h]
  rw [e]
  obtain ⟨b1, b2, b3⟩ := low_bits _ _ _ hm
  have hsub : (r - 1#32).toNat = r.toNat - 1 := by
    rw [BitVec.toNat_sub_of_le]
    · rfl
    · rw [BitVec.le_def]; simp; omega
  have hand : (r &&& (r - 1#32)).toNat = r.toNat &&& (r.toNat - 1) := by rw [BitVec.toNat_and, hsub]
  refine ⟨hk, ?_, ?_, hand⟩
  · refine fl_step (fun i hi => ?_) ?_ (fun i => ?_) 32 0 (by omega) (by omega)
    · rw [BitVec.getLsbD]; exact b1 i hi
    · rw [BitVec.getLsbD]; exact b2
    · simp only [BitVec.getLsbD]
      rw [hand]; exact b3 i
  · rw [hand]
    have := Nat.and_le_right (n := r.toNat) (m := r.toNat - 1)
    omega

theorem and_pred (r : BitVec 32) (h : r.toNat ≠ 0) (e : (r &&& (r - 1#32)).toNat = r.toNat &&& (r.toNat - 1)) : bits BinOp.and IntKind.u32 (r.toNat : Int) ((r.toNat : Int) - 1) = ((r &&& (r - 1#32)).toNat : Int) := by
  have hr := r.isLt
  rw [show ((r.toNat : Int) - 1) = ((r.toNat - 1 : Nat) : Int) by omega, u32_and_nat _ _ (by omega) (by omega), e]
theorem tz_key (x a : Nat) (hx : x < 4294967296) (hx0 : x ≠ 0) (hlow : x &&& (4294967296 - x) = a) :
    bits BinOp.and IntKind.u32 (x : Int) (-(x : Int) % 4294967296) * 125613361 % 4294967296 / 134217728 = ((a * 125613361 % 4294967296 / 134217728 : Nat) : Int) := by
  have e1 : -(x : Int) % 4294967296 = ((4294967296 - x : Nat) : Int) := by omega
  rw [e1, u32_and_nat x _ hx (by omega), hlow]
  omega
end Go.Proofs.YtpnmapfabjdfjaaDoor

/-
  The number of a feature that stands alone (TrailingZeros32, by the library's table).
-/
namespace Go.Proofs.YtpnmapfabjdfjaaDoor
open Go.RowKit Go.Sort
attribute [local go_sem] Oper.semAt_some

/-- The table of the library that the walk reads. -/
def Tab (w : World) : Prop := ∀ j, j < 32 → w.cell? ⟨0, j, none⟩ = some (.int .u8 (Lib.deBruijn32tab.getD j 0))

set_option maxHeartbeats 1000000 in
theorem tz_core (x k idx : Nat) (w : World) (hx0 : ((x : Int) == 0) = false)
    (key : bits BinOp.and IntKind.u32 (x : Int) (-(x : Int) % 4294967296) * 125613361 % 4294967296 / 134217728 = (idx : Int))
    (hi : idx < 32) (hk : k < 32) (hcell : w.cell? ⟨0, idx, none⟩ = some (.int .u8 k)) :
    Calls Tryd.prog 93 #[.int .u32 x] w fun e w' => e = .returned (.int .i64 k) ∧ w = w' := by
  go_enter Tryd.func93, Tryd.ntmps93
  go_wp2_with (simp only [key])
  go_ret
  exact ⟨rfl, rfl⟩
theorem tz_any (x : Nat) (hx : x < 4294967296) (h0 : x ≠ 0) (w : World) (hT : Tab w) :
    Calls Tryd.prog 93 #[.int .u32 x] w fun e w' => e = .returned (.int .i64 (Lib.ctz 32 x)) ∧ w = w' := by
  obtain ⟨hlow, hk⟩ := Lib.lowest_bit 32 x h0 hx
  obtain ⟨hi, htab⟩ := Lib.deBruijn32_at _ hk
  have hcell := hT _ hi
  rw [htab] at hcell
  exact tz_core x _ _ w (by simp; omega) (tz_key x _ hx h0 hlow) hi hk hcell

theorem Tab.below {n₀ : Nat} {A B : World} (hb : Below n₀ A B) (h0 : 0 < n₀) (h : Tab A) : Tab B := fun j hj => (hb.cell (p := ⟨0, j, none⟩) h0).trans (h j hj)

theorem ctz_pow : ∀ k : Fin 24, Lib.ctz 32 (1#32 <<< k.val).toNat = k.val := by decide +kernel
theorem tz_pow (k : Nat) (hk : k < 24) (w : World) (hT : Tab w) : Gives 93 #[.int .u32 ((1#32 <<< k).toNat : Int)] w (.int .i64 (k : Int)) := by
  have h0 : (1#32 <<< k).toNat ≠ 0 := by rw [oc_sh ⟨k, hk⟩]; exact Nat.ne_of_gt (Nat.two_pow_pos k)
  have h := tz_any (1#32 <<< k).toNat (1#32 <<< k).isLt h0 w hT
  rw [ctz_pow ⟨k, hk⟩] at h
  refine h.mono ?_
  rintro e w' ⟨rfl, rfl⟩
  exact ⟨rfl, Below.refl _ _⟩
end Go.Proofs.YtpnmapfabjdfjaaDoor

/-
  What the listed table gives, and how the arguments are read.
-/
namespace Go.Proofs.YtpnmapfabjdfjaaDoor
set_option maxRecDepth 100000
open Go.ChangeShapes Go.WideShapes Go.ChangeAt Go.RowKit Go.Joins
theorem gTab : Tryd.prog.globalNamed "math/bits.deBruijn32tab" = some 0 := by kernel_rfl
theorem gTabType : (Tryd.prog.globals[0]?).map (·.type) = some 127 := by kernel_rfl
theorem cellsTab : Tryd.prog.cellsOf 127 = 32 := by kernel_rfl
theorem cellsByte : Tryd.prog.cellsOf 5 = 1 := by kernel_rfl
/-- The table's numbers. -/
def tabZ : List Int := [0, 1, 28, 2, 29, 14, 24, 3, 30, 22, 20, 15, 25, 17, 4, 8, 31, 27, 13, 23, 21, 19, 16, 7, 26, 12, 18, 6, 11, 5, 10, 9]
theorem tab_nums : ∀ j, j < 32 → tabZ.getD j 0 = ((Lib.deBruijn32tab.getD j 0 : Nat) : Int) := by decide
/-- What the list of a row gives: the table's cells. -/
theorem tab_of {W : World} (h : laidMetH Tryd.prog [("math/bits.deBruijn32tab", Rows.laid_math_bits_deBruijn32tab)] W) : Tab W := by
  have t : Lib.TabIs Tryd.prog W "math/bits.deBruijn32tab" .u8 tabZ := Lib.tabIs_of_head (rest := []) gTab gTabType Tryd.underlying127 Tryd.underlying5 cellsByte cellsTab h
  intro j hj
  have := t.cell gTab j (by simpa [tabZ] using hj)
  rw [this, tab_nums j hj]
theorem tab_lt {W : World} (h : Tab W) : 0 < W.heap.size := by
  have h0 := h 0 (by decide)
  refine Classical.byContradiction fun hn => ?_
  have e : W.heap[0]? = none := Array.getElem?_eq_none (by omega)
  simp [World.cell?, e] at h0

end Go.Proofs.YtpnmapfabjdfjaaDoor
