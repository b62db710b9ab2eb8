/-
  Lemmas that the theorem of this claim rests on: 9 texts, one behind the other.
-/
import Derived.Test.YtpnmapfabjdfjaaDoorM5
import Derived.Test.YtpnmapfabjdfjaaDoorM3
set_option linter.unusedSimpArgs false
set_option linter.unusedVariables false

/-
  The specification's Has and Check (layer 5).
-/
namespace Go.Proofs.YtpnmapfabjdfjaaDoor
open Go.RowKit Go.Sort
theorem snd_beq (x y : Snd) : (((x.1.toNat : Int) == (y.1.toNat : Int)) && ((x.2.toNat : Int) == (y.2.toNat : Int))) = decide (x = y) := by
  rw [Bool.eq_iff_iff, decide_eq_true_iff, Bool.and_eq_true, beq_iff_eq, beq_iff_eq]
  constructor
  · rintro ⟨h1, h2⟩
    exact Prod.ext (BitVec.eq_of_toNat_eq (by omega)) (BitVec.eq_of_toNat_eq (by omega))
  · rintro rfl
    exact ⟨rfl, rfl⟩
set_option maxRecDepth 100000 in
set_option maxHeartbeats 4000000 in
theorem rhas_any (l : List Snd) (s : Snd) (v : Value) (w : World) (h : Wd w v l) : Gives 52 #[v, .agg #[.int .u32 (s.1.toNat : Int), .int .u32 (s.2.toNat : Int)]] w (.bool (decide (s ∈ l))) := by
  unfold Gives
  obtain ⟨ao, cap, rfl, c1, m1, hc⟩ := h.open
  obtain ⟨N, hN⟩ : ∃ N, l.length = N := ⟨_, rfl⟩
  have k0 := World.alloc_heap_new w (.cells #[.int .u32 (s.1.toNat : Int), .int .u32 (s.2.toNat : Int)] 27)
  have hb0 := (Below.refl w.heap.size w).alloc (Nat.le_refl _) (.cells #[.int .u32 (s.1.toNat : Int), .int .u32 (s.2.toNat : Int)] 27)
  have HC := Lib.hid hc; have HN := Lib.hid hN; have K0 := Lib.hid k0; have HB0 := Lib.hid hb0
  rw [hN] at c1 ⊢
  have l1 : N ≤ 9223372036854775807 := by unfold maxLen at m1; omega
  obtain ⟨R, hR⟩ : ∃ R, decide (s ∈ l) = R := ⟨_, rfl⟩
  have HR := Lib.hid hR
  rw [hR]
  clear hc hN k0 hb0 m1 h hR
  obtain ⟨sp, sm⟩ := s
  simp only at K0 HB0
  go_enter Tryd.func52, Tryd.ntmps52
  go_wp2_with fail
  go_loopw [5] (fun i wr => ∃ k : Nat, k ≤ N ∧ i = .int .i64 (k : Int) ∧ (∀ j (hj : j < l.length), j < k → l[j] ≠ (sp, sm)) ∧ wr.heap[w.heap.size]? = some (.cells #[.int .u32 (sp.toNat : Int), .int .u32 (sm.toNat : Int)] 27 (0, 0)) ∧ Below w.heap.size w wr) (fun i _ => N - (intOf i).toNat)
  case atStart => exact ⟨0, by omega, rfl, fun j _ hj => by omega, K0.out, HB0.out⟩
  case round =>
    obtain ⟨k, hk, rfl, hall, hq, hw⟩ := hrel
    have HALL := Lib.hid hall
    clear hall
    by_cases hlt : k < N
    · have hkl : k < l.length := by rw [HN.out]; exact hlt
      obtain ⟨b, off, hao, lb, d0, d1⟩ := HC.out k hkl
      subst hao
      have d0 := (hw.cell (p := ⟨b, _, none⟩) lb).trans d0
      have d1 := (hw.cell (p := ⟨b, _, none⟩) lb).trans d1
      have hyes : l[k] = (sp, sm) → R = true := fun h => by
        rw [← HR.out]
        exact decide_eq_true (by rw [← h]; exact List.getElem_mem hkl)
      have hmore : l[k] ≠ (sp, sm) → ∀ j (hj : j < l.length), j < k + 1 → l[j] ≠ (sp, sm) := fun h j hj hjk => by
        by_cases e : j = k
        · subst e; exact h
        · exact HALL.out j hj (by omega)
      have HYES := Lib.hid hyes; have HMORE := Lib.hid hmore
      have e0 : wr.cell? ⟨w.heap.size, 0, none⟩ = some (.int .u32 (sp.toNat : Int)) := cell_block hq rfl
      have e1 : wr.cell? ⟨w.heap.size, 1, none⟩ = some (.int .u32 (sm.toNat : Int)) := cell_block hq rfl
      have HQ := Lib.hid hq; have HW := Lib.hid hw
      have hk0 : (0 : Int) ≤ (k : Int) := by omega
      have hk1 : (k : Int) < (N : Int) := by omega
      clear hyes hmore hq hw HC
      generalize l[k] = x at *
      have hbq := snd_beq x (sp, sm)
      obtain ⟨p, m⟩ := x
      simp only at d0 d1 hbq
      have hel := fun W => snd_eql (p.toNat : Int) (m.toNat : Int) (sp.toNat : Int) (sm.toNat : Int) W
      rw [hbq] at hel
      clear hbq
      by_cases hx : (p, m) = (sp, sm)
      · rw [decide_eq_true hx] at hel
        have hR := HYES.out hx
        subst hR
        clear hx HYES HMORE
        go_wp2_with fail
        go_region
        go_wp2_with fail
        go_returns
        exact ⟨rfl, HW.out.drew⟩
      · rw [decide_eq_false hx] at hel
        have HM := Lib.hid (HMORE.out hx)
        clear hx HYES HMORE
        go_wp2_with fail
        go_region
        go_wp2_with fail
        go_roundw
        case rel => exact ⟨k + 1, by omega, by go_num, HM.out, HQ.out, HW.out.drew⟩
        case measure => simp [intOf]; omega
    · obtain rfl : k = N := by omega
      have hR : R = false := by
        rw [← HR.out]
        refine decide_eq_false (fun h => ?_)
        obtain ⟨j, hj, e⟩ := List.getElem_of_mem h
        exact HALL.out j hj (by rw [← HN.out]; exact hj) e
      subst hR
      go_wp2_with fail
      go_returns
      exact ⟨rfl, hw⟩
end Go.Proofs.YtpnmapfabjdfjaaDoor

/-
  The specification's Check (layer 5).
-/
namespace Go.Proofs.YtpnmapfabjdfjaaDoor
open Go.RowKit Go.Sort
theorem Wd.take {w : World} {b off cap A : Nat} {ss : List Snd} (hA : A ≤ ss.length) (hc : ss.length ≤ cap) (hm : cap ≤ maxLen) (hb : b < w.heap.size) (h3 : ∀ i (h : i < ss.length), w.cell? ⟨b, off + i * 2, none⟩ = some (.int .u32 (ss[i].1.toNat : Int)) ∧ w.cell? ⟨b, off + i * 2 + 1, none⟩ = some (.int .u32 (ss[i].2.toNat : Int))) : Wd w (.slice (some ⟨b, off, none⟩) A cap) (ss.take A) := by
  have hl : (ss.take A).length = A := by rw [List.length_take]; omega
  refine .inr ⟨b, off, cap, by rw [hl], by omega, hm, hb, fun i hi => ?_⟩
  rw [hl] at hi
  have e : (ss.take A)[i]'(by omega) = ss[i]'(by omega) := List.getElem_take
  rw [e]
  exact h3 i (by omega)
theorem foldl_addS_len : ∀ (l ks : List Snd), (l.foldl addS ks).length ≤ ks.length + l.length
  | [], ks => by simp
  | x :: l, ks => by
    have h1 := foldl_addS_len l (addS ks x)
    have h2 := addS_len ks x
    simp only [List.foldl_cons, List.length_cons]
    omega
theorem setS_fresh {l : List Snd} {k : Nat} (hk : k ≤ l.length) (h : ∀ j (hj : j < l.length), j < k → l[j] ∉ l.take j) : setS (l.take k) = l.take k := by
  induction k with
  | zero => rfl
  | succ k ih =>
    have ih := ih (by omega) (fun j hj hjk => h j hj (by omega))
    have hk' : k < l.length := by omega
    rw [List.take_succ_eq_append_getElem hk', setS_snoc, ih]
    unfold addS
    rw [if_neg (h k hk' (by omega))]
theorem setS_twice {l : List Snd} {k : Nat} (hk : k < l.length) (h : l[k] ∈ l.take k) : (setS l).length < l.length := by
  have e : l = (l.take k ++ [l[k]]) ++ l.drop (k + 1) := by
    rw [← List.take_succ_eq_append_getElem hk, List.take_append_drop]
  have e2 : setS l = (l.drop (k + 1)).foldl addS (setS (l.take k ++ [l[k]])) := by
    conv => lhs; rw [e]
    unfold setS
    rw [List.foldl_append]
  rw [e2]
  have h1 := foldl_addS_len (l.drop (k + 1)) (setS (l.take k ++ [l[k]]))
  have h2 : setS (l.take k ++ [l[k]]) = setS (l.take k) := by
    rw [setS_snoc]
    unfold addS
    rw [if_pos ((mem_setS _ _).2 h)]
  rw [h2] at h1 ⊢
  have h3 := setS_len (l.take k)
  rw [List.length_take] at h3
  rw [List.length_drop] at h1
  omega
theorem ckE_many {l : List Snd} {most : Nat} (h : most < l.length) : ckE l most = 12 := by unfold ckE; rw [if_pos h]
theorem ckE_bad {l : List Snd} {most k : Nat} (h : ¬ most < l.length) (hk : k < l.length) (hv : vld l[k].1 l[k].2 = false) : ckE l most = 14 := by
  unfold ckE
  rw [if_neg h, take_no (p := fun s : Snd => vld s.1 s.2) hk hv, if_neg (by decide)]
theorem ckE_have {l : List Snd} {most k : Nat} (h : ¬ most < l.length) (hv : ∀ j (hj : j < l.length), vld l[j].1 l[j].2 = true) (hk : k < l.length) (ht : l[k] ∈ l.take k) : ckE l most = 6 := by
  unfold ckE
  rw [if_neg h, take_all (p := fun s : Snd => vld s.1 s.2) hv, if_pos rfl, if_pos (setS_twice hk ht)]
theorem ckE_ok {l : List Snd} {most : Nat} (h : ¬ most < l.length) (hv : ∀ j (hj : j < l.length), vld l[j].1 l[j].2 = true) (ht : ∀ j (hj : j < l.length), l[j] ∉ l.take j) : ckE l most = 0 := by
  have e := setS_fresh (Nat.le_refl l.length) (fun j hj _ => ht j hj)
  rw [List.take_length] at e
  unfold ckE
  rw [if_neg h, take_all (p := fun s : Snd => vld s.1 s.2) hv, if_pos rfl, e, if_neg (by omega)]
set_option maxRecDepth 100000 in
set_option maxHeartbeats 4000000 in
theorem rcheck_any (l : List Snd) (v : Value) (most : Nat) (w : World) (hm : most ≤ 1000000) (h : Wd w v l) : Gives 51 #[v, .int .i64 (most : Int)] w (.int .i64 (ckE l most)) := by
  unfold Gives
  obtain ⟨E, hE⟩ : ∃ E, ckE l most = E := ⟨_, rfl⟩
  rcases h with ⟨h0, rfl⟩ | ⟨bb, off, cap, rfl, c1, m1, lb, h3⟩
  · have : E = 0 := by rw [← hE]; unfold ckE; simp [setS]
    rw [hE]
    subst this
    clear hE
    rcases h0 with rfl | ⟨aa, rfl⟩
    all_goals (
      go_enter Tryd.func51, Tryd.ntmps51
      go_wp2_with fail
      go_loopw [5] (fun i wr => i = .int .i64 0 ∧ Below w.heap.size w wr) (fun _ _ => 0)
      case atStart => exact ⟨rfl, Below.refl _ _⟩
      case round =>
        obtain ⟨rfl, hw⟩ := hrel
        go_wp2_with fail
        go_loopw [6] (fun i wr => i = .int .i64 0 ∧ Below w.heap.size w wr) (fun _ _ => 0)
        case atStart => exact ⟨rfl, hw⟩
        case round =>
          clear hw
          obtain ⟨rfl, hw⟩ := hrel
          go_wp2_with fail
          go_returns
          exact ⟨rfl, hw⟩)
  · obtain ⟨N, hN⟩ : ∃ N, l.length = N := ⟨_, rfl⟩
    have hmany := ckE_many (l := l) (most := most)
    have hbad := fun k => ckE_bad (l := l) (most := most) (k := k)
    have hhave := fun k => ckE_have (l := l) (most := most) (k := k)
    have hok := ckE_ok (l := l) (most := most)
    have hsub := fun (k : Nat) (hk : k ≤ l.length) W (hb : Below w.heap.size w W) => (Wd.take (A := k) hk c1 m1 lb h3).below hb
    rw [hE] at hmany hbad hhave hok ⊢
    rw [hN] at c1 hmany hsub ⊢
    have H3 := Lib.hid h3; have HN := Lib.hid hN; have HB := Lib.hid hbad; have HH := Lib.hid hhave; have HO := Lib.hid hok; have HS := Lib.hid hsub
    have l1 : N ≤ 9223372036854775807 := by unfold maxLen at m1; omega
    have l3 : cap ≤ 9223372036854775807 := by unfold maxLen at m1; omega
    have l2 : most ≤ 9223372036854775807 := by omega
    clear h3 hN hE hbad hhave hok hsub m1
    by_cases hbig : most < N
    · have he := hmany hbig
      subst he
      have e1 : decide (most < N) = true := decide_eq_true hbig
      have e2 : decide ((most : Int) < (N : Int)) = true := decide_eq_true (by omega)
      clear hbig hmany
      go_enter Tryd.func51, Tryd.ntmps51
      go_wp2_with fail
      go_returns
      exact ⟨rfl, Below.refl _ _⟩
    · have e1 : decide (most < N) = false := decide_eq_false hbig
      have e2 : decide ((most : Int) < (N : Int)) = false := decide_eq_false (by omega)
      have HBIG := Lib.hid (show ¬ most < l.length by rw [HN.out]; exact hbig)
      clear hbig hmany
      go_enter Tryd.func51, Tryd.ntmps51
      go_wp2_with fail
      go_loopw [5] (fun i wr => ∃ k : Nat, k ≤ N ∧ i = .int .i64 (k : Int) ∧ (∀ j (hj : j < l.length), j < k → vld l[j].1 l[j].2 = true) ∧ Below w.heap.size w wr) (fun i _ => N - (intOf i).toNat)
      case atStart => exact ⟨0, by omega, rfl, fun j _ hj => by omega, Below.refl _ _⟩
      case round =>
        obtain ⟨k, hk, rfl, hall, hw⟩ := hrel
        have HALL := Lib.hid hall
        clear hall
        by_cases hlt : k < N
        · have hkl : k < l.length := by rw [HN.out]; exact hlt
          obtain ⟨d0, d1⟩ := H3.out k hkl
          have d0 := (hw.cell (p := ⟨bb, _, none⟩) lb).trans d0
          have d1 := (hw.cell (p := ⟨bb, _, none⟩) lb).trans d1
          have hv := rvalid_any l[k].1 l[k].2
          have hmore : vld l[k].1 l[k].2 = true → ∀ j (hj : j < l.length), j < k + 1 → vld l[j].1 l[j].2 = true := fun h j hj hjk => by
            by_cases e : j = k
            · subst e; exact h
            · exact HALL.out j hj (by omega)
          have hno := HB.out k HBIG.out hkl
          have HM := Lib.hid hmore; have HNO := Lib.hid hno; have HW := Lib.hid hw
          clear hmore hno HB HH HO HS H3 hw
          generalize l[k] = x at *
          obtain ⟨p, m⟩ := x
          simp only at d0 d1 hv HM HNO
          rcases hvv : vld p m with _ | _
          · rw [hvv] at hv
            have he := HNO.out hvv
            have HV := Lib.hid hv
            subst he
            clear hv hvv HM HNO
            go_wp2_with (go_at_call 59; (with_reducible refine Gives.then (HV.out _) ?_); intro w2 hb2; have HW2 := Lib.hid (HW.out.trans (hb2.mono HW.out.size)); clear hb2)
            go_returns
            exact ⟨rfl, HW2.out⟩
          · rw [hvv] at hv
            have HV := Lib.hid hv
            have HM := Lib.hid (HM.out hvv)
            clear hv hvv HNO
            go_wp2_with (go_at_call 59; (with_reducible refine Gives.then (HV.out _) ?_); intro w2 hb2; have HW2 := Lib.hid (HW.out.trans (hb2.mono HW.out.size)); clear hb2)
            go_roundw
            case rel => exact ⟨k + 1, by omega, by go_num, HM.out, HW2.out⟩
            case measure => simp [intOf]; omega
        · obtain rfl : k = N := by omega
          have hall : ∀ j (hj : j < l.length), vld l[j].1 l[j].2 = true := fun j hj => HALL.out j hj (by rw [← HN.out]; exact hj)
          have HVV := Lib.hid hall; have HW := Lib.hid hw
          clear hall hw hlt hk HB HALL
          go_wp2_with fail
          go_loopw [6] (fun i wr => ∃ q : Nat, q ≤ k ∧ i = .int .i64 (q : Int) ∧ (∀ j (hj : j < l.length), j < q → l[j] ∉ l.take j) ∧ Below w.heap.size w wr) (fun i _ => k - (intOf i).toNat)
          case atStart => exact ⟨0, by omega, rfl, fun j _ hj => by omega, HW.out⟩
          case round =>
            clear HW
            obtain ⟨q, hq, rfl, hfr, hw⟩ := hrel
            have HFR := Lib.hid hfr
            clear hfr
            by_cases hlt : q < k
            · have hkl : q < l.length := by rw [HN.out]; exact hlt
              obtain ⟨d0, d1⟩ := H3.out q hkl
              have d0 := (hw.cell (p := ⟨bb, _, none⟩) lb).trans d0
              have d1 := (hw.cell (p := ⟨bb, _, none⟩) lb).trans d1
              have hmore : l[q] ∉ l.take q → ∀ j (hj : j < l.length), j < q + 1 → l[j] ∉ l.take j := fun h j hj hjk => by
                by_cases e : j = q
                · subst e; exact h
                · exact HFR.out j hj (by omega)
              have hyes := HH.out q HBIG.out HVV.out hkl
              have hhas := fun W (hb : Below w.heap.size w W) => rhas_any (l.take q) l[q] _ W (HS.out q (by omega) W hb)
              have HM := Lib.hid hmore; have HY := Lib.hid hyes; have HA := Lib.hid hhas; have HW := Lib.hid hw
              clear hmore hyes hhas HH HO HS H3 hw
              generalize l[q] = x at *
              obtain ⟨p, m⟩ := x
              simp only at d0 d1 HM HY HA
              have l4 : q ≤ cap := by omega
              have l5 : q ≤ 9223372036854775807 := by omega
              by_cases hx : (p, m) ∈ l.take q
              · have he := HY.out hx
                subst he
                have hhas : ∀ W, Below w.heap.size w W → Gives 52 #[.slice (some ⟨bb, off, none⟩) q cap, .agg #[.int .u32 (p.toNat : Int), .int .u32 (m.toNat : Int)]] W (.bool true) := fun W hb => by have h := HA.out W hb; rw [decide_eq_true hx] at h; exact h
                have HA := Lib.hid hhas
                clear hhas HM HY hx
                go_wp2_with fail
                go_region_with (go_at_call 52; (with_reducible refine Gives.then (HA.out _ HW.out.drew) ?_); intro w2 hb2; have HW2 := Lib.hid (HW.out.drew.trans (hb2.mono HW.out.size)); clear hb2)
                all_goals go_wp2_with fail
                all_goals go_returns
                all_goals exact ⟨rfl, HW2.out⟩
              · have HM := Lib.hid (HM.out hx)
                have hhas : ∀ W, Below w.heap.size w W → Gives 52 #[.slice (some ⟨bb, off, none⟩) q cap, .agg #[.int .u32 (p.toNat : Int), .int .u32 (m.toNat : Int)]] W (.bool false) := fun W hb => by have h := HA.out W hb; rw [decide_eq_false hx] at h; exact h
                have HA := Lib.hid hhas
                clear hhas HY hx
                go_wp2_with fail
                go_region_with (go_at_call 52; (with_reducible refine Gives.then (HA.out _ HW.out.drew) ?_); intro w2 hb2; have HW2 := Lib.hid (HW.out.drew.trans (hb2.mono HW.out.size)); clear hb2)
                all_goals go_wp2_with fail
                all_goals go_roundw
                case rel => exact ⟨q + 1, by omega, by go_num, HM.out, HW2.out⟩
                case measure => simp [intOf]; omega
            · obtain rfl : q = k := by omega
              have he := HO.out HBIG.out HVV.out (fun j hj => HFR.out j hj (by rw [← HN.out]; exact hj))
              subst he
              go_wp2_with fail
              go_returns
              exact ⟨rfl, hw⟩
end Go.Proofs.YtpnmapfabjdfjaaDoor

/-
  The specification's members and Select (layer 5).
-/
namespace Go.Proofs.YtpnmapfabjdfjaaDoor
open Go.RowKit Go.Sort
theorem gv_rst (x c : Snd) (h1 : vld x.1 x.2 = true) (h2 : vld c.1 c.2 = true) (w : World) : Gives 82 #[.agg #[.int .u32 (x.1.toNat : Int), .int .u32 (x.2.toNat : Int)], .agg #[.int .u32 (c.1.toNat : Int), .int .u32 (c.2.toNat : Int)]] w (.bool (sat x c)) := rsat_ok _ _ _ _ _ h1 h2 rfl w
set_option maxRecDepth 100000 in
set_option maxHeartbeats 4000000 in
theorem rmembers_any (l : List Snd) (c : Snd) (v : Value) (w : World) (h : Wd w v l) (hv : ∀ s ∈ l, vld s.1 s.2 = true) (hcv : vld c.1 c.2 = true) (hl : l.length ≤ 1000000) : Calls Tryd.prog 54 #[v, .agg #[.int .u32 (c.1.toNat : Int), .int .u32 (c.2.toNat : Int)]] w fun e w' => ∃ v', e = .returned v' ∧ OwnI w' w.heap.size v' (msL c l 0) ∧ Below w.heap.size w w' := by
  obtain ⟨ao, cap, rfl, c1, m1, hc⟩ := h.open
  obtain ⟨N, hN⟩ : ∃ N, l.length = N := ⟨_, rfl⟩
  rw [hN] at c1 hl ⊢
  have HC := Lib.hid hc; have HN := Lib.hid hN; have HV := Lib.hid hv; have HCV := Lib.hid hcv
  have l1 : N ≤ 9223372036854775807 := by omega
  obtain ⟨cp, cm⟩ := c
  have k0 := World.alloc_heap_new w (.cells #[.int .u32 (cp.toNat : Int), .int .u32 (cm.toNat : Int)] 27)
  have hb0 := (Below.refl w.heap.size w).alloc (Nat.le_refl _) (.cells #[.int .u32 (cp.toNat : Int), .int .u32 (cm.toNat : Int)] 27)
  have K0 := Lib.hid k0; have HB0 := Lib.hid hb0
  clear hc hN h hv hcv k0 hb0 m1
  go_enter Tryd.func54, Tryd.ntmps54
  go_wp2_with fail
  go_loopw [5, 6] (fun u i wr => ∃ k : Nat, k ≤ N ∧ i = .int .i64 (k : Int) ∧ OwnI wr (w.heap.size + 1) u (msL (cp, cm) (l.take k) 0) ∧ wr.heap[w.heap.size]? = some (.cells #[.int .u32 (cp.toNat : Int), .int .u32 (cm.toNat : Int)] 27 (0, 0)) ∧ Below w.heap.size w wr) (fun _ i _ => N - (intOf i).toNat)
  case atStart => exact ⟨0, by omega, rfl, OwnI.nil _ _, K0.out, HB0.out⟩
  case round =>
    obtain ⟨k, hk, rfl, ho, q0, hw⟩ := hrel
    obtain ⟨oa, oc, hov⟩ := ho.slice
    obtain ⟨n, hn⟩ : ∃ n, (msL (cp, cm) (l.take k) 0).length = n := ⟨_, rfl⟩
    rw [hn] at hov
    subst hov
    have hml := msL_len (cp, cm) (l.take k) 0
    rw [hn, List.length_take] at hml
    have z0 := (Array.getElem?_eq_some_iff.1 q0).1
    by_cases hlt : k < N
    · have hkl : k < l.length := by rw [HN.out]; exact hlt
      obtain ⟨b, off, hao, lb, d0, d1⟩ := HC.out k hkl
      subst hao
      have d0 := (hw.cell (p := ⟨b, _, none⟩) lb).trans d0
      have d1 := (hw.cell (p := ⟨b, _, none⟩) lb).trans d1
      have hsn := msL_snoc (cp, cm) l[k] (l.take k) 0
      rw [← List.take_succ_eq_append_getElem hkl, List.length_take, Nat.min_eq_left (by omega), Nat.zero_add] at hsn
      have hgs := gv_rst l[k] (cp, cm) (HV.out _ (List.getElem_mem hkl)) HCV.out
      have HSN := Lib.hid hsn
      clear hsn HC
      generalize l[k] = x at *
      obtain ⟨p, m⟩ := x
      simp only at d0 d1 hgs
      have e0 := cell_block q0 (o := 0) rfl
      have e1 := cell_block q0 (o := 1) rfl
      have HO8 := Lib.hid (show OwnI wr.drew (w.heap.size + 1) _ _ from ho); have Q8 := Lib.hid q0; have HW8 := Lib.hid hw.drew; have HGS := Lib.hid hgs; have HNn := Lib.hid hn; have HML := Lib.hid hml
      have z8 : w.heap.size < wr.drew.heap.size := z0
      clear ho q0 hw hgs hn hml
      rcases hs : sat (p, m) (cp, cm) with _ | _
      · rw [hs] at HGS HSN
        clear hs
        go_wp2_with fail
        go_region_with (go_at_call 82; (with_reducible refine Gives.then (HGS.out _) ?_); intro w2 hb2; have HW2 := Lib.hid (HW8.out.trans (hb2.mono HW8.out.size)); have HO2 := Lib.hid (HO8.out.below hb2); have Q2 := Lib.hid ((hb2.block _ z8).trans Q8.out); clear hb2)
        all_goals go_wp2_with fail
        all_goals (
          go_roundw
          case rel => exact ⟨k + 1, by omega, by go_num, by rw [HSN.out]; simpa using HO2.out, Q2.out, HW2.out⟩
          case measure => simp [intOf]; omega)
      · rw [hs] at HGS HSN
        clear hs
        go_wp2_with fail
        go_region_with (go_at_call 82; (with_reducible refine Gives.then (HGS.out _) ?_); intro w2 hb2; have HW2 := Lib.hid ((HW8.out.trans (hb2.mono HW8.out.size)).alloc (HW8.out.trans (hb2.mono HW8.out.size)).size (.cells #[.int .i64 (k : Int)] 3)); have HO2 := Lib.hid ((HO8.out.below hb2).below ((Below.refl _ w2).alloc (Nat.le_refl _) (.cells #[.int .i64 (k : Int)] 3))); have zz : w.heap.size < w2.heap.size := Nat.lt_of_lt_of_le z8 hb2.size; have Q2 := Lib.hid ((((Below.refl _ w2).alloc (Nat.le_refl _) (.cells #[.int .i64 (k : Int)] 3)).block _ zz).trans ((hb2.block _ z8).trans Q8.out)); have ZZ := Lib.hid zz; clear hb2 zz)
        all_goals go_wp2_with (at_builtin; refine wpList_appI rfl (.tmp 19) (.tmp 21) rfl (w.heap.size + 1) w2.heap.size (.slice oa n oc) (msL (cp, cm) (l.take k) 0) k rfl rfl (cell_block (World.alloc_heap_new w2 _) rfl) HO2.out (by have h1 := HML.out; have h2 := HNn.out; omega) (by have h1 := ZZ.out; rw [World.size_alloc]; omega) ?_; intro v3 w3 ho3 hg3; have hq3 := (hg3.block w.heap.size (by rw [World.size_alloc]; have := ZZ.out; omega) (fun e => by have := HO2.out.row _ e.symm; omega)).trans Q2.out; have HW3 := Lib.hid (HW2.out.grown hg3 HW2.out.size (fun q e => by have := HO2.out.row q e; omega)); have HO3 := Lib.hid ho3; have Q3 := Lib.hid hq3; clear ho3 hg3 hq3)
        all_goals (
          go_roundw
          case rel => exact ⟨k + 1, by omega, by go_num, by rw [HSN.out]; exact HO3.out, Q3.out, HW3.out⟩
          case measure => simp [intOf]; omega)
    · obtain rfl : k = N := by omega
      have ho : OwnI wr (w.heap.size + 1) (.slice oa n oc) (msL (cp, cm) l 0) := by
        rw [← HN.out, List.take_length] at ho
        exact ho
      have HO := Lib.hid ho; have HW := Lib.hid hw
      clear ho hw hlt hn hml q0
      go_wp2_with fail
      go_returns
      exact ⟨_, rfl, HO.out.mono (Nat.le_succ _), HW.out⟩
set_option maxRecDepth 100000 in
set_option maxHeartbeats 4000000 in
theorem rselect_any (l : List Snd) (c : Snd) (v : Value) (w : World) (h : Wd w v l) : Calls Tryd.prog 24 #[v, .agg #[.int .u32 (c.1.toNat : Int), .int .u32 (c.2.toNat : Int)]] w fun e w' => ∃ m, e = .returned (.tuple #[m, .int .i64 (selE l c)]) ∧ OwnI w' w.heap.size m (selM l c) ∧ Below w.heap.size w w' := by
  have hb0 := (Below.refl w.heap.size w).alloc (Nat.le_refl _) (.cells #[.int .u32 (c.1.toNat : Int), .int .u32 (c.2.toNat : Int)] 27)
  have hck := rcheck_any l v 256 _ (by decide) (h.below hb0)
  rw [show ((256 : Nat) : Int) = 256 from rfl] at hck
  have hvl := fun W => rvalid_any c.1 c.2 W
  have hmem := fun (h1 : ckE l 256 = 0) (h2 : vld c.1 c.2 = true) (W : World) (hb : Below w.heap.size w W) => rmembers_any l c v W (h.below hb) (ckE_vld h1) h2 (Nat.le_trans (ckE_len h1) (by decide))
  obtain ⟨ao, cap, rfl, -, -, -⟩ := h.open
  have k0 := World.alloc_heap_new w (.cells #[.int .u32 (c.1.toNat : Int), .int .u32 (c.2.toNat : Int)] 27)
  have hs : selE l c = if ckE l 256 ≠ 0 then ckE l 256 else if vld c.1 c.2 then 0 else 14 := rfl
  have hm : selM l c = if selE l c = 0 then msL c l 0 else [] := rfl
  generalize hE : ckE l 256 = E at *
  have HCK := Lib.hid hck; have HVL := Lib.hid hvl; have HMEM := Lib.hid hmem; have K0 := Lib.hid k0; have HB0 := Lib.hid hb0
  have lw : w.heap.size < (w.alloc (.cells #[.int .u32 (c.1.toNat : Int), .int .u32 (c.2.toNat : Int)] 27)).heap.size := by rw [World.size_alloc]; omega
  clear hck hvl hmem k0 hb0 h hE
  obtain ⟨p, m⟩ := c
  simp only at HCK K0 HB0 lw HVL HMEM
  by_cases h0 : E = 0
  · subst h0
    rcases hv : vld p m with _ | _
    · have hs2 : selE l (p, m) = 14 := by rw [hs]; simp [hv]
      rw [hs2, if_neg (by decide)] at hm
      rw [hs2, hm]
      rw [hv] at HVL
      clear hs hs2 hm HMEM hv
      go_enter Tryd.func24, Tryd.ntmps24
      go_wp2_with fail
      go_at_call 51
      refine Gives.then HCK.out ?_
      intro w1 hb1
      have r1 := (hb1.block _ lw).trans K0.out
      have e0 := cell_block r1 (o := 0) rfl
      have e1 := cell_block r1 (o := 1) rfl
      have HW1 := Lib.hid (HB0.out.trans (hb1.mono HB0.out.size))
      clear r1 hb1
      go_wp2_with (go_at_call 59; (with_reducible refine Gives.then (HVL.out _) ?_); intro w2 hb2; have HW2 := Lib.hid (HW1.out.trans (hb2.mono HW1.out.size)); clear hb2)
      go_ret2
      exact ⟨_, rfl, OwnI.nil _ _, HW2.out⟩
    · have hs2 : selE l (p, m) = 0 := by rw [hs]; simp [hv]
      rw [hs2, if_pos rfl] at hm
      rw [hs2, hm]
      have HM2 := Lib.hid (HMEM.out rfl hv)
      clear HMEM
      rw [hv] at HVL
      clear hs hs2 hm hv
      go_enter Tryd.func24, Tryd.ntmps24
      go_wp2_with fail
      go_at_call 51
      refine Gives.then HCK.out ?_
      intro w1 hb1
      have r1 := (hb1.block _ lw).trans K0.out
      have lw1 := Nat.lt_of_lt_of_le lw hb1.size
      have e0 := cell_block r1 (o := 0) rfl
      have e1 := cell_block r1 (o := 1) rfl
      have HW1 := Lib.hid (HB0.out.trans (hb1.mono HB0.out.size))
      have R1 := Lib.hid r1
      clear r1 hb1
      go_wp2_with fail
      go_at_call 59
      refine Gives.then (HVL.out _) ?_
      intro w2 hb2
      have r2 := (hb2.block _ lw1).trans R1.out
      have e0 := cell_block r2 (o := 0) rfl
      have e1 := cell_block r2 (o := 1) rfl
      have HW2 := Lib.hid (HW1.out.trans (hb2.mono HW1.out.size))
      clear hb2 r2
      go_wp2_with fail
      go_at_call 54
      refine (HM2.out _ HW2.out).mono ?_
      rintro e w3 ⟨v3, rfl, ho3, hb3⟩
      obtain ⟨a3, c3, rfl⟩ := ho3.slice
      have HO3 := Lib.hid ho3; have HW3 := Lib.hid (HW2.out.trans (hb3.mono HW2.out.size))
      have hz2 := HW2.out.size
      clear ho3 hb3
      go_wp2_with fail
      go_ret2
      exact ⟨_, rfl, HO3.out.mono hz2, HW3.out⟩
  · have hs2 : selE l (p, m) = E := by rw [hs, if_pos h0]
    rw [hs2, if_neg h0] at hm
    rw [hs2, hm]
    have g1 : (E == 0) = false := by simpa using h0
    have g2 : (E != 0) = true := by simpa using h0
    clear hs hs2 hm HMEM HVL
    go_enter Tryd.func24, Tryd.ntmps24
    go_wp2_with fail
    go_at_call 51
    refine Gives.then HCK.out ?_
    intro w1 hb1
    have HW1 := Lib.hid (HB0.out.trans (hb1.mono HB0.out.size))
    clear hb1
    go_wp2_with fail
    go_ret2
    exact ⟨_, rfl, OwnI.nil _ _, HW1.out⟩
end Go.Proofs.YtpnmapfabjdfjaaDoor

/-
  equal and few of the law's package; NaturalSelects, given that works() returns true.
-/
namespace Go.Proofs.YtpnmapfabjdfjaaDoor
open Go.RowKit Go.Sort
theorem nats_more {xs ys : List Nat} {k : Nat} (h : k < xs.length) (h' : k < ys.length) (hp : xs.take k = ys.take k) (he : xs[k] = ys[k]) : xs.take (k + 1) = ys.take (k + 1) := by
  rw [List.take_succ_eq_append_getElem h, List.take_succ_eq_append_getElem h', hp, he]
theorem nats_no {xs ys : List Nat} {k : Nat} (h : k < xs.length) (h' : k < ys.length) (he : xs[k] ≠ ys[k]) : xs ≠ ys := fun e => he (by subst e; rfl)
set_option maxRecDepth 100000 in
set_option maxHeartbeats 4000000 in
theorem equal_any (xs ys : List Nat) (v u : Value) (w : World) (h1 : Is w v xs) (h2 : Is w u ys) : Gives 21 #[v, u] w (.bool (decide (xs = ys))) := by
  unfold Gives
  obtain ⟨ao, cap, rfl, c1, m1, hc⟩ := h1.open
  obtain ⟨bo, cap', rfl, c2, m2, hd⟩ := h2.open
  clear h1 h2
  obtain ⟨n, hn⟩ : ∃ n, xs.length = n := ⟨_, rfl⟩
  obtain ⟨m, hm⟩ : ∃ m, ys.length = m := ⟨_, rfl⟩
  rw [hn] at c1 ⊢
  rw [hm] at c2 ⊢
  have HN := Lib.hid hn; have HM := Lib.hid hm; have HC := Lib.hid hc; have HD := Lib.hid hd
  have l1 : n ≤ 9223372036854775807 := by unfold maxLen at m1; omega
  have l2 : m ≤ 9223372036854775807 := by unfold maxLen at m2; omega
  clear hn hm hc hd m1 m2
  by_cases hnm : n = m
  · subst hnm
    obtain ⟨R, hR⟩ : ∃ R, decide (xs = ys) = R := ⟨_, rfl⟩
    have HR := Lib.hid hR
    rw [hR]
    clear hR
    go_enter Tryd.func21, Tryd.ntmps21
    go_wp2_with fail
    go_loopw [5] (fun i wr => ∃ k : Nat, k ≤ n ∧ i = .int .i64 (k : Int) ∧ xs.take k = ys.take k ∧ Below w.heap.size w wr) (fun i _ => n - (intOf i).toNat)
    case atStart => exact ⟨0, by omega, rfl, by simp, Below.refl _ _⟩
    case round =>
      obtain ⟨k, hk, rfl, hp, hw⟩ := hrel
      have HP := Lib.hid hp
      clear hp
      by_cases hlt : k < n
      · have hx : k < xs.length := by rw [HN.out]; exact hlt
        have hy : k < ys.length := by rw [HM.out]; exact hlt
        obtain ⟨b, rfl, lb, d0⟩ := HC.out k hx
        obtain ⟨b', rfl, lb', g0⟩ := HD.out k hy
        have d0 := (hw.cell (p := ⟨b, _, none⟩) lb).trans d0
        have g0 := (hw.cell (p := ⟨b', _, none⟩) lb').trans g0
        have hmore := nats_more hx hy HP.out
        have hno := nats_no hx hy
        have HMO := Lib.hid hmore; have HNO := Lib.hid hno; have HW := Lib.hid hw
        clear hmore hno HC HD HP hw
        generalize xs[k] = x at *
        generalize ys[k] = y at *
        by_cases hxy : x = y
        · have HM2 := Lib.hid (HMO.out hxy)
          clear HNO HMO
          subst hxy
          go_wp2_with fail
          go_region
          all_goals go_wp2_with fail
          all_goals (
            go_roundw
            case rel => exact ⟨k + 1, by omega, by go_num, HM2.out, HW.out.drew⟩
            case measure => simp [intOf]; omega)
        · have hr : R = false := by rw [← HR.out]; exact decide_eq_false (HNO.out hxy)
          subst hr
          have e1 : ((x : Int) == (y : Int)) = false := by rw [beq_eq_false_iff_ne]; omega
          have e2 : (x == y) = false := by rw [beq_eq_false_iff_ne]; exact hxy
          clear HNO HMO
          go_wp2_with fail
          go_region
          all_goals go_wp2_with fail
          all_goals go_returns
          all_goals exact ⟨rfl, HW.out.drew⟩
      · obtain rfl : k = n := by omega
        have hr : R = true := by
          rw [← HR.out]
          have hp := HP.out
          rw [List.take_of_length_le (by rw [HN.out]; exact Nat.le_refl _), List.take_of_length_le (by rw [HM.out]; exact Nat.le_refl _)] at hp
          exact decide_eq_true hp
        subst hr
        go_wp2_with fail
        go_returns
        exact ⟨rfl, hw⟩
  · rw [decide_eq_false (fun e => hnm (by rw [← HN.out, ← HM.out, e]))]
    have e1 : ((n : Int) == (m : Int)) = false := by rw [beq_eq_false_iff_ne]; omega
    have e2 : (n == m) = false := by rw [beq_eq_false_iff_ne]; exact hnm
    go_enter Tryd.func21, Tryd.ntmps21
    go_wp2_with fail
    go_returns
    exact ⟨rfl, Below.refl _ _⟩
def fewB (n : Nat) : Bool := decide (n ≤ 24) || (decide (256 < n) && decide (n ≤ 300))
set_option maxRecDepth 100000 in
set_option maxHeartbeats 4000000 in
theorem few_any (l : List Snd) (v : Value) (w : World) (h : Wd w v l) : Gives 13 #[v] w (.bool (fewB l.length)) := by
  unfold Gives
  obtain ⟨ao, cap, rfl, c1, m1, -⟩ := h.open
  obtain ⟨n, hn⟩ : ∃ n, l.length = n := ⟨_, rfl⟩
  rw [hn] at c1 ⊢
  have l1 : n ≤ 9223372036854775807 := by unfold maxLen at m1; omega
  clear h hn m1
  unfold fewB
  by_cases h1 : n ≤ 24
  · have e1 : decide ((n : Int) ≤ 24) = true := decide_eq_true (by omega)
    have e2 : decide (n ≤ 24) = true := decide_eq_true h1
    clear h1
    go_enter Tryd.func13, Tryd.ntmps13
    go_wp2_with fail
    go_returns
    exact ⟨by simp [e2], Below.refl _ _⟩
  · have e1 : decide ((n : Int) ≤ 24) = false := decide_eq_false (by omega)
    have e2 : decide (n ≤ 24) = false := decide_eq_false h1
    by_cases h2 : 256 < n
    · have e3 : decide ((256 : Int) < (n : Int)) = true := decide_eq_true (by omega)
      have e4 : decide (256 < n) = true := decide_eq_true h2
      by_cases h3 : n ≤ 300
      · have e5 : decide ((n : Int) ≤ 300) = true := decide_eq_true (by omega)
        have e6 : decide (n ≤ 300) = true := decide_eq_true h3
        clear h1 h2 h3
        go_enter Tryd.func13, Tryd.ntmps13
        go_wp2_with fail
        go_returns
        exact ⟨by simp [e2, e4, e6], Below.refl _ _⟩
      · have e5 : decide ((n : Int) ≤ 300) = false := decide_eq_false (by omega)
        have e6 : decide (n ≤ 300) = false := decide_eq_false h3
        clear h1 h2 h3
        go_enter Tryd.func13, Tryd.ntmps13
        go_wp2_with fail
        go_returns
        exact ⟨by simp [e2, e4, e6], Below.refl _ _⟩
    · have e3 : decide ((256 : Int) < (n : Int)) = false := decide_eq_false (by omega)
      have e4 : decide (256 < n) = false := decide_eq_false h2
      clear h1 h2
      go_enter Tryd.func13, Tryd.ntmps13
      go_wp2_with fail
      go_returns
      exact ⟨by simp [e2, e4], Below.refl _ _⟩
end Go.Proofs.YtpnmapfabjdfjaaDoor

/-
  NaturalSelects, given that works() returns true.
-/
namespace Go.Proofs.YtpnmapfabjdfjaaDoor
open Go.RowKit Go.Sort
set_option maxRecDepth 100000 in
set_option maxHeartbeats 4000000 in
theorem selects_of (HWK : ∀ W, Gives 14 #[] W (.bool true)) (l : List Snd) (c : Snd) (v : Value) (w : World) (h : Wd w v l) : Gives 4 #[v, .agg #[.int .u32 (c.1.toNat : Int), .int .u32 (c.2.toNat : Int)]] w (.bool true) := by
  have hb0 := (Below.refl w.heap.size w).alloc (Nat.le_refl _) (.cells #[.int .u32 (c.1.toNat : Int), .int .u32 (c.2.toNat : Int)] 27)
  have k0 := World.alloc_heap_new w (.cells #[.int .u32 (c.1.toNat : Int), .int .u32 (c.2.toNat : Int)] 27)
  have hfew := few_any l v _ (h.below hb0)
  have hsel := fun (W : World) (hb : Below w.heap.size w W) => select_any l c v W (h.below hb)
  have hrsel := fun (W : World) (hb : Below w.heap.size w W) => rselect_any l c v W (h.below hb)
  have hslice : ∃ ao cap, v = .slice ao l.length cap := by
    obtain ⟨ao, cap, e, -⟩ := h.open
    exact ⟨ao, cap, e⟩
  obtain ⟨ao, cap, rfl⟩ := hslice
  unfold Gives
  generalize hM : selM l c = M at *
  generalize hE : selE l c = E at *
  have lw : w.heap.size < (w.alloc (.cells #[.int .u32 (c.1.toNat : Int), .int .u32 (c.2.toNat : Int)] 27)).heap.size := by rw [World.size_alloc]; omega
  have HF := Lib.hid hfew; have HS := Lib.hid hsel; have HR := Lib.hid hrsel; have K0 := Lib.hid k0; have HB0 := Lib.hid hb0; have HWK := Lib.hid HWK
  clear hM hE hfew hsel hrsel k0 hb0 h
  generalize l.length = n at *
  obtain ⟨p, m⟩ := c
  simp only at HF HS HR K0 HB0 lw
  rcases hfw : fewB n with _ | _
  · rw [hfw] at HF
    clear hfw HS HR
    go_enter Tryd.func4, Tryd.ntmps4
    go_wp2_with fail
    go_at_call 13
    refine Gives.then HF.out ?_
    intro w1 hb1
    have HW1 := Lib.hid (HB0.out.trans (hb1.mono HB0.out.size))
    clear hb1
    go_wp2_with fail
    go_at_call 14
    refine Gives.then (HWK.out _) ?_
    intro w2 hb2
    have HW2 := Lib.hid (HW1.out.trans (hb2.mono HW1.out.size))
    clear hb2
    go_wp2_with fail
    go_returns
    exact ⟨rfl, HW2.out⟩
  · rw [hfw] at HF
    clear hfw
    go_enter Tryd.func4, Tryd.ntmps4
    go_wp2_with fail
    go_at_call 13
    refine Gives.then HF.out ?_
    intro w1 hb1
    have r1 := (hb1.block _ lw).trans K0.out
    have lw1 := Nat.lt_of_lt_of_le lw hb1.size
    have e0 := cell_block r1 (o := 0) rfl
    have e1 := cell_block r1 (o := 1) rfl
    have HW1 := Lib.hid (HB0.out.trans (hb1.mono HB0.out.size))
    have R1 := Lib.hid r1
    clear r1 hb1 lw
    go_wp2_with fail
    go_at_call 23
    refine (HS.out _ HW1.out).mono ?_
    rintro e w2 ⟨v2, rfl, ho2, hb2⟩
    obtain ⟨a2, c2, rfl⟩ := ho2.slice
    have r2 := (hb2.block _ lw1).trans R1.out
    have lw2 := Nat.lt_of_lt_of_le lw1 hb2.size
    have e0 := cell_block r2 (o := 0) rfl
    have e1 := cell_block r2 (o := 1) rfl
    have HW2 := Lib.hid (HW1.out.trans (hb2.mono HW1.out.size))
    have HO2 := Lib.hid ho2.is
    clear r2 hb2 ho2
    go_wp2_with fail
    go_at_call 24
    refine (HR.out _ HW2.out).mono ?_
    rintro e w3 ⟨v3, rfl, ho3, hb3⟩
    obtain ⟨a3, c3, rfl⟩ := ho3.slice
    have HW3 := Lib.hid (HW2.out.trans (hb3.mono HW2.out.size))
    have HO2 := Lib.hid (HO2.out.below hb3)
    have HO3 := Lib.hid ho3.is
    have heq := equal_any M M _ _ w3 HO2.out HO3.out
    rw [decide_eq_true rfl] at heq
    have HEQ := Lib.hid heq
    clear hb3 ho3 heq
    go_wp2_with fail
    go_at_call 21
    refine Gives.then HEQ.out ?_
    intro w4 hb4
    have HW4 := Lib.hid (HW3.out.trans (hb4.mono HW3.out.size))
    clear hb4
    go_wp2_with fail
    go_at_call 14
    refine Gives.then (HWK.out _) ?_
    intro w5 hb5
    have HW5 := Lib.hid (HW4.out.trans (hb5.mono HW4.out.size))
    clear hb5
    go_wp2_with fail
    go_returns
    exact ⟨rfl, HW5.out⟩
end Go.Proofs.YtpnmapfabjdfjaaDoor

/-
  meet and empty of crowds.
-/
namespace Go.Proofs.YtpnmapfabjdfjaaDoor
open Go.RowKit Go.Sort
theorem crowd_beq (a b c d : BitVec 64) : (((a.toNat : Int) == 0) && (((b.toNat : Int) == 0) && (((c.toNat : Int) == 0) && ((d.toNat : Int) == 0)))) = decide (((a, b, c, d) : Cr) = (0#64, 0#64, 0#64, 0#64)) := by
  rw [Bool.eq_iff_iff, decide_eq_true_iff]
  simp only [Bool.and_eq_true, beq_iff_eq, Prod.mk.injEq]
  have key : ∀ x : BitVec 64, (x.toNat : Int) = 0 ↔ x = 0#64 := fun x => by
    constructor
    · intro h
      exact BitVec.eq_of_toNat_eq (by rw [BitVec.toNat_ofNat]; omega)
    · rintro rfl
      rfl
  rw [key, key, key, key]
theorem run_eqlC (a b c d : Int) (w : World) : (binOp .eql 96 (.agg #[.int .u64 a, .int .u64 b, .int .u64 c, .int .u64 d]) (.agg #[.int .u64 0, .int .u64 0, .int .u64 0, .int .u64 0])).run Tryd.prog w = .ok (.bool ((a == 0) && ((b == 0) && ((c == 0) && (d == 0))))) w := by
  rw [run_eql_struct, crowd_eqRun]; rfl
set_option maxRecDepth 100000 in
set_option maxHeartbeats 4000000 in
theorem empty_any (c : Cr) (w : World) : Gives 90 #[crv c] w (.bool (decide (c = (0#64, 0#64, 0#64, 0#64)))) := by
  unfold Gives
  obtain ⟨a, b, c, d⟩ := c
  unfold crv
  simp only
  have hel := fun W => run_eqlC (a.toNat : Int) (b.toNat : Int) (c.toNat : Int) (d.toNat : Int) W
  rw [crowd_beq] at hel
  obtain ⟨R, hR⟩ : ∃ R, decide (((a, b, c, d) : Cr) = (0#64, 0#64, 0#64, 0#64)) = R := ⟨_, rfl⟩
  rw [hR] at hel ⊢
  clear hR
  have hb0 := (Below.refl w.heap.size w).alloc (Nat.le_refl _) (.cells #[.int .u64 (a.toNat : Int), .int .u64 (b.toNat : Int), .int .u64 (c.toNat : Int), .int .u64 (d.toNat : Int)] 96)
  have HB0 := Lib.hid hb0
  clear hb0
  go_enter Tryd.func90, Tryd.ntmps90
  go_wp2_with fail
  go_returns
  exact ⟨rfl, HB0.out⟩
theorem and64 (a b : BitVec 64) : bits .and .u64 (a.toNat : Int) (b.toNat : Int) = ((a &&& b).toNat : Int) := by
  have h : ∀ x : BitVec 64, IntKind.u64.wrap (x.toNat : Int) = (x.toNat : Int) := fun x => by
    have := x.isLt
    rw [IntKind.wrap_u64]; omega
  show IntKind.u64.wrap ((BitVec.ofInt 64 (a.toNat : Int) &&& BitVec.ofInt 64 (b.toNat : Int)).toNat : Int) = _
  rw [h, ofInt64_nat, ofInt64_nat]
theorem other_set {W : World} {p : Addr} {v : Value} {j : Nat} (h : j ≠ p.block) : (W.setCell p v).heap[j]? = W.heap[j]? := by
  simp only [World.setCell]
  rw [Array.getElem?_modify, if_neg (fun e => h e.symm)]
/-- The sounds that are in two crowds. -/
def meC (c d : Cr) : Cr := (c.1 &&& d.1, c.2.1 &&& d.2.1, c.2.2.1 &&& d.2.2.1, c.2.2.2 &&& d.2.2.2)
def meK (c d : Cr) (k : Nat) : Array Value := #[.int .u64 ((if 0 < k then c.1 &&& d.1 else c.1).toNat : Int), .int .u64 ((if 1 < k then c.2.1 &&& d.2.1 else c.2.1).toNat : Int), .int .u64 ((if 2 < k then c.2.2.1 &&& d.2.2.1 else c.2.2.1).toNat : Int), .int .u64 ((if 3 < k then c.2.2.2 &&& d.2.2.2 else c.2.2.2).toNat : Int)]
set_option maxRecDepth 100000 in
set_option maxHeartbeats 8000000 in
theorem cmeet_any (c d : Cr) (w : World) : Gives 88 #[crv c, crv d] w (crv (meC c d)) := by
  unfold Gives
  obtain ⟨c0, c1, c2, c3⟩ := c
  obtain ⟨d0, d1, d2, d3⟩ := d
  unfold crv meC
  simp only
  obtain ⟨CB, hCB⟩ : ∃ CB : Obj, CB = (.cells #[.int .u64 (c0.toNat : Int), .int .u64 (c1.toNat : Int), .int .u64 (c2.toNat : Int), .int .u64 (c3.toNat : Int)] 96) := ⟨_, rfl⟩
  have kA := World.alloc_heap_new w (.cells #[.int .u64 (c0.toNat : Int), .int .u64 (c1.toNat : Int), .int .u64 (c2.toNat : Int), .int .u64 (c3.toNat : Int)] 96)
  have bA := (Below.refl w.heap.size w).alloc (Nat.le_refl _) (.cells #[.int .u64 (c0.toNat : Int), .int .u64 (c1.toNat : Int), .int .u64 (c2.toNat : Int), .int .u64 (c3.toNat : Int)] 96)
  generalize hwA : w.alloc (.cells #[.int .u64 (c0.toNat : Int), .int .u64 (c1.toNat : Int), .int .u64 (c2.toNat : Int), .int .u64 (c3.toNat : Int)] 96) = wA at *
  have sA : wA.heap.size = w.heap.size + 1 := by rw [← hwA, World.size_alloc]
  have kB := World.alloc_heap_new wA (.cells #[.int .u64 (d0.toNat : Int), .int .u64 (d1.toNat : Int), .int .u64 (d2.toNat : Int), .int .u64 (d3.toNat : Int)] 96)
  have bB := bA.alloc bA.size (.cells #[.int .u64 (d0.toNat : Int), .int .u64 (d1.toNat : Int), .int .u64 (d2.toNat : Int), .int .u64 (d3.toNat : Int)] 96)
  have kA := (((Below.refl _ wA).alloc (Nat.le_refl _) (.cells #[.int .u64 (d0.toNat : Int), .int .u64 (d1.toNat : Int), .int .u64 (d2.toNat : Int), .int .u64 (d3.toNat : Int)] 96)).block w.heap.size (by omega)).trans kA
  generalize hwB : wA.alloc (.cells #[.int .u64 (d0.toNat : Int), .int .u64 (d1.toNat : Int), .int .u64 (d2.toNat : Int), .int .u64 (d3.toNat : Int)] 96) = wB at *
  have sB : wB.heap.size = w.heap.size + 2 := by rw [← hwB, World.size_alloc]; omega
  have kC := World.alloc_heap_new wB (.cells #[.int .u64 0, .int .u64 0, .int .u64 0, .int .u64 0] 96)
  have bC := bB.alloc bB.size (.cells #[.int .u64 0, .int .u64 0, .int .u64 0, .int .u64 0] 96)
  have kA := (((Below.refl _ wB).alloc (Nat.le_refl _) (.cells #[.int .u64 0, .int .u64 0, .int .u64 0, .int .u64 0] 96)).block w.heap.size (by omega)).trans kA
  rw [sA] at kB
  have kB := (((Below.refl _ wB).alloc (Nat.le_refl _) (.cells #[.int .u64 0, .int .u64 0, .int .u64 0, .int .u64 0] 96)).block (w.heap.size + 1) (by omega)).trans kB
  rw [sB] at kC
  have KA := Lib.hid kA; have KB := Lib.hid kB; have KC := Lib.hid kC; have BC := Lib.hid bC
  subst hwB
  subst hwA
  clear hCB CB kA kB kC bA bB bC sA sB
  go_enter Tryd.func88, Tryd.ntmps88
  go_wp2_with fail
  go_loopw [6] (fun i wr => ∃ k : Nat, k ≤ 4 ∧ i = .int .i64 (k : Int) ∧ wr.heap[w.heap.size]? = some (.cells (meK (c0, c1, c2, c3) (d0, d1, d2, d3) k) 96 (0, 0)) ∧ wr.heap[w.heap.size + 1]? = some (.cells #[.int .u64 (d0.toNat : Int), .int .u64 (d1.toNat : Int), .int .u64 (d2.toNat : Int), .int .u64 (d3.toNat : Int)] 96 (0, 0)) ∧ wr.heap[w.heap.size + 2]? = some (.cells #[.int .u64 0, .int .u64 0, .int .u64 0, .int .u64 0] 96 (0, 0)) ∧ Below w.heap.size w wr) (fun i _ => 4 - (intOf i).toNat)
  case atStart => exact ⟨0, by omega, rfl, KA.out, KB.out, KC.out, BC.out⟩
  case round =>
    clear KA KB KC BC
    obtain ⟨k, hk, rfl, qA, qB, qC, hw⟩ := hrel
    have hk5 : k = 0 ∨ k = 1 ∨ k = 2 ∨ k = 3 ∨ k = 4 := by omega
    rcases hk5 with rfl | rfl | rfl | rfl | rfl
    · have wk : IntKind.i64.wrap 0 = 0 := by decide
      have hand := and64 c0 d0
      change wr.heap[w.heap.size]? = some (.cells #[.int .u64 ((c0).toNat : Int), .int .u64 ((c1).toNat : Int), .int .u64 ((c2).toNat : Int), .int .u64 ((c3).toNat : Int)] 96 (0, 0)) at qA
      have e0 : wr.cell? ⟨w.heap.size, 0, none⟩ = some (.int .u64 (c0.toNat : Int)) := cell_block qA rfl
      have f0 := frozen_block (o := 0) qA
      have e1 : wr.cell? ⟨w.heap.size + 1, 0, none⟩ = some (.int .u64 (d0.toNat : Int)) := cell_block qB rfl
      have zC := (Array.getElem?_eq_some_iff.1 qC).1
      have HA := Lib.hid qA; have HB := Lib.hid qB; have HC := Lib.hid qC; have HW := Lib.hid hw; have HAND := Lib.hid hand
      clear qA qB qC hw
      go_wp2_with fail
      go_region
      all_goals go_wp2_with fail
      all_goals (
        go_roundw
        case rel => exact ⟨1, by omega, rfl, by (try rw [HAND.out]); exact block_set HA.out, (other_set (j := w.heap.size + 1) (show w.heap.size + 1 ≠ w.heap.size by omega)).trans HB.out, (other_set (j := w.heap.size + 1 + 1) (show w.heap.size + 1 + 1 ≠ w.heap.size by omega)).trans HC.out, (HW.out.setCell (p := ⟨w.heap.size, 0, none⟩) (Nat.le_refl _) _).drew⟩
        case measure => simp [intOf])
    · have wk : IntKind.i64.wrap 1 = 1 := by decide
      have hand := and64 c1 d1
      change wr.heap[w.heap.size]? = some (.cells #[.int .u64 ((c0 &&& d0).toNat : Int), .int .u64 ((c1).toNat : Int), .int .u64 ((c2).toNat : Int), .int .u64 ((c3).toNat : Int)] 96 (0, 0)) at qA
      have e0 : wr.cell? ⟨w.heap.size, 1, none⟩ = some (.int .u64 (c1.toNat : Int)) := cell_block qA rfl
      have f0 := frozen_block (o := 1) qA
      have e1 : wr.cell? ⟨w.heap.size + 1, 1, none⟩ = some (.int .u64 (d1.toNat : Int)) := cell_block qB rfl
      have zC := (Array.getElem?_eq_some_iff.1 qC).1
      have HA := Lib.hid qA; have HB := Lib.hid qB; have HC := Lib.hid qC; have HW := Lib.hid hw; have HAND := Lib.hid hand
      clear qA qB qC hw
      go_wp2_with fail
      go_region
      all_goals go_wp2_with fail
      all_goals (
        go_roundw
        case rel => exact ⟨2, by omega, rfl, by (try rw [HAND.out]); exact block_set HA.out, (other_set (j := w.heap.size + 1) (show w.heap.size + 1 ≠ w.heap.size by omega)).trans HB.out, (other_set (j := w.heap.size + 1 + 1) (show w.heap.size + 1 + 1 ≠ w.heap.size by omega)).trans HC.out, (HW.out.setCell (p := ⟨w.heap.size, 1, none⟩) (Nat.le_refl _) _).drew⟩
        case measure => simp [intOf])
    · have wk : IntKind.i64.wrap 2 = 2 := by decide
      have hand := and64 c2 d2
      change wr.heap[w.heap.size]? = some (.cells #[.int .u64 ((c0 &&& d0).toNat : Int), .int .u64 ((c1 &&& d1).toNat : Int), .int .u64 ((c2).toNat : Int), .int .u64 ((c3).toNat : Int)] 96 (0, 0)) at qA
      have e0 : wr.cell? ⟨w.heap.size, 2, none⟩ = some (.int .u64 (c2.toNat : Int)) := cell_block qA rfl
      have f0 := frozen_block (o := 2) qA
      have e1 : wr.cell? ⟨w.heap.size + 1, 2, none⟩ = some (.int .u64 (d2.toNat : Int)) := cell_block qB rfl
      have zC := (Array.getElem?_eq_some_iff.1 qC).1
      have HA := Lib.hid qA; have HB := Lib.hid qB; have HC := Lib.hid qC; have HW := Lib.hid hw; have HAND := Lib.hid hand
      clear qA qB qC hw
      go_wp2_with fail
      go_region
      all_goals go_wp2_with fail
      all_goals (
        go_roundw
        case rel => exact ⟨3, by omega, rfl, by (try rw [HAND.out]); exact block_set HA.out, (other_set (j := w.heap.size + 1) (show w.heap.size + 1 ≠ w.heap.size by omega)).trans HB.out, (other_set (j := w.heap.size + 1 + 1) (show w.heap.size + 1 + 1 ≠ w.heap.size by omega)).trans HC.out, (HW.out.setCell (p := ⟨w.heap.size, 2, none⟩) (Nat.le_refl _) _).drew⟩
        case measure => simp [intOf])
    · have wk : IntKind.i64.wrap 3 = 3 := by decide
      have hand := and64 c3 d3
      change wr.heap[w.heap.size]? = some (.cells #[.int .u64 ((c0 &&& d0).toNat : Int), .int .u64 ((c1 &&& d1).toNat : Int), .int .u64 ((c2 &&& d2).toNat : Int), .int .u64 ((c3).toNat : Int)] 96 (0, 0)) at qA
      have e0 : wr.cell? ⟨w.heap.size, 3, none⟩ = some (.int .u64 (c3.toNat : Int)) := cell_block qA rfl
      have f0 := frozen_block (o := 3) qA
      have e1 : wr.cell? ⟨w.heap.size + 1, 3, none⟩ = some (.int .u64 (d3.toNat : Int)) := cell_block qB rfl
      have zC := (Array.getElem?_eq_some_iff.1 qC).1
      have HA := Lib.hid qA; have HB := Lib.hid qB; have HC := Lib.hid qC; have HW := Lib.hid hw; have HAND := Lib.hid hand
      clear qA qB qC hw
      go_wp2_with fail
      go_region
      all_goals go_wp2_with fail
      all_goals (
        go_roundw
        case rel => exact ⟨4, by omega, rfl, by (try rw [HAND.out]); exact block_set HA.out, (other_set (j := w.heap.size + 1) (show w.heap.size + 1 ≠ w.heap.size by omega)).trans HB.out, (other_set (j := w.heap.size + 1 + 1) (show w.heap.size + 1 + 1 ≠ w.heap.size by omega)).trans HC.out, (HW.out.setCell (p := ⟨w.heap.size, 3, none⟩) (Nat.le_refl _) _).drew⟩
        case measure => simp [intOf])
    · change wr.heap[w.heap.size]? = some (.cells #[.int .u64 ((c0 &&& d0).toNat : Int), .int .u64 ((c1 &&& d1).toNat : Int), .int .u64 ((c2 &&& d2).toNat : Int), .int .u64 ((c3 &&& d3).toNat : Int)] 96 (0, 0)) at qA
      change wr.heap[w.heap.size + 1 + 1]? = _ at qC
      obtain ⟨x0, hx0⟩ : ∃ x, c0 &&& d0 = x := ⟨_, rfl⟩
      rw [hx0] at qA
      have HX0 := Lib.hid hx0
      clear hx0
      obtain ⟨x1, hx1⟩ : ∃ x, c1 &&& d1 = x := ⟨_, rfl⟩
      rw [hx1] at qA
      have HX1 := Lib.hid hx1
      clear hx1
      obtain ⟨x2, hx2⟩ : ∃ x, c2 &&& d2 = x := ⟨_, rfl⟩
      rw [hx2] at qA
      have HX2 := Lib.hid hx2
      clear hx2
      obtain ⟨x3, hx3⟩ : ∃ x, c3 &&& d3 = x := ⟨_, rfl⟩
      rw [hx3] at qA
      have HX3 := Lib.hid hx3
      clear hx3
      have e0 : wr.cell? ⟨w.heap.size, 0, none⟩ = some (.int .u64 (x0.toNat : Int)) := cell_block qA rfl
      have e1 : wr.cell? ⟨w.heap.size, 1, none⟩ = some (.int .u64 (x1.toNat : Int)) := cell_block qA rfl
      have e2 : wr.cell? ⟨w.heap.size, 2, none⟩ = some (.int .u64 (x2.toNat : Int)) := cell_block qA rfl
      have e3 : wr.cell? ⟨w.heap.size, 3, none⟩ = some (.int .u64 (x3.toNat : Int)) := cell_block qA rfl
      have f0 := frozen_block (o := 0) qC
      have g0 : wr.cell? ⟨w.heap.size + 1 + 1, 0, none⟩ = some (.int .u64 0) := cell_block qC rfl
      have f1 := frozen_block (o := 1) qC
      have g1 : wr.cell? ⟨w.heap.size + 1 + 1, 1, none⟩ = some (.int .u64 0) := cell_block qC rfl
      have f2 := frozen_block (o := 2) qC
      have g2 : wr.cell? ⟨w.heap.size + 1 + 1, 2, none⟩ = some (.int .u64 0) := cell_block qC rfl
      have f3 := frozen_block (o := 3) qC
      have g3 : wr.cell? ⟨w.heap.size + 1 + 1, 3, none⟩ = some (.int .u64 0) := cell_block qC rfl
      have j0 : (wr.setCell ⟨w.heap.size + 1 + 1, 0, none⟩ (.int .u64 (x0.toNat : Int))).cell? ⟨w.heap.size + 1 + 1, 0, none⟩ = some (.int .u64 (x0.toNat : Int)) := cell_block (block_set qC) rfl
      have j1 : ((wr.setCell ⟨w.heap.size + 1 + 1, 0, none⟩ (.int .u64 (x0.toNat : Int))).setCell ⟨w.heap.size + 1 + 1, 1, none⟩ (.int .u64 (x1.toNat : Int))).cell? ⟨w.heap.size + 1 + 1, 1, none⟩ = some (.int .u64 (x1.toNat : Int)) := cell_block (block_set (block_set qC)) rfl
      have j2 : (((wr.setCell ⟨w.heap.size + 1 + 1, 0, none⟩ (.int .u64 (x0.toNat : Int))).setCell ⟨w.heap.size + 1 + 1, 1, none⟩ (.int .u64 (x1.toNat : Int))).setCell ⟨w.heap.size + 1 + 1, 2, none⟩ (.int .u64 (x2.toNat : Int))).cell? ⟨w.heap.size + 1 + 1, 2, none⟩ = some (.int .u64 (x2.toNat : Int)) := cell_block (block_set (block_set (block_set qC))) rfl
      have j3 : ((((wr.setCell ⟨w.heap.size + 1 + 1, 0, none⟩ (.int .u64 (x0.toNat : Int))).setCell ⟨w.heap.size + 1 + 1, 1, none⟩ (.int .u64 (x1.toNat : Int))).setCell ⟨w.heap.size + 1 + 1, 2, none⟩ (.int .u64 (x2.toNat : Int))).setCell ⟨w.heap.size + 1 + 1, 3, none⟩ (.int .u64 (x3.toNat : Int))).cell? ⟨w.heap.size + 1 + 1, 3, none⟩ = some (.int .u64 (x3.toNat : Int)) := cell_block (block_set (block_set (block_set (block_set qC)))) rfl
      have HW := Lib.hid ((((hw.setCell (p := ⟨w.heap.size + 1 + 1, 0, none⟩) (Nat.le_add_right _ 2) (.int .u64 (x0.toNat : Int))).setCell (p := ⟨w.heap.size + 1 + 1, 1, none⟩) (Nat.le_add_right _ 2) (.int .u64 (x1.toNat : Int))).setCell (p := ⟨w.heap.size + 1 + 1, 2, none⟩) (Nat.le_add_right _ 2) (.int .u64 (x2.toNat : Int))).setCell (p := ⟨w.heap.size + 1 + 1, 3, none⟩) (Nat.le_add_right _ 2) (.int .u64 (x3.toNat : Int)))
      clear hw qA qB qC hk
      go_wp2_with fail
      refine bodyPost_ret (v := .agg #[.int .u64 (x0.toNat : Int), .int .u64 (x1.toNat : Int), .int .u64 (x2.toNat : Int), .int .u64 (x3.toNat : Int)]) (by simp [results, Tryd.results88, go_sem, j0, j1, j2, j3]) rfl ?_
      exact ⟨by rw [HX0.out, HX1.out, HX2.out, HX3.out], HW.out⟩
end Go.Proofs.YtpnmapfabjdfjaaDoor

/-
  singles of package natural.
-/
namespace Go.Proofs.YtpnmapfabjdfjaaDoor
open Go.RowKit Go.Sort
/-- One value of a condition. -/
def oneV (c : Snd) (k : Nat) : Snd := (c.1 &&& (1#32 <<< k), c.2 &&& (1#32 <<< k))
/-- The values of a condition, by their features. -/
def sgL (c : Snd) : Nat → List Snd
  | 0 => []
  | k + 1 => sgL c k ++ (if oneV c k = (0#32, 0#32) then [] else [oneV c k])
theorem sgL_len (c : Snd) : ∀ k, (sgL c k).length ≤ k
  | 0 => Nat.le_refl _
  | k + 1 => by
    have := sgL_len c k
    unfold sgL
    rw [List.length_append]
    split
    · simp; omega
    · simp; omega
theorem shl32 (r : Nat) (h : r < 24) : IntKind.u32.wrap ((2 : Int) ^ r) = ((1#32 <<< r).toNat : Int) := (by decide +kernel : ∀ k : Fin 24, IntKind.u32.wrap ((2 : Int) ^ k.val) = ((1#32 <<< k.val).toNat : Int)) ⟨r, h⟩
theorem low24 (r : Nat) (h : r < 24) : (1#32 <<< r) &&& 4278190080#32 = 0 := (by decide +kernel : ∀ k : Fin 24, (1#32 <<< k.val) &&& 4278190080#32 = 0) ⟨r, h⟩
theorem take_one (c : Snd) (hc : vld c.1 c.2 = true) (k : Nat) (hk : k < 24) (W : World) : Gives 102 #[.agg #[.int .u32 0, .int .u32 0], .agg #[.int .u32 (c.1.toNat : Int), .int .u32 (c.2.toNat : Int)], .int .u32 ((1#32 <<< k).toNat : Int)] W (.tuple #[.agg #[.int .u32 ((oneV c k).1.toNat : Int), .int .u32 ((oneV c k).2.toNat : Int)], .int .i64 0]) := by
  have h := take_ok 0#32 0#32 (1#32 <<< k) c.1 c.2 (by rw [hc]; decide) (low24 k hk) W
  have e : ∀ x S : BitVec 32, (0#32 &&& ~~~S) ||| (x &&& ~~~(bnot S)) = x &&& S := fun x S => by simp [bnot]
  rw [e, e] at h
  exact h
theorem snd_bne (x : Snd) : (!(((x.1.toNat : Int) == 0) && ((x.2.toNat : Int) == 0))) = !decide (x = (0#32, 0#32)) := by
  rw [← snd_beq]; rfl
theorem app_one {W : World} {base : Nat} {v : Value} {ss : List Snd} (h : Own W base v ss) (hb : base ≤ W.heap.size) (x : Snd) : Own (W.alloc (.cells #[.int .u32 (x.1.toNat : Int), .int .u32 (x.2.toNat : Int)] 27)) base v ss ∧ Wd (W.alloc (.cells #[.int .u32 (x.1.toNat : Int), .int .u32 (x.2.toNat : Int)] 27)) (.slice (some ⟨W.heap.size, 0, none⟩) 1 1) [x] ∧ base ≤ (W.alloc (.cells #[.int .u32 (x.1.toNat : Int), .int .u32 (x.2.toNat : Int)] 27)).heap.size ∧ ∀ B w, B ≤ W.heap.size → Below B w W → Below B w (W.alloc (.cells #[.int .u32 (x.1.toNat : Int), .int .u32 (x.2.toNat : Int)] 27)) :=
  ⟨h.below ((Below.refl _ W).alloc (Nat.le_refl _) _), wd_one W x.1 x.2, by rw [World.size_alloc]; omega, fun _ _ hB hw => hw.alloc hB _⟩
set_option maxRecDepth 100000 in
set_option maxHeartbeats 4000000 in
theorem singles_any (c : Snd) (hc : vld c.1 c.2 = true) (w : World) : Calls Tryd.prog 86 #[.agg #[.int .u32 (c.1.toNat : Int), .int .u32 (c.2.toNat : Int)]] w fun e w' => ∃ v', e = .returned v' ∧ Own w' w.heap.size v' (sgL c 24) ∧ Below w.heap.size w w' := by
  have htk := take_one c hc
  have hne := fun (x : Snd) W => snd_neq (x.1.toNat : Int) (x.2.toNat : Int) 0 0 W
  have hb0 := (Below.refl w.heap.size w).alloc (Nat.le_refl _) (.cells #[.int .u32 (c.1.toNat : Int), .int .u32 (c.2.toNat : Int)] 27)
  have k0 := World.alloc_heap_new w (.cells #[.int .u32 (c.1.toNat : Int), .int .u32 (c.2.toNat : Int)] 27)
  have HTK := Lib.hid htk; have HNE := Lib.hid hne; have HB0 := Lib.hid hb0; have K0 := Lib.hid k0
  clear htk hne hb0 k0
  obtain ⟨p, m⟩ := c
  simp only at HTK HB0 K0
  go_enter Tryd.func86, Tryd.ntmps86
  go_wp2_with fail
  go_loopw [3, 7] (fun u i wr => ∃ k : Nat, k ≤ 24 ∧ i = .int .i64 (k : Int) ∧ Own wr (w.heap.size + 1) u (sgL (p, m) k) ∧ wr.heap[w.heap.size]? = some (.cells #[.int .u32 (p.toNat : Int), .int .u32 (m.toNat : Int)] 27 (0, 0)) ∧ Below w.heap.size w wr) (fun _ i _ => 24 - (intOf i).toNat)
  case atStart => exact ⟨0, by omega, rfl, Own.nil _ _, K0.out, HB0.out⟩
  case round =>
    clear K0 HB0
    obtain ⟨k, hk, rfl, ho, q0, hw⟩ := hrel
    obtain ⟨oa, oc, hov, -⟩ := ho.wd.open
    obtain ⟨n, hn⟩ : ∃ n, (sgL (p, m) k).length = n := ⟨_, rfl⟩
    rw [hn] at hov
    subst hov
    have hml := sgL_len (p, m) k
    rw [hn] at hml
    have z0 := (Array.getElem?_eq_some_iff.1 q0).1
    by_cases hlt : k < 24
    · have htk := HTK.out k hlt
      have hsh := shl32 k hlt
      have hsn : sgL (p, m) (k + 1) = sgL (p, m) k ++ (if oneV (p, m) k = (0#32, 0#32) then [] else [oneV (p, m) k]) := rfl
      have hnx := fun W => HNE.out (oneV (p, m) k) W
      have hbx := snd_bne (oneV (p, m) k)
      rw [hbx] at hnx
      clear hbx
      generalize oneV (p, m) k = x at *
      generalize 1#32 <<< k = S at *
      obtain ⟨xp, xm⟩ := x
      simp only at hnx htk
      have e0 := cell_block q0 (o := 0) rfl
      have e1 := cell_block q0 (o := 1) rfl
      have HSN := Lib.hid hsn; have HT := Lib.hid htk; have HO := Lib.hid ho; have Q0 := Lib.hid q0; have HW := Lib.hid hw; have HNn := Lib.hid hn
      clear hsn htk ho q0 hw hn HTK HNE
      have z1 := z0
      by_cases hx : (xp, xm) = (0#32, 0#32)
      · have hsn := HSN.out
        rw [if_pos hx, List.append_nil] at hsn
        rw [decide_eq_true hx] at hnx
        have HS2 := Lib.hid hsn
        clear hsn HSN hx
        go_wp2_with fail
        go_region_with (go_at_call 102; (with_reducible refine Gives.then (HT.out _) ?_); intro w2 hb2; first | (have r2 := (hb2.block wr.heap.size (by show wr.heap.size < (wr.drew.alloc _).heap.size; rw [World.size_alloc]; show wr.heap.size < wr.heap.size + 1; omega)).trans (World.alloc_heap_new wr.drew (.cells #[.int .u32 0, .int .u32 0] 27)); have c0 := cell_block r2 (o := 0) rfl; have c1 := cell_block r2 (o := 1) rfl; have f0 := frozen_block (o := 0) r2; have f1 := frozen_block (o := 1) r2; have hbw : Below wr.heap.size wr ((w2.setCell ⟨wr.heap.size, 0, none⟩ (.int .u32 (xp.toNat : Int))).setCell ⟨wr.heap.size, 1, none⟩ (.int .u32 (xm.toNat : Int))) := (((((Below.refl wr.heap.size wr).alloc (Nat.le_refl _) (.cells #[.int .u32 0, .int .u32 0] 27)).drew).trans (hb2.mono (by show wr.heap.size ≤ (wr.alloc _).heap.size; rw [World.size_alloc]; omega))).setCell (p := ⟨wr.heap.size, 0, none⟩) (Nat.le_refl _) _).setCell (p := ⟨wr.heap.size, 1, none⟩) (Nat.le_refl _) _; have HBW := Lib.hid hbw; have R3 := Lib.hid (two_set (x' := .int .u32 (xp.toNat : Int)) (y' := .int .u32 (xm.toNat : Int)) r2); clear hb2 r2 hbw) | (have HBW := Lib.hid (((Below.refl wr.heap.size wr).drew.trans hb2).alloc ((Below.refl wr.heap.size wr).drew.trans hb2).size (.cells #[.int .u32 (xp.toNat : Int), .int .u32 (xm.toNat : Int)] 27)); have R3 := Lib.hid (World.alloc_heap_new w2 (.cells #[.int .u32 (xp.toNat : Int), .int .u32 (xm.toNat : Int)] 27)); clear hb2))
        all_goals (
          have r0 := cell_block R3.out (o := 0) rfl
          have r1 := cell_block R3.out (o := 1) rfl
          have HO2 := Lib.hid (HO.out.below HBW.out); have Q2 := Lib.hid ((HBW.out.block _ z1).trans Q0.out); have HW2 := Lib.hid (HW.out.trans (HBW.out.mono HW.out.size))
          go_wp2_with fail
          go_roundw
          case rel => exact ⟨k + 1, by omega, by go_num, by rw [HS2.out]; exact HO2.out, Q2.out, HW2.out⟩
          case measure => simp [intOf]; omega)
      · have hsn := HSN.out
        rw [if_neg hx] at hsn
        rw [decide_eq_false hx] at hnx
        have HS2 := Lib.hid hsn
        clear hsn HSN hx
        go_wp2_with fail
        go_region_with (go_at_call 102; (with_reducible refine Gives.then (HT.out _) ?_); intro w2 hb2; first | (have r2 := (hb2.block wr.heap.size (by show wr.heap.size < (wr.drew.alloc _).heap.size; rw [World.size_alloc]; show wr.heap.size < wr.heap.size + 1; omega)).trans (World.alloc_heap_new wr.drew (.cells #[.int .u32 0, .int .u32 0] 27)); have c0 := cell_block r2 (o := 0) rfl; have c1 := cell_block r2 (o := 1) rfl; have f0 := frozen_block (o := 0) r2; have f1 := frozen_block (o := 1) r2; have hbw : Below wr.heap.size wr ((w2.setCell ⟨wr.heap.size, 0, none⟩ (.int .u32 (xp.toNat : Int))).setCell ⟨wr.heap.size, 1, none⟩ (.int .u32 (xm.toNat : Int))) := (((((Below.refl wr.heap.size wr).alloc (Nat.le_refl _) (.cells #[.int .u32 0, .int .u32 0] 27)).drew).trans (hb2.mono (by show wr.heap.size ≤ (wr.alloc _).heap.size; rw [World.size_alloc]; omega))).setCell (p := ⟨wr.heap.size, 0, none⟩) (Nat.le_refl _) _).setCell (p := ⟨wr.heap.size, 1, none⟩) (Nat.le_refl _) _; have HBW := Lib.hid hbw; have R3 := Lib.hid (two_set (x' := .int .u32 (xp.toNat : Int)) (y' := .int .u32 (xm.toNat : Int)) r2); clear hb2 r2 hbw) | (have HBW := Lib.hid (((Below.refl wr.heap.size wr).drew.trans hb2).alloc ((Below.refl wr.heap.size wr).drew.trans hb2).size (.cells #[.int .u32 (xp.toNat : Int), .int .u32 (xm.toNat : Int)] 27)); have R3 := Lib.hid (World.alloc_heap_new w2 (.cells #[.int .u32 (xp.toNat : Int), .int .u32 (xm.toNat : Int)] 27)); clear hb2))
        all_goals (
          have r0 := cell_block R3.out (o := 0) rfl
          have r1 := cell_block R3.out (o := 1) rfl
          have HO2 := Lib.hid (HO.out.below HBW.out); have Q2 := Lib.hid ((HBW.out.block _ z1).trans Q0.out); have HW2 := Lib.hid (HW.out.trans (HBW.out.mono HW.out.size))
          have hap := app_one HO2.out (Nat.le_trans z1 HBW.out.size) (xp, xm)
          have hwo := hap.2.1
          simp only [World.size_alloc, World.size_setCell] at hwo
          have HO3 := Lib.hid hap.1; have HWO := Lib.hid hwo; have HBS := Lib.hid hap.2.2.1; have Q3 := Lib.hid ((hap.2.2.2 _ _ (Nat.le_trans z1 HBW.out.size) (Below.refl (w.heap.size + 1) _)).block w.heap.size (by omega)); have HW3 := Lib.hid (hap.2.2.2 _ _ HW2.out.size HW2.out)
          clear hap hwo
          go_wp2_with (at_builtin; go_loud (refine wpList_app rfl (.tmp 21) (.tmp 23) 22 Tryd.underlying22 rfl (w.heap.size + 1) _ _ _ _ rfl rfl HO3.out HWO.out (by rw [HNn.out]; simp; omega) HBS.out ?_; intro v4 w4 ho4 hk4 hz4; have HO4 := Lib.hid ho4; have HW4 := Lib.hid (hk4 _ _ (Nat.le_succ _) HW3.out); have Q4 := Lib.hid (((hk4 _ _ (Nat.le_refl _) (Below.refl _ _)).block w.heap.size (by omega)).trans (Q3.out.trans Q2.out)); clear ho4 hk4 hz4))
          go_roundw
          case rel => exact ⟨k + 1, by omega, by go_num, by rw [HS2.out]; exact HO4.out, Q4.out, HW4.out⟩
          case measure => simp [intOf]; omega)
    · obtain rfl : k = 24 := by omega
      have HO := Lib.hid ho; have HW := Lib.hid hw
      clear ho hw hlt hn hml q0 HTK HNE
      go_wp2_with fail
      go_returns
      exact ⟨_, rfl, HO.out.mono (Nat.le_succ _), HW.out⟩
end Go.Proofs.YtpnmapfabjdfjaaDoor

/-
  The specification's common (layer 5).
-/
namespace Go.Proofs.YtpnmapfabjdfjaaDoor
open Go.RowKit Go.Sort
theorem meS_self (x : Snd) : meS x x = x := by unfold meS; simp
theorem cmS_cons (x : Snd) (l : List Snd) : cmS (x :: l) = l.foldl meS x := by
  show (x :: l).foldl meS x = _
  rw [List.foldl_cons, meS_self]
theorem rmeet_gv (a b : Snd) (h1 : vld a.1 a.2 = true) (h2 : vld b.1 b.2 = true) (w : World) : Gives 81 #[.agg #[.int .u32 (a.1.toNat : Int), .int .u32 (a.2.toNat : Int)], .agg #[.int .u32 (b.1.toNat : Int), .int .u32 (b.2.toNat : Int)]] w (.agg #[.int .u32 ((meS a b).1.toNat : Int), .int .u32 ((meS a b).2.toNat : Int)]) := rmeet_ok _ _ _ _ h1 h2 w
set_option maxRecDepth 100000 in
set_option maxHeartbeats 4000000 in
theorem rcommon_any (l : List Snd) (v : Value) (w : World) (h : Wd w v l) (hn : l ≠ []) (hv : ∀ s ∈ l, vld s.1 s.2 = true) : Gives 53 #[v] w (.agg #[.int .u32 ((cmS l).1.toNat : Int), .int .u32 ((cmS l).2.toNat : Int)]) := by
  unfold Gives
  obtain ⟨ao, cap, rfl, c1, m1, hc⟩ := h.open
  obtain ⟨N, hN⟩ : ∃ N, l.length = N := ⟨_, rfl⟩
  have h0 : 0 < l.length := List.length_pos_iff.2 hn
  have hcm : cmS l = l.foldl meS l[0] := by
    cases l with
    | nil => exact absurd rfl hn
    | cons x l => rfl
  have hv0 := hv _ (List.getElem_mem h0)
  have ht1 : (l.take 1).foldl meS l[0] = l[0] := by
    cases l with
    | nil => exact absurd rfl hn
    | cons x l => simp [meS_self]
  obtain ⟨b, off, hao, lb, d0, d1⟩ := hc 0 h0
  subst hao
  rw [Nat.zero_mul, Nat.add_zero] at d0 d1
  obtain ⟨x0, hx0⟩ : ∃ x0, l[0] = x0 := ⟨_, rfl⟩
  rw [hx0] at d0 d1 hcm hv0 ht1
  have HT1 := Lib.hid ht1
  have HC := Lib.hid hc; have HN := Lib.hid hN; have HV := Lib.hid hv; have HCM := Lib.hid hcm; have HV0 := Lib.hid hv0
  have l1 : N ≤ 9223372036854775807 := by unfold maxLen at m1; omega
  have n0 : 0 < N := by omega
  rw [hN] at c1 ⊢
  generalize hR : cmS l = R at *
  have hb1 := (Below.refl w.heap.size w).alloc (Nat.le_refl _) (.cells #[.int .u32 0, .int .u32 0] 27)
  have d0 := (hb1.cell (p := ⟨b, _, none⟩) lb).trans d0
  have d1 := (hb1.cell (p := ⟨b, _, none⟩) lb).trans d1
  have hb2 := hb1.alloc hb1.size (.cells #[.int .u32 (x0.1.toNat : Int), .int .u32 (x0.2.toNat : Int)] 27)
  have k1 := World.alloc_heap_new w (.cells #[.int .u32 0, .int .u32 0] 27)
  have k2 := World.alloc_heap_new (w.alloc (.cells #[.int .u32 0, .int .u32 0] 27)) (.cells #[.int .u32 (x0.1.toNat : Int), .int .u32 (x0.2.toNat : Int)] 27)
  have k1 := (((Below.refl _ (w.alloc (.cells #[.int .u32 0, .int .u32 0] 27))).alloc (Nat.le_refl _) (.cells #[.int .u32 (x0.1.toNat : Int), .int .u32 (x0.2.toNat : Int)] 27)).block w.heap.size (by rw [World.size_alloc]; omega)).trans k1
  rw [World.size_alloc] at k2
  have K1 := Lib.hid k1; have K2 := Lib.hid k2; have HB2 := Lib.hid hb2
  clear ht1 hc hN m1 h hn hv hcm hv0 hx0 k1 k2 hb1 hb2 h0 hR
  obtain ⟨p0, m0⟩ := x0
  simp only at d0 d1
  go_enter Tryd.func53, Tryd.ntmps53
  go_wp2_with fail
  go_loopw [4] (fun i wr => ∃ k : Nat, 1 ≤ k ∧ k ≤ N ∧ i = .int .i64 (k : Int) ∧ wr.heap[w.heap.size + 1]? = some (.cells #[.int .u32 (((l.take k).foldl meS (p0, m0)).1.toNat : Int), .int .u32 (((l.take k).foldl meS (p0, m0)).2.toNat : Int)] 27 (0, 0)) ∧ wr.heap[w.heap.size]? = some (.cells #[.int .u32 0, .int .u32 0] 27 (0, 0)) ∧ Below w.heap.size w wr) (fun i _ => N - (intOf i).toNat)
  case atStart => exact ⟨1, Nat.le_refl _, by omega, rfl, by rw [HT1.out]; exact K2.out, K1.out, HB2.out⟩
  case round =>
    obtain ⟨k, h1k, hk, rfl, q2, q1, hw⟩ := hrel
    have hfv := fold_vld (l.take k) (p0, m0) HV0.out
    have hcl : k + 1 ≤ l.length → (l.take (k + 1)).foldl meS (p0, m0) = meS ((l.take k).foldl meS (p0, m0)) (l.getD k (0#32, 0#32)) := fun h => by
      rw [List.take_succ_eq_append_getElem h, List.foldl_append]
      simp [List.getD, List.getElem?_eq_getElem h]
    have hend : k = N → (l.take k).foldl meS (p0, m0) = R := fun e => by rw [HCM.out, e, ← HN.out, List.take_length]
    generalize (l.take k).foldl meS (p0, m0) = A at *
    obtain ⟨ap, am⟩ := A
    have z2 := (Array.getElem?_eq_some_iff.1 q2).1
    have e20 := cell_block q2 (o := 0) rfl
    have e21 := cell_block q2 (o := 1) rfl
    have e10 := cell_block q1 (o := 0) rfl
    have f20 := frozen_block (o := 0) q2
    have f21 := frozen_block (o := 1) q2
    have f10 := frozen_block (o := 0) q1
    have f11 := frozen_block (o := 1) q1
    have e11 := cell_block q1 (o := 1) rfl
    by_cases hlt : k < N
    · have hkl : k < l.length := by rw [HN.out]; exact hlt
      have hcl := hcl hkl
      have hgd : l.getD k (0#32, 0#32) = l[k] := by simp [List.getD, List.getElem?_eq_getElem hkl]
      rw [hgd] at hcl
      obtain ⟨b', off', hao, lb', g0, g1⟩ := HC.out k hkl
      cases hao
      have g0 := (hw.cell (p := ⟨b, _, none⟩) lb).trans g0
      have g1 := (hw.cell (p := ⟨b, _, none⟩) lb).trans g1
      have hme := rmeet_gv (ap, am) l[k] hfv (HV.out _ (List.getElem_mem hkl))
      have HCL := Lib.hid hcl
      clear hcl hgd hend HC hfv e10 e11 f10 f11
      generalize l[k] = x at *
      obtain ⟨p, m⟩ := x
      simp only at g0 g1 hme e20 e21
      have HW8 := Lib.hid hw.drew; have HME := Lib.hid hme; have Q1 := Lib.hid q1; have Q2 := Lib.hid q2
      clear hw q1 q2 f20 f21
      go_wp2_with fail
      go_region_with (go_at_call 81; (with_reducible refine Gives.then (HME.out _) ?_); intro w2 hb2; have HW2 := Lib.hid (HW8.out.trans (hb2.mono HW8.out.size)); have R1 := Lib.hid ((hb2.block w.heap.size (by show w.heap.size < wr.heap.size; omega)).trans Q1.out); have r2 := (hb2.block (w.heap.size + 1) z2).trans Q2.out; have R2 := Lib.hid r2; have y0 := cell_block r2 (o := 0) rfl; have y1 := cell_block r2 (o := 1) rfl; have y2 := frozen_block (o := 0) r2; have y3 := frozen_block (o := 1) r2; clear hb2 r2)
      all_goals go_wp2_with fail
      all_goals (
        go_roundw
        case rel => exact ⟨k + 1, by omega, by omega, by go_num, by rw [HCL.out]; exact two_set R2.out, ((((Below.refl (w.heap.size + 1) w2).setCell (p := ⟨w.heap.size + 1, 0, none⟩) (Nat.le_refl _) _).setCell (p := ⟨w.heap.size + 1, 1, none⟩) (Nat.le_refl _) _).block w.heap.size (by omega)).trans R1.out, (HW2.out.setCell (p := ⟨w.heap.size + 1, 0, none⟩) (Nat.le_succ _) _).setCell (p := ⟨w.heap.size + 1, 1, none⟩) (Nat.le_succ _) _⟩
        case measure => simp [intOf]; omega)
    · obtain rfl : k = N := by omega
      have he := hend rfl
      subst he
      have HW := Lib.hid hw
      have j0 : (wr.setCell ⟨w.heap.size, 0, none⟩ (.int .u32 (ap.toNat : Int))).cell? ⟨w.heap.size, 0, none⟩ = some (.int .u32 (ap.toNat : Int)) := cell_block (block_set q1) rfl
      have j1 : ((wr.setCell ⟨w.heap.size, 0, none⟩ (.int .u32 (ap.toNat : Int))).setCell ⟨w.heap.size, 1, none⟩ (.int .u32 (am.toNat : Int))).cell? ⟨w.heap.size, 1, none⟩ = some (.int .u32 (am.toNat : Int)) := cell_block (two_set q1) rfl
      clear hw hlt hend hcl hfv q1 q2
      simp only at e20 e21
      go_wp2_with fail
      refine bodyPost_ret (v := .agg #[.int .u32 (ap.toNat : Int), .int .u32 (am.toNat : Int)]) (by simp [results, Tryd.results53, go_sem, j0, j1]) rfl ?_
      exact ⟨rfl, (HW.out.setCell (p := ⟨w.heap.size, 0, none⟩) (Nat.le_refl _) _).setCell (p := ⟨w.heap.size, 1, none⟩) (Nat.le_refl _) _⟩
end Go.Proofs.YtpnmapfabjdfjaaDoor

/-
  The specification's Closure (layer 5).
-/
namespace Go.Proofs.YtpnmapfabjdfjaaDoor
open Go.RowKit Go.Sort
set_option maxRecDepth 100000 in
set_option maxHeartbeats 8000000 in
theorem rclosure_any (l s : List Snd) (v u : Value) (w : World) (h : Wd w v l) (hu : Wd w u s) : Calls Tryd.prog 16 #[v, u] w fun e w' => ∃ m, e = .returned (.tuple #[.agg #[.int .u32 ((cloC l s).1.toNat : Int), .int .u32 ((cloC l s).2.toNat : Int)], m, .int .i64 (cloE l s)]) ∧ OwnI w' w.heap.size m (cloM l s) ∧ Below w.heap.size w w' := by
  have hb0 := (Below.refl w.heap.size w).alloc (Nat.le_refl _) (.cells #[.int .u32 0, .int .u32 0] 27)
  have hck := rcheck_any l v 256 _ (by decide) (h.below hb0)
  rw [show ((256 : Nat) : Int) = 256 from rfl] at hck
  have hhas := fun (x : Snd) (W : World) (hb : Below w.heap.size w W) => rhas_any l x v W (h.below hb)
  have hcm := fun (hn : s ≠ []) (hv : ∀ x ∈ s, vld x.1 x.2 = true) (W : World) (hb : Below w.heap.size w W) => rcommon_any s u W (hu.below hb) hn hv
  have hmem := fun (h1 : ckE l 256 = 0) (h2 : vld (cmS s).1 (cmS s).2 = true) (W : World) (hb : Below w.heap.size w W) => rmembers_any l (cmS s) v W (h.below hb) (ckE_vld h1) h2 (Nat.le_trans (ckE_len h1) (by decide))
  have hvl := fun (h1 : ckE l 256 = 0) => ckE_vld h1
  have k0 := World.alloc_heap_new w (.cells #[.int .u32 0, .int .u32 0] 27)
  obtain ⟨ao, cap, rfl, -, -, -⟩ := h.open
  obtain ⟨ao2, cap2, rfl, sc1, sm1, hsc⟩ := hu.open
  obtain ⟨M, hM⟩ : ∃ M, s.length = M := ⟨_, rfl⟩
  have lw : w.heap.size < (w.alloc (.cells #[.int .u32 0, .int .u32 0] 27)).heap.size := by rw [World.size_alloc]; omega
  have hE : cloE l s = if ckE l 256 ≠ 0 then ckE l 256 else if s = [] ∨ ¬ ∀ x ∈ s, x ∈ l then 5 else 0 := rfl
  have hC : cloC l s = if cloE l s = 0 then cmS s else (0#32, 0#32) := rfl
  have hMM : cloM l s = if cloE l s = 0 then msL (cmS s) l 0 else [] := rfl
  rw [hM] at hcm sc1 ⊢
  have l1 : M ≤ 9223372036854775807 := by unfold maxLen at sm1; omega
  have HCK := Lib.hid hck; have HHAS := Lib.hid hhas; have HCM := Lib.hid hcm; have HMEM := Lib.hid hmem; have HVL := Lib.hid hvl; have HB0 := Lib.hid hb0; have K0 := Lib.hid k0; have HSC := Lib.hid hsc; have HSM := Lib.hid hM
  clear hck hhas hcm hmem hvl hb0 k0 h hu hsc sm1
  generalize hEE : cloE l s = E at *
  generalize hCC : cloC l s = C at *
  generalize hMe : cloM l s = ML at *
  clear hEE hCC hMe
  by_cases h0 : ckE l 256 = 0
  · rw [h0] at HCK hE
    rw [if_neg (by decide)] at hE
    have hbad : (s = [] ∨ ¬ ∀ x ∈ s, x ∈ l) → E = 5 ∧ C = (0#32, 0#32) ∧ ML = [] := fun hb => by
      rw [if_pos hb] at hE
      rw [hE, if_neg (by decide)] at hC hMM
      exact ⟨hE, hC, hMM⟩
    have hgood : s ≠ [] → (∀ x ∈ s, x ∈ l) → E = 0 ∧ C = cmS s ∧ ML = msL (cmS s) l 0 := fun h1 h2 => by
      rw [if_neg (by rintro (h | h); exact h1 h; exact h h2)] at hE
      rw [hE, if_pos rfl] at hC hMM
      exact ⟨hE, hC, hMM⟩
    have HBAD := Lib.hid hbad; have HGOOD := Lib.hid hgood; have H0 := Lib.hid h0
    clear hbad hgood hE hC hMM hM h0
    go_enter Tryd.func16, Tryd.ntmps16
    go_wp2_with fail
    go_at_call 51
    refine Gives.then HCK.out ?_
    intro w1 hb1
    have R1 := Lib.hid ((hb1.block _ lw).trans K0.out)
    have lw1 := Nat.lt_of_lt_of_le lw hb1.size
    have HW1 := Lib.hid (HB0.out.trans (hb1.mono HB0.out.size))
    clear hb1 lw K0 HB0 HCK
    go_wp2_with fail
    go_loopw [8] (fun i wr => ∃ k : Nat, k ≤ M ∧ i = .int .i64 (k : Int) ∧ (∀ j (hj : j < s.length), j < k → s[j] ∈ l) ∧ wr.heap[w.heap.size]? = some (.cells #[.int .u32 0, .int .u32 0] 27 (0, 0)) ∧ Below w.heap.size w wr) (fun i _ => M - (intOf i).toNat)
    case atStart => exact ⟨0, by omega, rfl, fun j _ hj => by omega, R1.out, HW1.out⟩
    case round =>
      clear R1 lw1 HW1
      obtain ⟨k, hk, rfl, hall, q0, hw⟩ := hrel
      have HALL := Lib.hid hall; have z0 := (Array.getElem?_eq_some_iff.1 q0).1
      clear hall
      by_cases hlt : k < M
      · have hkl : k < s.length := by rw [HSM.out]; exact hlt
        obtain ⟨b, off, hao, lb, d0, d1⟩ := HSC.out k hkl
        subst hao
        have d0 := (hw.cell (p := ⟨b, _, none⟩) lb).trans d0
        have d1 := (hw.cell (p := ⟨b, _, none⟩) lb).trans d1
        have hmore : s[k] ∈ l → ∀ j (hj : j < s.length), j < k + 1 → s[j] ∈ l := fun h j hj hjk => by
          by_cases e : j = k
          · subst e; exact h
          · exact HALL.out j hj (by omega)
        have hno : s[k] ∉ l → E = 5 ∧ C = (0#32, 0#32) ∧ ML = [] := fun h => HBAD.out (.inr (fun hx => h (hx _ (List.getElem_mem hkl))))
        have hhs := HHAS.out s[k] wr hw
        have HM := Lib.hid hmore; have HNO := Lib.hid hno; have HS := Lib.hid hhs; have Q0 := Lib.hid q0; have HW := Lib.hid hw
        clear hmore hno hhs q0 hw HSC HBAD HGOOD HCM HMEM HVL HHAS
        generalize s[k] = x at *
        obtain ⟨p, m⟩ := x
        simp only at d0 d1 HS
        by_cases hx : (p, m) ∈ l
        · have HM2 := Lib.hid (HM.out hx)
          have hs2 := HS.out
          rw [decide_eq_true hx] at hs2
          have HS2 := Lib.hid hs2
          clear hs2 HS HM HNO hx
          go_wp2_with (go_at_call 52; (with_reducible refine Gives.then HS2.out ?_); intro w2 hb2; have HW2 := Lib.hid (HW.out.trans (hb2.mono HW.out.size)); have Q2 := Lib.hid ((hb2.block _ z0).trans Q0.out); clear hb2)
          go_roundw
          case rel => exact ⟨k + 1, by omega, by go_num, HM2.out, Q2.out, HW2.out⟩
          case measure => simp [intOf]; omega
        · obtain ⟨hE, hC, hMM⟩ := HNO.out hx
          have hs2 := HS.out
          rw [decide_eq_false hx] at hs2
          have HS2 := Lib.hid hs2
          subst hE
          subst hC
          subst hMM
          clear hs2 HS HM HNO hx
          go_wp2_with (go_at_call 52; (with_reducible refine Gives.then HS2.out ?_); intro w3 hb3; have r3 := (hb3.block _ z0).trans Q0.out; have f0 := frozen_block (o := 0) r3; have f1 := frozen_block (o := 1) r3; have j0 : (w3.setCell ⟨w.heap.size, 0, none⟩ (.int .u32 0)).cell? ⟨w.heap.size, 0, none⟩ = some (.int .u32 0) := cell_block (block_set r3) rfl; have j1 : ((w3.setCell ⟨w.heap.size, 0, none⟩ (.int .u32 0)).setCell ⟨w.heap.size, 1, none⟩ (.int .u32 0)).cell? ⟨w.heap.size, 1, none⟩ = some (.int .u32 0) := cell_block (two_set r3) rfl; have c0 := cell_block r3 (o := 0) rfl; have c1 := cell_block r3 (o := 1) rfl; have HW3 := Lib.hid (((HW.out.trans (hb3.mono HW.out.size)).setCell (p := ⟨w.heap.size, 0, none⟩) (Nat.le_refl _) (.int .u32 0)).setCell (p := ⟨w.heap.size, 1, none⟩) (Nat.le_refl _) (.int .u32 0)); clear hb3 r3)
          refine bodyPost_ret (v := .tuple #[.agg #[.int .u32 0, .int .u32 0], .slice none 0 0, .int .i64 5]) (by simp [results, Tryd.results16, go_sem, j0, j1]) rfl ?_
          exact ⟨_, rfl, OwnI.nil _ _, HW3.out⟩
      · obtain rfl : k = M := by omega
        by_cases hs0 : s = []
        · obtain ⟨hE, hC, hMM⟩ := HBAD.out (.inl hs0)
          subst hE
          subst hC
          subst hMM
          have hk0 : k = 0 := by rw [← HSM.out, hs0]; rfl
          subst hk0
          have f0 := frozen_block (o := 0) q0
          have f1 := frozen_block (o := 1) q0
          have c0 := cell_block q0 (o := 0) rfl
          have c1 := cell_block q0 (o := 1) rfl
          have j0 : (wr.setCell ⟨w.heap.size, 0, none⟩ (.int .u32 0)).cell? ⟨w.heap.size, 0, none⟩ = some (.int .u32 0) := cell_block (block_set q0) rfl
          have j1 : ((wr.setCell ⟨w.heap.size, 0, none⟩ (.int .u32 0)).setCell ⟨w.heap.size, 1, none⟩ (.int .u32 0)).cell? ⟨w.heap.size, 1, none⟩ = some (.int .u32 0) := cell_block (two_set q0) rfl
          have HW3 := Lib.hid ((hw.setCell (p := ⟨w.heap.size, 0, none⟩) (Nat.le_refl _) (.int .u32 0)).setCell (p := ⟨w.heap.size, 1, none⟩) (Nat.le_refl _) (.int .u32 0))
          clear q0 hw HSC HBAD HGOOD HCM HMEM HVL HHAS hs0
          go_wp2_with fail
          refine bodyPost_ret (v := .tuple #[.agg #[.int .u32 0, .int .u32 0], .slice none 0 0, .int .i64 5]) (by simp [results, Tryd.results16, go_sem, j0, j1]) rfl ?_
          exact ⟨_, rfl, OwnI.nil _ _, HW3.out⟩
        · have hal : ∀ x ∈ s, x ∈ l := fun x hx => by
            obtain ⟨j, hj, rfl⟩ := List.getElem_of_mem hx
            exact HALL.out j hj (by rw [← HSM.out]; exact hj)
          obtain ⟨hE, hC, hMM⟩ := HGOOD.out hs0 hal
          have hk0 : ¬ k = 0 := by rw [← HSM.out]; exact fun e => hs0 (List.eq_nil_of_length_eq_zero e)
          have n1 : ((k : Int) == 0) = false := by simpa using hk0
          have n2 : (k == 0) = false := by simpa using hk0
          have hvs : ∀ x ∈ s, vld x.1 x.2 = true := fun x hx => HVL.out H0.out x (hal x hx)
          have HCM2 := Lib.hid (HCM.out hs0 hvs)
          have HMEM2 := Lib.hid (HMEM.out H0.out (cmS_vld hvs))
          subst hE
          subst hC
          subst hMM
          have R3 := Lib.hid q0; have HW3 := Lib.hid hw; have lw3 := z0
          clear HCM HMEM HVL hvs hal hs0 HSC HBAD HGOOD HHAS q0 hw z0 HALL hlt hk0 HSM
          obtain ⟨⟨p, m⟩, hcc⟩ : ∃ x, cmS s = x := ⟨_, rfl⟩
          have HCC := Lib.hid hcc
          have hcm3 := HCM2.out; have hmem3 := HMEM2.out
          rw [hcc] at hcm3 hmem3
          clear hcc HCM2 HMEM2
          have HCM2 := Lib.hid hcm3; have HMEM2 := Lib.hid hmem3
          clear hcm3 hmem3
          go_wp2_with fail
          go_at_call 53
          refine Gives.then (HCM2.out _ HW3.out) ?_
          intro w4 hb4
          have r4 := (hb4.block _ lw3).trans R3.out
          have lw4 := Nat.lt_of_lt_of_le lw3 hb4.size
          have hw4 := HW3.out.trans (hb4.mono HW3.out.size)
          have ht : Duo w.heap.size w4.heap.size p m (.int .u32 0) (.int .u32 0) w (w4.alloc (.cells #[.int .u32 (p.toNat : Int), .int .u32 (m.toNat : Int)] 27)) := ⟨hw4.alloc hw4.size _, lw4, World.alloc_heap_new w4 _, (((Below.refl _ w4).alloc (Nat.le_refl _) (.cells #[.int .u32 (p.toNat : Int), .int .u32 (m.toNat : Int)] 27)).block _ lw4).trans r4⟩
          have HT := Lib.hid ht
          clear hb4 r4 hw4 ht lw3 R3
          go_wp2_with fail
          generalize (w4.alloc (.cells #[.int .u32 (p.toNat : Int), .int .u32 (m.toNat : Int)] 27)) = w5 at *
          generalize w4.heap.size = k5 at *
          have hT0 : Duo w.heap.size k5 p m (.int .u32 0) (.int .u32 0) w w5.drew := HT.out.below (Below.drew (Below.refl w5.heap.size w5))
          have HMEM3 : Hid (∀ (x y : Value) (W : World), Duo w.heap.size k5 p m x y w W → Calls Tryd.prog 54 #[.slice ao l.length cap, .agg #[.int .u32 (p.toNat : Int), .int .u32 (m.toNat : Int)]] W fun e w' => ∃ ma mc, e = .returned (.slice ma (msL (p, m) l 0).length mc) ∧ OwnI w' W.heap.size (.slice ma (msL (p, m) l 0).length mc) (msL (p, m) l 0) ∧ Duo w.heap.size k5 p m x y w w' ∧ w.heap.size < W.heap.size) := Lib.hid (fun x y W hW => (HMEM2.out W hW.1).mono (by
            rintro e w' ⟨v', rfl, ho, hb⟩
            obtain ⟨ma, mc, rfl⟩ := ho.slice
            obtain ⟨_, _, _, h2⟩ := id hW
            exact ⟨ma, mc, rfl, ho, hW.below hb, (Array.getElem?_eq_some_iff.1 h2).1⟩))
          clear HMEM2 HT HCM2 HW3
          generalize (msL (p, m) l 0).length = mn at *
          obtain ⟨q0, q1, q2, q3⟩ := hT0.stores
          go_region_held3 (fun W => W.cell? ⟨k5, 0, none⟩ = some (.int .u32 (p.toNat : Int)) ∧ W.cell? ⟨k5, 1, none⟩ = some (.int .u32 (m.toNat : Int)))
            (first | exact (hT1.set (Nat.le_refl _) _ _).loads | exact (hT0.set (Nat.le_refl _) _ _).loads | exact hT1.loads | exact hT0.loads)
            (first
              | (go_at_call 54; (with_reducible refine (HMEM3.out _ _ _ hT0).mono ?_); rintro e w6 ⟨ma, mc, rfl, ho6, hT1, hlt6⟩; obtain ⟨q0, q1, q2, q3⟩ := hT1.stores)
              | (go_at_call 54; (with_reducible refine (HMEM3.out _ _ _ (hT0.set (Nat.le_refl _) _ _)).mono ?_); rintro e w6 ⟨ma, mc, rfl, ho6, hT1, hlt6⟩; obtain ⟨q0, q1, q2, q3⟩ := hT1.stores))
          have hq := hT1.2.2.2
          have j0 : (w6.setCell ⟨w.heap.size, 0, none⟩ (.int .u32 (p.toNat : Int))).cell? ⟨w.heap.size, 0, none⟩ = some (.int .u32 (p.toNat : Int)) := cell_block (block_set hq) rfl
          have j1 : ((w6.setCell ⟨w.heap.size, 0, none⟩ (.int .u32 (p.toNat : Int))).setCell ⟨w.heap.size, 1, none⟩ (.int .u32 (m.toNat : Int))).cell? ⟨w.heap.size, 1, none⟩ = some (.int .u32 (m.toNat : Int)) := cell_block (two_set hq) rfl
          have HTS := Lib.hid (hT1.set (Nat.le_refl _) (.int .u32 (p.toNat : Int)) (.int .u32 (m.toNat : Int))).1
          have HRS := Lib.hid ((row_set ho6 hlt6 (.int .u32 (p.toNat : Int)) (.int .u32 (m.toNat : Int))).mono (Nat.le_of_lt hlt6))
          clear hq hT1 ho6 hlt6 q0 q1 q2 q3 HMEM3 hT0
          go_wp2_with fail
          refine bodyPost_ret (v := .tuple #[.agg #[.int .u32 (p.toNat : Int), .int .u32 (m.toNat : Int)], .slice ma mn mc, .int .i64 0]) (by simp [results, Tryd.results16, go_sem, j0, j1]) rfl ?_
          exact ⟨.slice ma mn mc, by rw [HCC.out], by rw [HCC.out]; exact HRS.out, HTS.out⟩
  · rw [if_pos h0] at hE
    generalize hE0 : ckE l 256 = E0 at *
    subst hE
    rw [if_neg h0] at hC hMM
    subst hC hMM
    have g1 : (E == 0) = false := by simpa using h0
    clear HHAS HCM HMEM HVL HSC
    go_enter Tryd.func16, Tryd.ntmps16
    go_wp2_with fail
    go_at_call 51
    refine Gives.then HCK.out ?_
    intro w1 hb1
    have r1 := (hb1.block _ lw).trans K0.out
    have f0 := frozen_block (o := 0) r1
    have f1 := frozen_block (o := 1) r1
    have q0 := cell_block r1 (o := 0) rfl
    have q1 := cell_block r1 (o := 1) rfl
    have j0 : (w1.setCell ⟨w.heap.size, 0, none⟩ (.int .u32 0)).cell? ⟨w.heap.size, 0, none⟩ = some (.int .u32 0) := cell_block (block_set r1) rfl
    have j1 : ((w1.setCell ⟨w.heap.size, 0, none⟩ (.int .u32 0)).setCell ⟨w.heap.size, 1, none⟩ (.int .u32 0)).cell? ⟨w.heap.size, 1, none⟩ = some (.int .u32 0) := cell_block (two_set r1) rfl
    have HW1 := Lib.hid (((HB0.out.trans (hb1.mono HB0.out.size)).setCell (p := ⟨w.heap.size, 0, none⟩) (Nat.le_refl _) (.int .u32 0)).setCell (p := ⟨w.heap.size, 1, none⟩) (Nat.le_refl _) (.int .u32 0))
    clear hb1 r1
    go_wp2_with fail
    refine bodyPost_ret (v := .tuple #[.agg #[.int .u32 0, .int .u32 0], .slice none 0 0, .int .i64 E]) (by simp [results, Tryd.results16, go_sem, j0, j1]) rfl ?_
    exact ⟨_, rfl, OwnI.nil _ _, HW1.out⟩
end Go.Proofs.YtpnmapfabjdfjaaDoor
