/-
  WordSorted, walked.
-/
import Derived.Test.YtfjngkdpembdcaaHx
import Derived.Test.YtfjngkdpembdcaaYs
namespace Go.Proofs.Ytfjngkdpembdcaa
open Go.RowKit Go.Sort
set_option maxRecDepth 100000 in
set_option maxHeartbeats 16000000 in
theorem sorted_any (l : List (Value × List Snd)) (t : Nat) (ht : t ≤ 255) (v : Value) (w0 : World) (h : Ws w0 v l) : Gives 4 #[v, .int .u8 (t : Int)] w0 (.bool true) := by
  unfold Gives
  have DL := Lib.hid h
  obtain ⟨ao, cap, rfl, c1, m1, H1⟩ := h.open
  have lb1 := maxLen_lt (Nat.le_trans c1 m1)
  clear h c1 m1
  have H1 := Lib.hid H1
  obtain ⟨n, hn⟩ : ∃ n, l.length = n := ⟨_, rfl⟩
  have HN := Lib.hid hn
  have DL : Hid (Ws w0 (.slice ao n cap) l) := Lib.hid (by rw [← hn]; exact DL.out)
  rw [hn] at lb1 ⊢
  clear hn
  by_cases h3 : n ≤ 256
  · go_enter Try.func4, Try.ntmps4
    go_wp2_with fail
    go_loopw [5] (fun i wr => ∃ k : Nat, k ≤ n ∧ i = .int .i64 (k : Int) ∧ (∀ j (h : j < l.length), j < k → chk l[j].2 = 0) ∧ Below w0.heap.size w0 wr ∧ w0.heap.size ≤ wr.heap.size) (fun i _ => n - (intOf i).toNat)
    case atStart => exact ⟨0, by omega, rfl, fun j _ h => by omega, by go_grown, by go_size⟩
    case round =>
      obtain ⟨k, hk, rfl, hp, hw, hsz⟩ := hrel
      have HP := Lib.hid hp
      clear hp
      by_cases hlt : k < n
      · have hlt' : k < l.length := by rw [HN.out]; exact hlt
        obtain ⟨b, off, rfl, lb, d0, dw⟩ := H1.out k hlt'
        have d0 := (hw.cell (p := ⟨b, off + k, none⟩) lb).trans d0
        have dw := dw.below hw
        have HC := Lib.hid (check_any l[k].2 l[k].1 wr dw)
        have hst : chk l[k].2 = 0 → ∀ j (h : j < l.length), j < k + 1 → chk l[j].2 = 0 := fun h j hj hjk => by
          by_cases e : j = k
          · subst e; exact h
          · exact HP.out j hj (by omega)
        have HST := Lib.hid hst
        clear hst
        generalize l[k].1 = x at *
        generalize l[k].2 = xs at *
        obtain ⟨xo, xc, rfl, q1, q2, -⟩ := dw.open
        have hx1 := maxLen_lt (Nat.le_trans q1 q2)
        generalize chk xs = c at *
        clear dw q1 q2 hlt' H1 HP DL
        by_cases h100 : xs.length ≤ 100
        · by_cases hc : c = 0
          · subst hc
            have HST2 := Lib.hid (HST.out rfl)
            clear HST
            go_wp2_with (go_at_call 11; with_reducible refine Gives.then HC.out ?_; intro w1 hb)
            have hw2 := hw.trans (hb.mono hsz)
            go_roundw
            case rel => exact ⟨k + 1, by omega, by go_num, HST2.out, hw2, hw2.size⟩
            case measure => simp [intOf]; omega
          · have hb1 : (c == 0) = false := by simpa using hc
            have hb2 : (c != 0) = true := by simpa using hc
            clear hc
            go_wp2_with (first | (go_at_call 11; with_reducible refine Gives.then HC.out ?_; intro w1 hb; have hw := hw.trans (hb.mono hsz); clear hb) | (go_at_call 6; with_reducible refine Gives.then (works_any _) ?_; intro w1 hb; have hw := hw.trans (hb.mono hw.size); clear hb))
            go_returns
            exact ⟨rfl, hw⟩
        · go_wp2_with (go_at_call 6; with_reducible refine Gives.then (works_any _) ?_; intro w1 hb; have hw := hw.trans (hb.mono hw.size); clear hb)
          go_returns
          exact ⟨rfl, hw⟩
      · obtain rfl : k = n := by omega
        clear hlt hk H1
        have hall : ∀ x ∈ l, chk x.2 = 0 := fun x hx => by
          obtain ⟨i, hi, rfl⟩ := List.mem_iff_getElem.1 hx
          exact HP.out i hi (by rw [← HN.out]; exact hi)
        have HALL := Lib.hid hall
        have h256 : l.length ≤ 256 := by rw [HN.out]; exact h3
        have H256 := Lib.hid h256
        have hdl := DL.out.below hw
        have hs := sort_all l _ _ hdl
        rw [sE_ok h256 hall, sS_ok h256 hall] at hs
        have HS := Lib.hid hs; have HDL := Lib.hid hdl
        have HW0 := Lib.hid hw
        clear hs hdl hall h256 HP DL hw
        go_wp2_with fail
        go_at_call 8
        refine HS.out.mono ?_
        rintro e w1 ⟨v1, l1, rfl, s1, e1, -, hb1⟩
        have hr := srt_ok H256.out HALL.out e1
        have hs := sort_all l1 v1 w1 s1
        rw [hr.1, hr.2] at hs
        obtain ⟨a1, k1, rfl, p1, p2, -⟩ := s1.open
        have hk1 := maxLen_lt (Nat.le_trans p1 p2)
        have HS2 := Lib.hid hs
        have HE1 := Lib.hid e1
        have HS1 := Lib.hid s1
        have HB1 := Lib.hid hb1
        clear hr hs e1 s1 hb1 HS p1 p2
        go_wp2_with fail
        go_at_call 8
        refine HS2.out.mono ?_
        rintro e wS ⟨v2, l2, rfl, s2, e2, -, hb2⟩
        have hlen : l2.length = l1.length := by
          have := congrArg List.length (e2.trans HE1.out.symm)
          rwa [List.length_map, List.length_map] at this
        obtain ⟨a2, k2, rfl, -, -, -⟩ := s2.open
        have s1 := HS1.out.below hb2
        have hdl := (HDL.out.below HB1.out).below hb2
        have hw := HW0.out.trans ((HB1.out.trans (hb2.mono HB1.out.size)).mono HW0.out.size)
        obtain ⟨m, hm⟩ : ∃ m, l1.length = m := ⟨_, rfl⟩
        rw [hlen] at s2 ⊢
        rw [hm] at s1 s2 hk1 ⊢
        have S1 := Lib.hid s1; have S2 := Lib.hid s2; have E2 := Lib.hid e2; have DLS := Lib.hid hdl; have HW := Lib.hid hw
        have HM := Lib.hid hm; have HM2 := Lib.hid (hlen.trans hm)
        have hszS := hw.size
        clear s1 s2 e2 hlen hm hdl hw hb2 HS2 HS1 HB1 HDL HW0
        by_cases hn0 : k = 0
        · subst hn0
          have hm0 : m = 0 := by
            have h1 := congrArg List.length HE1.out
            have h2 := srt_len (l.map (·.2))
            rw [List.length_map, HM.out] at h1
            rw [List.length_map, HN.out] at h2
            omega
          subst hm0
          go_wp2_with fail
          go_loopw [10] (fun i wr => i = .int .i64 0 ∧ wr = wS) (fun _ _ => 0)
          case atStart => exact ⟨rfl, rfl⟩
          case round =>
            obtain ⟨rfl, rfl⟩ := hrel
            go_wp2_with fail
            go_loopw [11] (fun i wr2 => i = .int .i64 0 ∧ wr2 = wr) (fun _ _ => 0)
            case atStart => exact ⟨rfl, rfl⟩
            case round =>
              obtain ⟨rfl, rfl⟩ := hrel
              have hw := HW.out
              go_wp2_with (go_at_call 6; with_reducible refine Gives.then (works_any _) ?_; intro w1 hb; have hw := hw.trans (hb.mono hw.size); clear hb)
              go_returns
              exact ⟨rfl, hw⟩
        · have hm0 : ¬ m = 0 := by
            have h1 := congrArg List.length HE1.out
            have h2 := srt_pos (l := l.map (·.2)) (by rw [List.length_map, HN.out]; omega)
            rw [List.length_map, HM.out] at h1
            omega
          have z1 : ((m : Int) == 0) = false := by rw [Bool.eq_false_iff]; intro e; have := beq_iff_eq.1 e; omega
          have z2 : ((k : Int) == 0) = false := by rw [Bool.eq_false_iff]; intro e; have := beq_iff_eq.1 e; omega
          go_wp2_with fail
          clear z1 z2
          go_loopw [10] (fun i wr => ∃ p : Nat, p ≤ m ∧ i = .int .i64 (p : Int) ∧ Below wS.heap.size wS wr ∧ wS.heap.size ≤ wr.heap.size) (fun i _ => m - (intOf i).toNat)
          case atStart => exact ⟨0, by omega, rfl, Below.refl _ _, Nat.le_refl _⟩
          case round =>
            obtain ⟨p, hp, rfl, hw, hsz⟩ := hrel
            obtain ⟨w, hww⟩ : ∃ w, w = wr := ⟨_, rfl⟩
            subst hww
            have HWB := Lib.hid hw; have HSZ := Lib.hid hsz
            by_cases hlt : p < m
            · have hl1 : p < l1.length := by rw [HM.out]; exact hlt
              have hl2 : p < l2.length := by rw [HM2.out]; exact hlt
              obtain ⟨b1, o1, rfl, lb1, d0, dx⟩ := (S1.out.below hw).get.2.2 p hl1
              obtain ⟨b2, o2, rfl, lb2, e0, dy⟩ := (S2.out.below hw).get.2.2 p hl2
              obtain ⟨hs1, hx1⟩ := maps_get HE1.out hl1
              obtain ⟨hs2, hy1⟩ := maps_get E2.out hl2
              have hin : l1[p].2 ∈ l.map (·.2) := (srt_mem _ _).1 (maps_mem HE1.out hl1)
              have hsame : ∀ W, Below w.heap.size w W → Gives 13 #[l1[p].1, l2[p].1] W (.bool true) := fun W hb => Gives.eq (same_any _ _ _ _ W (dx.below hb) (dy.below hb)) rfl (by rw [decide_eq_true (hx1.trans hy1.symm)])
              have hhas : ∀ W, Below w.heap.size w W → Gives 14 #[.slice ao k cap, l1[p].1] W (.bool true) := fun W hb => Gives.eq (has_any l _ _ _ W ((DLS.out.below hw).below hb) (dx.below hb)) rfl (by rw [decide_eq_true hin])
              have HSAME := Lib.hid hsame; have HHAS := Lib.hid hhas
              clear hsame hhas hin
              by_cases hp0 : 0 < p
              · have hl3 : p - 1 < l1.length := by omega
                obtain ⟨b3, o3, h33, lb3, f0, dz⟩ := (S1.out.below hw).get.2.2 (p - 1) hl3
                cases h33
                obtain ⟨hs3, hz1⟩ := maps_get HE1.out hl3
                have hord : ∀ W, Below w.heap.size w W → Gives 12 #[l1[p - 1].1, l1[p].1] W (.int .i64 (-1)) := fun W hb => Gives.eq (order_any _ _ _ _ W (dz.below hb) (dx.below hb)) rfl (by rw [hz1, hx1, ord_next (srt_inc _) hs3 hs1 hp0])
                have HORD := Lib.hid hord
                have g1 : decide ((0 : Int) < (p : Int)) = true := decide_eq_true (by omega)
                have g2 : decide (0 < p) = true := decide_eq_true hp0
                generalize l1[p].1 = x at *
                generalize l2[p].1 = y at *
                generalize l1[p - 1].1 = z at *
                clear hord hs1 hs2 hs3 hx1 hy1 hz1 dx dy dz hl1 hl2 hl3
                go_wp2_with fail
                refine wp_gen ?_
                intro W1 hW1
                have hw1 : Below w.heap.size w W1 := by rw [hW1]; go_grown
                have hz1 : w.heap.size ≤ W1.heap.size := by rw [hW1]; go_size
                have c0 : W1.cell? ⟨b1, o1 + (p - 1), none⟩ = some (z) := by rw [hW1]; first | assumption | go_cell | (go_simp; done) | exact cell_past (by first | assumption | omega) (by assumption)
                have c1 : W1.cell? ⟨b1, o1 + p, none⟩ = some (x) := by rw [hW1]; first | assumption | go_cell | (go_simp; done) | exact cell_past (by first | assumption | omega) (by assumption)
                have c2 : W1.cell? ⟨b2, o2 + p, none⟩ = some (y) := by rw [hW1]; first | assumption | go_cell | (go_simp; done) | exact cell_past (by first | assumption | omega) (by assumption)
                clear hW1
                have k0 := cell_regrown c0
                have k1 := cell_regrown c1
                have k2 := cell_regrown c2
                refine wp_region_quiet_below (by kernel_rfl) (by kernel_rfl) ?_
                try simp only [List.append]
                repeat (go_big_quiet_step (first | (go_at_call 12; with_reducible exact Calls.regrown_of (HORD.out _ (hw1.trans ((below_regrown _ _ _).mono hw1.size)))) | (go_at_call 13; with_reducible exact Calls.regrown_of (HSAME.out _ (hw1.trans ((below_regrown _ _ _).mono hw1.size)))) | (go_at_call 14; with_reducible exact Calls.regrown_of (HHAS.out _ (hw1.trans ((below_regrown _ _ _).mono hw1.size))))))
                refine wpQuiet_nil ?_
                intro w2 hw2
                have hb : Below W1.heap.size W1 w2 := by obtain ⟨q, rfl⟩ := hw2; exact below_regrown _ _ _
                clear hw2
                clear k0 k1 k2
                have hw := chain hw1 (by omega) hb
                obtain ⟨hc, hf, hz⟩ := bcell hb
                clear hb
                try have r0 : w2.cell? ⟨b1, o1 + (p - 1), none⟩ = some (z) := (hc _ _ (by omega)).trans c0
                try have r1 : w2.cell? ⟨b1, o1 + p, none⟩ = some (x) := (hc _ _ (by omega)).trans c1
                try have r2 : w2.cell? ⟨b2, o2 + p, none⟩ = some (y) := (hc _ _ (by omega)).trans c2
                have hw2 := Lib.hid (HWB.out.trans (hw.mono HSZ.out))
                clear g1 g2
                go_wp2_with fail
                go_roundw
                case rel => exact ⟨p + 1, by omega, by go_num, hw2.out, hw2.out.size⟩
                case measure => simp [intOf]; omega
              · have g1 : decide ((0 : Int) < (p : Int)) = false := decide_eq_false (by omega)
                have g2 : decide (0 < p) = false := decide_eq_false hp0
                generalize l1[p].1 = x at *
                generalize l2[p].1 = y at *
                clear hs1 hs2 hx1 hy1 dx dy hl1 hl2
                go_wp2_with fail
                refine wp_gen ?_
                intro W1 hW1
                have hw1 : Below w.heap.size w W1 := by rw [hW1]; go_grown
                have hz1 : w.heap.size ≤ W1.heap.size := by rw [hW1]; go_size
                have c0 : W1.cell? ⟨b1, o1 + p, none⟩ = some (x) := by rw [hW1]; first | assumption | go_cell | (go_simp; done) | exact cell_past (by first | assumption | omega) (by assumption)
                have c1 : W1.cell? ⟨b2, o2 + p, none⟩ = some (y) := by rw [hW1]; first | assumption | go_cell | (go_simp; done) | exact cell_past (by first | assumption | omega) (by assumption)
                clear hW1
                have k0 := cell_regrown c0
                have k1 := cell_regrown c1
                refine wp_region_quiet_below (by kernel_rfl) (by kernel_rfl) ?_
                try simp only [List.append]
                repeat (go_big_quiet_step (first | (go_at_call 13; with_reducible exact Calls.regrown_of (HSAME.out _ (hw1.trans ((below_regrown _ _ _).mono hw1.size)))) | (go_at_call 14; with_reducible exact Calls.regrown_of (HHAS.out _ (hw1.trans ((below_regrown _ _ _).mono hw1.size))))))
                refine wpQuiet_nil ?_
                intro w2 hw2
                have hb : Below W1.heap.size W1 w2 := by obtain ⟨q, rfl⟩ := hw2; exact below_regrown _ _ _
                clear hw2
                clear k0 k1
                have hw := chain hw1 (by omega) hb
                obtain ⟨hc, hf, hz⟩ := bcell hb
                clear hb
                try have r0 : w2.cell? ⟨b1, o1 + p, none⟩ = some (x) := (hc _ _ (by omega)).trans c0
                try have r1 : w2.cell? ⟨b2, o2 + p, none⟩ = some (y) := (hc _ _ (by omega)).trans c1
                have hw2 := Lib.hid (HWB.out.trans (hw.mono HSZ.out))
                clear g1 g2
                go_wp2_with fail
                go_roundw
                case rel => exact ⟨p + 1, by omega, by go_num, hw2.out, hw2.out.size⟩
                case measure => simp [intOf]; omega
            · obtain rfl : p = m := by omega
              obtain ⟨wl, hwl⟩ : ∃ x, x = w := ⟨_, rfl⟩
              subst hwl
              go_wp2_with fail
              go_loopw [11] (fun i wr => ∃ q : Nat, q ≤ k ∧ i = .int .i64 (q : Int) ∧ Below wS.heap.size wS wr ∧ wS.heap.size ≤ wr.heap.size) (fun i _ => k - (intOf i).toNat)
              case atStart => exact ⟨0, by omega, rfl, hw, hsz⟩
              case round =>
                clear hw hsz HWB HSZ
                obtain ⟨q, hq, rfl, hw, hsz⟩ := hrel
                by_cases hlq : q < k
                · have hl1 : q < l.length := by rw [HN.out]; exact hlq
                  obtain ⟨b1, o1, rfl, lb1, d0, dx⟩ := (DLS.out.below hw).get.2.2 q hl1
                  have hin : l[q].2 ∈ l1.map (·.2) := by rw [HE1.out, srt_mem]; exact List.mem_map.2 ⟨_, List.getElem_mem _, rfl⟩
                  have HHAS := Lib.hid (show Gives 14 #[.slice a1 p k1, l[q].1] wr (.bool true) from Gives.eq (has_any l1 _ _ _ wr (S1.out.below hw) dx) rfl (by rw [decide_eq_true hin]))
                  generalize l[q].1 = x at *
                  clear hin dx hl1
                  go_wp2_with (go_at_call 14; with_reducible refine Gives.then HHAS.out ?_; intro w2 hb)
                  have hw2 := hw.trans (hb.mono hsz)
                  go_roundw
                  case rel => exact ⟨q + 1, by omega, by go_num, hw2, hw2.size⟩
                  case measure => simp [intOf]; omega
                · obtain rfl : q = k := by omega
                  clear hlq hq
                  have hq0 : 0 < q := by omega
                  have hq1 : 0 < l.length := by rw [HN.out]; exact hq0
                  obtain ⟨K, hK⟩ : ∃ K : Nat, (t : Int) % (q : Int) = (K : Int) := ⟨t % q, by simp⟩
                  have hKq : K < q := by have := Int.emod_lt_of_pos (t : Int) (show (0 : Int) < (q : Int) by omega); omega
                  have hg := (DLS.out.below hw).get
                  obtain ⟨b, off, rfl, lb, -, -⟩ := hg.2.2 0 hq1
                  have hqc : q ≤ cap := hg.2.1.1
                  have hcm := maxLen_lt hg.2.1.2
                  have z1 : ¬ (q : Int) = 0 := by omega
                  have z2 : ((q : Int) == 0) = false := by rw [Bool.eq_false_iff]; intro e; exact z1 (beq_iff_eq.1 e)
                  have z3 : K ≤ q := by omega
                  have z4 : ¬ cap = K := by omega
                  have z5 : K ≤ cap := by omega
                  have hb3 := hw.drew.alloc hsz (.cells #[] 24)
                  have HB3 := Lib.hid hb3
                  have HO0 := Lib.hid (OwnV.empty wr.drew)
                  have HVA := Lib.hid ((DLS.out.below hb3).parts z3).1
                  have HLA : Hid (([] : List Value).length + ((l.drop K).map (fun z : Value × List Snd => z.1)).length ≤ 1000000000000) := Lib.hid (by have := H256.out; simp; omega)
                  have HLB : Hid (([] ++ (l.drop K).map (fun z : Value × List Snd => z.1) : List Value).length + ((l.take K).map (fun z : Value × List Snd => z.1)).length ≤ 1000000000000) := Lib.hid (by have := H256.out; simp; omega)
                  have HSZ := Lib.hid hsz
                  have HZ3 := Lib.hid z3
                  have HP : Hid ((srt (l.map (·.2))).length = p) := Lib.hid (by rw [← HE1.out, List.length_map]; exact HM.out)
                  have HSA : Hid (wr.heap.size ≤ (wr.drew.alloc (.cells #[] 24)).heap.size) := Lib.hid (by rw [World.size_alloc]; exact Nat.le_succ _)
                  clear hb3 hw hsz hg hq1 hq0 lb
                  go_wp2_with fail
                  go_region_law (first
                    | (refine step_appV rfl (.tmp 138) (.tmp 141) rfl wr.heap.size (.slice (some ⟨wr.heap.size, 0, none⟩) 0 0) (.slice (some ⟨b, off + K, none⟩) (q - K) (cap - K)) [] ((l.drop K).map (fun z : Value × List Snd => z.1)) rfl rfl HO0.out HVA.out HLA.out HSA.out ?_; intro v4 w4 ho4 hk4 hz4; have hb4 := hk4 _ _ HSZ.out HB3.out; have hz4 := Nat.le_trans HSA.out hz4; clear hk4)
                    | (refine step_appV rfl (.tmp 142) (.tmp 145) rfl wr.heap.size v4 (.slice (some ⟨b, off, none⟩) K cap) ([] ++ (l.drop K).map (fun z : Value × List Snd => z.1)) ((l.take K).map (fun z : Value × List Snd => z.1)) rfl rfl ho4 ((DLS.out.below hb4).parts HZ3.out).2 HLB.out hz4 ?_; intro v5 w5 ho5 hk5 hz5; have hb5 := hk5 _ _ HSZ.out hb4; clear ho4 hk5 hz5 hz4 hb4)
                    | (go_simp; go_at_call 8; refine (turn_sort K p H256.out HALL.out HP.out w5 wr.heap.size v5 ho5 (DLS.out.below hb5).all).mono ?_; rintro e w6 ⟨a6, k6, l6, rfl, s6, m6, e6, hb6⟩; have hw6 := hb5.trans (hb6.mono hb5.size); clear hb5 hb6 ho5))
                  have S6 := Lib.hid s6; have M6 := Lib.hid m6; have E6 := Lib.hid e6
                  have S1' := Lib.hid (S1.out.below hw6)
                  have HW6 := Lib.hid (HW.out.trans (hw6.mono HW.out.size))
                  clear s6 m6 e6 hw6 HB3 HO0 HVA HLA HLB HSZ HZ3 HP HSA HW S1 S2 DLS z1 z2 z3 z4 z5 hK hKq hqc hcm
                  go_wp2_with fail
                  go_loopw [15] (fun i wr => ∃ r : Nat, r ≤ p ∧ i = .int .i64 (r : Int) ∧ Below w6.heap.size w6 wr ∧ w6.heap.size ≤ wr.heap.size) (fun i _ => p - (intOf i).toNat)
                  case atStart => exact ⟨0, by omega, rfl, Below.refl _ _, Nat.le_refl _⟩
                  case round =>
                    obtain ⟨r, hr, rfl, hw, hsz⟩ := hrel
                    obtain ⟨w, hww⟩ : ∃ w, w = wr := ⟨_, rfl⟩
                    subst hww
                    by_cases hlr : r < p
                    · have hl1 : r < l1.length := by rw [HM.out]; exact hlr
                      have hl2 : r < l6.length := by rw [M6.out]; exact hlr
                      obtain ⟨b1, o1, rfl, lb1, d0, dx⟩ := (S1'.out.below hw).get.2.2 r hl1
                      obtain ⟨b2, o2, rfl, lb2, e0, dy⟩ := (S6.out.below hw).get.2.2 r hl2
                      obtain ⟨hs1, hx1⟩ := maps_get HE1.out hl1
                      obtain ⟨hs2, hy1⟩ := maps_get E6.out hl2
                      have hsame : ∀ W, Below w.heap.size w W → Gives 13 #[l1[r].1, l6[r].1] W (.bool true) := fun W hb => Gives.eq (same_any _ _ _ _ W (dx.below hb) (dy.below hb)) rfl (by rw [decide_eq_true (hx1.trans hy1.symm)])
                      have HSAME := Lib.hid hsame
                      have HWB := Lib.hid hw; have HSZ := Lib.hid hsz
                      generalize l1[r].1 = x at *
                      generalize l6[r].1 = y at *
                      clear hsame hs1 hs2 hx1 hy1 dx dy hl1 hl2
                      go_wp2_with fail
                      refine wp_gen ?_
                      intro W1 hW1
                      have hw1 : Below w.heap.size w W1 := by rw [hW1]; go_grown
                      have hz1 : w.heap.size ≤ W1.heap.size := by rw [hW1]; go_size
                      have c0 : W1.cell? ⟨b1, o1 + r, none⟩ = some (x) := by rw [hW1]; first | assumption | go_cell | (go_simp; done) | exact cell_past (by first | assumption | omega) (by assumption)
                      have c1 : W1.cell? ⟨b2, o2 + r, none⟩ = some (y) := by rw [hW1]; first | assumption | go_cell | (go_simp; done) | exact cell_past (by first | assumption | omega) (by assumption)
                      clear hW1
                      have k0 := cell_regrown c0
                      have k1 := cell_regrown c1
                      refine wp_region_quiet_below (by kernel_rfl) (by kernel_rfl) ?_
                      try simp only [List.append]
                      repeat (go_big_quiet_step (first | (go_at_call 13; with_reducible exact Calls.regrown_of (HSAME.out _ (hw1.trans ((below_regrown _ _ _).mono hw1.size))))))
                      refine wpQuiet_nil ?_
                      intro w2 hw2
                      have hb : Below W1.heap.size W1 w2 := by obtain ⟨q, rfl⟩ := hw2; exact below_regrown _ _ _
                      clear hw2
                      clear k0 k1
                      have hw := chain hw1 (by omega) hb
                      obtain ⟨hc, hf, hz⟩ := bcell hb
                      clear hb
                      try have r0 : w2.cell? ⟨b1, o1 + r, none⟩ = some (x) := (hc _ _ (by omega)).trans c0
                      try have r1 : w2.cell? ⟨b2, o2 + r, none⟩ = some (y) := (hc _ _ (by omega)).trans c1
                      have hw2 := Lib.hid (HWB.out.trans (hw.mono HSZ.out))
                      go_wp2_with fail
                      go_roundw
                      case rel => exact ⟨r + 1, by omega, by go_num, hw2.out, hw2.out.size⟩
                      case measure => simp [intOf]; omega
                    · obtain rfl : r = p := by omega
                      have hw := HW6.out.trans (hw.mono HW6.out.size)
                      clear hsz
                      go_wp2_with (go_at_call 6; with_reducible refine Gives.then (works_any _) ?_; intro w1 hb; have hw := hw.trans (hb.mono hw.size); clear hb)
                      go_returns
                      exact ⟨rfl, hw⟩
  · have hw := Below.refl w0.heap.size w0
    go_enter Try.func4, Try.ntmps4
    go_wp2_with (go_at_call 6; with_reducible refine Gives.then (works_any _) ?_; intro w1 hb; have hw := hw.trans (hb.mono hw.size); clear hb)
    go_returns
    exact ⟨rfl, hw⟩
end Go.Proofs.Ytfjngkdpembdcaa
