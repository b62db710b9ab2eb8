/-
  WordSorts, walked.
-/
import Derived.Test.YtfjngkdpembdcaaHx
import Derived.Test.YtfjngkdpembdcaaSt
import Derived.Test.YtfjngkdpembdcaaHw
namespace Go.Proofs.Ytfjngkdpembdcaa
open Go.RowKit Go.Sort
theorem Hdr.get {w : World} {base n c : Nat} {a : Option Addr} {l : List (Value × List Snd)} (h : Hdr w base (.slice a n c) l) : ∃ g, base ≤ g ∧ ∀ i (hi : i < l.length), a = some ⟨g, 0, none⟩ ∧ g < w.heap.size ∧ w.cell? ⟨g, i, none⟩ = some l[i].1 ∧ Own w (g + 1) l[i].1 l[i].2 := by
  rcases h with ⟨_, rfl⟩ | ⟨g, c', e, h1, h2, h3⟩
  · exact ⟨base, Nat.le_refl _, fun i hi => by simp at hi⟩
  · cases e
    exact ⟨g, h1, fun i hi => ⟨rfl, h2, (h3 i hi).1, (h3 i hi).2⟩⟩
theorem take_all {l : List (Value × List Snd)} {k : Nat} (h : k < l.length) : (l.take (k + 1)).map (·.2) = (l.take k).map (·.2) ++ [l[k].2] := by
  rw [List.take_succ_eq_append_getElem h, List.map_append]; rfl
set_option maxRecDepth 100000 in
set_option maxHeartbeats 8000000 in
theorem sorts_any (l : List (Value × List Snd)) (v : Value) (w0 : World) (h : Ws w0 v l) : Gives 3 #[v] w0 (.bool true) := by
  unfold Gives
  have DL := Lib.hid h
  obtain ⟨ao, cap, rfl, c1, m1, H1⟩ := h.open
  have l1 := maxLen_lt (Nat.le_trans c1 m1)
  clear h c1 m1
  have H1 := Lib.hid H1
  obtain ⟨n, hn⟩ : ∃ n, l.length = n := ⟨_, rfl⟩
  have HN := Lib.hid hn
  have DL : Hid (Ws w0 (.slice ao n cap) l) := Lib.hid (by rw [← hn]; exact DL.out)
  rw [hn] at l1 ⊢
  clear hn
  by_cases h3 : n ≤ 300
  · go_enter Try.func3, Try.ntmps3
    go_wp2_with fail
    go_loopw [4, 3] (fun i s wr => ∃ (k : Nat) (o : List (Value × List Snd)), k ≤ n ∧ i = .int .i64 (k : Int) ∧ OwnL wr w0.heap.size s o ∧ o.map (·.2) = (l.take k).map (·.2) ∧ Below w0.heap.size w0 wr ∧ w0.heap.size ≤ wr.heap.size) (fun i _ _ => n - (intOf i).toNat)
    case atStart => exact ⟨0, [], by omega, rfl, OwnL.nil _ _, by simp, by go_grown, by go_size⟩
    case round =>
      obtain ⟨k, o, hk, rfl, ho, ht, hw, hsz⟩ := hrel
      obtain ⟨wl, hwl⟩ : ∃ w, w = wr := ⟨_, rfl⟩
      subst hwl
      obtain ⟨oo, oc, rfl⟩ := ho.slice
      have hol : o.length = k := by
        have := congrArg List.length ht
        rw [List.length_map, List.length_map, List.length_take, HN.out] at this
        omega
      have HOL := Lib.hid hol; have HO := Lib.hid ho; have HT := Lib.hid ht
      clear hol ho ht
      by_cases hlt : k < n
      · have hlt' : k < l.length := by rw [HN.out]; exact hlt
        obtain ⟨b, off, rfl, lb, d0, dw⟩ := H1.out k hlt'
        have d0 := (hw.cell (p := ⟨b, off + k, none⟩) lb).trans d0
        have dw := dw.below hw
        have htk := take_all hlt'
        rw [← HT.out] at htk
        generalize l[k].1 = x at *
        generalize l[k].2 = xs at *
        have HX := Lib.hid dw; have HTK := Lib.hid htk
        obtain ⟨xo, xc, rfl, -, -, -⟩ := dw.open
        clear dw htk hlt' H1 HT DL
        have hx1 := maxLen_lt (Nat.le_trans (HX.out.open).choose_spec.choose_spec.2.1 (HX.out.open).choose_spec.choose_spec.2.2.1)
        by_cases h100 : xs.length ≤ 100
        · have H32 : Hid (xs.length ≤ 1000000000) := Lib.hid (by omega)
          have HW := Lib.hid hw
          go_wp2_with fail
          go_at_call 7
          refine Makes.then (copy_any xs _ H32.out _ HX.out) ?_
          intro y w3 hy hb3
          have HW3 := Lib.hid (HW.out.trans (hb3.mono hsz))
          obtain ⟨yo, yc, ey, -, -, -⟩ := hy.wd.open
          subst ey
          have hy1 := (hy.mono hsz).below ((Below.refl _ w3).alloc (Nat.le_refl _) (.cells #[.slice yo xs.length yc] 24))
          have ho1 := (HO.out.below hb3).below ((Below.refl _ w3).alloc (Nat.le_refl _) (.cells #[.slice yo xs.length yc] 24))
          have HY := Lib.hid hy1; have HO3 := Lib.hid ho1
          have hle3 : w0.heap.size ≤ w3.heap.size := by have := hb3.size; omega
          have HOS := Lib.hid (show ((o.map (·.1)).length + [Value.slice yo xs.length yc].length ≤ 1000000000000) by rw [List.length_map, HOL.out]; simp; omega)
          clear hy hb3 hy1 ho1 hw hsz lb d0 HO HW
          go_wp2_with (at_builtin; refine wpList_appV rfl (.tmp 28) (.tmp 34) rfl w0.heap.size (.slice oo o.length oc) (.slice (some ⟨w3.heap.size, 0, none⟩) 1 1) (List.map (fun z : Value × List Snd => z.1) o) [.slice yo xs.length yc] rfl rfl HO3.out.1 (Vs.one w3 yo xs.length yc) HOS.out (by rw [World.size_alloc]; omega) ?_; intro v' w4 ho4 hg4)
          have hbw4 := (HW3.out.alloc hle3 (.cells #[.slice yo xs.length yc] 24)).grown hg4 (by rw [World.size_alloc]; omega) (fun k e => HO3.out.row k e)
          have hol4 := OwnL.more HO3.out HY.out ho4 hg4
          have HL4 := Lib.hid hol4
          clear ho4 hg4 hol4
          go_roundw
          case rel => exact ⟨k + 1, _, by omega, by go_num, HL4.out, by rw [List.map_append]; exact HTK.out.symm, hbw4, hbw4.size⟩
          case measure => simp [intOf]; omega
        · have h100' : ¬ ((xs.length : Int) ≤ 100) := by omega
          go_wp2_with (go_at_call 6; with_reducible refine Gives.then (works_any _) ?_; intro w1 hb; have hw := hw.trans (hb.mono hw.size); clear hb)
          go_returns
          exact ⟨rfl, hw⟩
      · obtain rfl : k = n := by omega
        clear hlt hk H1
        have hto : o.map (·.2) = l.map (·.2) := by rw [HT.out, List.take_of_length_le (by rw [HN.out]; exact Nat.le_refl _)]
        have HTO := Lib.hid hto
        clear hto HT
        have hdl := DL.out.below hw
        go_wp2_with fail
        go_at_call 8
        refine (sort_all l _ _ hdl).mono ?_
        rintro e w1 ⟨v1, l1, rfl, s1, e1, hd, hb1⟩
        obtain ⟨a1, k1, rfl, q1, q2, -⟩ := s1.open
        have hl1n := maxLen_lt (Nat.le_trans q1 q2)
        clear q1 q2
        obtain ⟨g, hbg, hdg⟩ := hd.get
        have hdl := hdl.below hb1
        clear hd
        go_wp2_with fail
        go_at_call 9
        refine (rsort_all l _ _ hdl).mono ?_
        rintro e w ⟨v2, l2, rfl, s2, e2, hb2⟩
        obtain ⟨a2, k2, rfl, -, -, -⟩ := s2.open
        have s1 := s1.below hb2
        have hsame : ∀ W, Below w.heap.size w W → Gives 10 #[.slice a1 l1.length k1, .slice a2 l2.length k2] W (.bool true) := fun W hb => Gives.eq (rSame_any l1 l2 _ _ W (s1.below hb) (s2.below hb)) rfl (by rw [decide_eq_true (e1.trans e2.symm)])
        have HS := Lib.hid hsame
        have hbw := hb1.trans (hb2.mono hb1.size)
        have HBW := Lib.hid hbw
        have hdg : ∀ i (hi : i < l1.length), a1 = some ⟨g, 0, none⟩ ∧ g < w.heap.size ∧ w.cell? ⟨g, i, none⟩ = some l1[i].1 ∧ Own w (g + 1) l1[i].1 l1[i].2 := fun i hi => by
          obtain ⟨q1, q2, q3, q4⟩ := hdg i hi
          exact ⟨q1, by have := hb2.size; omega, (hb2.cell (p := ⟨g, i, none⟩) q2).trans q3, q4.below hb2⟩
        have HD := Lib.hid hdg
        have HW0 := Lib.hid hw
        have hwlw := hbw.size
        generalize sE l = E at *
        clear hsame hbw hdg s1 s2 e1 e2 hb1 hb2 hdl hw
        go_wp2_with fail
        go_at_call 10
        with_reducible refine Gives.then (HS.out _ (Below.refl _ _)) ?_
        intro w2 hw
        have hdg : ∀ i (hi : i < l1.length), a1 = some ⟨g, 0, none⟩ ∧ w2.cell? ⟨g, i, none⟩ = some l1[i].1 ∧ Own w2 (g + 1) l1[i].1 l1[i].2 := fun i hi => by
          obtain ⟨q1, q2, q3, q4⟩ := HD.out i hi
          exact ⟨q1, (hw.cell (p := ⟨g, i, none⟩) q2).trans q3, q4.below hw⟩
        have HD2 := Lib.hid hdg
        have HBW2 := Lib.hid (HBW.out.trans (hw.mono hwlw))
        clear hdg HD HS
        go_wp2_with fail
        go_loopw [9] (fun i wr => ∃ k : Nat, k ≤ l1.length ∧ i = .int .i64 (k : Int) ∧ Sto wl.heap.size g w2 wr) (fun i _ => l1.length - (intOf i).toNat)
        case atStart => exact ⟨0, by omega, rfl, Sto.refl _ _ _⟩
        case round =>
          obtain ⟨i, hi, rfl, hst⟩ := hrel
          obtain ⟨wo, hwo⟩ : ∃ w, w = wr := ⟨_, rfl⟩
          subst hwo
          by_cases hlt : i < l1.length
          · obtain ⟨rfl, hcell, hown⟩ := HD2.out i hlt
            have d0 := (hst.cell i).trans hcell
            generalize l1[i].1 = x at *
            generalize l1[i].2 = xs at *
            have HC := Lib.hid hcell
            rcases hown.cases with ⟨rfl, rfl⟩ | ⟨b, xc, rfl, hgb, hcr⟩
            · have HST := Lib.hid hst
              clear hown hcell hst
              go_wp2_with fail
              go_loopw [10] (fun j wr => j = .int .i64 0 ∧ wr = wo) (fun _ _ => 0)
              case atStart => exact ⟨rfl, rfl⟩
              case round =>
                obtain ⟨rfl, rfl⟩ := hrel
                go_wp2_with fail
                go_roundw
                case rel => exact ⟨i + 1, by omega, by go_num, HST.out⟩
                case measure => simp [intOf]; omega
            · have HST := Lib.hid hst; have HCR := Lib.hid hcr
              have hbb : wl.heap.size ≤ b := by omega
              have hne : b ≠ g := by omega
              have hlx : xs.length ≤ 9223372036854775807 := by
                obtain ⟨_, _, e, q1, q2, -⟩ := hown.wd.open
                cases e
                exact maxLen_lt (Nat.le_trans q1 q2)
              clear hown hcell hst hcr
              go_wp2_with fail
              go_loopw [10] (fun j wr => ∃ m : Nat, m ≤ xs.length ∧ j = .int .i64 (m : Int) ∧ Sto wl.heap.size g w2 wr) (fun j _ => xs.length - (intOf j).toNat)
              case atStart => exact ⟨0, by omega, rfl, HST.out⟩
              case round =>
                clear d0
                obtain ⟨m, hm, rfl, hst⟩ := hrel
                have d0 := (hst.cell i).trans HC.out
                by_cases hmx : m < xs.length
                · obtain ⟨⟨u0, c0⟩, f0⟩ := (hst.2.2.2 _ _ HCR.out).cell (o := m * 2) (by omega)
                  obtain ⟨⟨u1, c1⟩, f1⟩ := (hst.2.2.2 _ _ HCR.out).cell (o := m * 2 + 1) (by omega)
                  have HST2 := Lib.hid hst
                  clear hst
                  go_wp2_with fail
                  go_roundw
                  case rel => exact ⟨m + 1, by omega, by go_num, (HST2.out.set b (m * 2) _ hbb hne).set b (m * 2 + 1) _ hbb hne⟩
                  case measure => simp [intOf]; omega
                · obtain rfl : m = xs.length := by omega
                  have HST2 := Lib.hid hst
                  clear hst
                  go_wp2_with fail
                  go_roundw
                  case rel => exact ⟨i + 1, by omega, by go_num, HST2.out⟩
                  case measure => simp [intOf]; omega
          · obtain rfl : i = l1.length := by omega
            have hbo := HBW2.out.trans hst.1
            have ha := DL.out.below (HW0.out.trans (hbo.mono HW0.out.size))
            have hb := (HO.out.below hbo).ws
            have hwo := HW0.out.trans (hbo.mono HW0.out.size)
            have hS : ∀ W, Below wo.heap.size wo W → Gives 10 #[.slice ao k cap, .slice oo o.length oc] W (.bool true) := fun W h => Gives.eq (rSame_any l o _ _ W (ha.below h) (hb.below h)) rfl (by rw [decide_eq_true HTO.out.symm])
            have HS := Lib.hid hS; have HWO := Lib.hid hwo
            have h9 := Below.refl wo.heap.size wo
            clear hS hwo ha hb hbo hst
            go_wp2_with (first | (go_at_call 10; with_reducible refine Gives.then (HS.out _ h9) ?_; intro w9 hb; have h9 := h9.trans (hb.mono h9.size); clear hb) | (go_at_call 6; with_reducible refine Gives.then (works_any _) ?_; intro w9 hb; have h9 := h9.trans (hb.mono h9.size); clear hb))
            go_returns
            exact ⟨by first | rfl | (simp; done), HWO.out.trans (h9.mono HWO.out.size)⟩
  · have hw := Below.refl w0.heap.size w0
    go_enter Try.func3, Try.ntmps3
    go_wp2_with (go_at_call 6; with_reducible refine Gives.then (works_any _) ?_; intro w1 hb; have hw := hw.trans (hb.mono hw.size); clear hb)
    go_returns
    exact ⟨rfl, hw⟩
end Go.Proofs.Ytfjngkdpembdcaa
