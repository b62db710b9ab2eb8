/-
  slices.CompactFunc on a list of words.
-/
import Derived.Test.YtfjngkdpembdcaaHs
namespace Go.Proofs.Ytfjngkdpembdcaa
open Go.RowKit Go.Sort Go.Proofs
theorem below_setCells {B b : Nat} {a : World} (hB : B ≤ b) : ∀ (vs : List Value) (o : Nat) (w : World), Below B a w → Below B a (w.setCells b o vs)
  | [], _, _, h => h
  | v :: vs, o, w, h => below_setCells hB vs (o + 1) _ (h.setCell (p := ⟨b, o, none⟩) hB v)
section
variable {w : World}
/-- The first p words, each that equals the one before it left out. -/
def cpt (X : List (WE w)) : Nat → List (WE w)
  | 0 => []
  | p + 1 => if h : p < X.length then (if 0 < p ∧ X[p].ss = (X[p - 1]'(by omega)).ss then cpt X p else cpt X p ++ [X[p]]) else cpt X p
theorem cpt_same {X : List (WE w)} {p : Nat} (h : p < X.length) (h0 : 0 < p) (he : X[p].ss = (X[p - 1]'(by omega)).ss) : cpt X (p + 1) = cpt X p := by
  simp only [cpt]; rw [dif_pos h, if_pos ⟨h0, he⟩]
theorem cpt_next {X : List (WE w)} {p : Nat} (h : p < X.length) (h0 : 0 < p) (he : ¬ X[p].ss = (X[p - 1]'(by omega)).ss) : cpt X (p + 1) = cpt X p ++ [X[p]] := by
  simp only [cpt]; rw [dif_pos h, if_neg (fun e => he e.2)]
theorem cpt_one {X : List (WE w)} (h : 0 < X.length) : cpt X 1 = X.take 1 := by
  simp only [cpt]; rw [dif_pos h, if_neg (fun e => absurd e.1 (by omega))]
  rw [List.take_succ_eq_append_getElem h]; rfl
theorem cpt_len (X : List (WE w)) : ∀ p, (cpt X p).length ≤ p
  | 0 => Nat.le_refl _
  | p + 1 => by
    have := cpt_len X p
    simp only [cpt]
    split
    · split
      · omega
      · simp; omega
    · omega
set_option maxHeartbeats 4000000 in
theorem compact_any (X : List (WE w)) (g c : Nat) (W : World) (hw0 : Below w.heap.size w W) (hgw : w.heap.size ≤ g) (hgs : g < W.heap.size) (hl : X.length ≤ 1000000000) (hc : X.length ≤ c) (hm : c ≤ maxLen) (hr : RowX W g X) :
    Calls Try.prog 27 #[.slice (some ⟨g, 0, none⟩) X.length c, .func (.func 28) #[] #[]] W fun e w' => e = .returned (.slice (some ⟨g, 0, none⟩) (cpt X X.length).length c) ∧ RowX w' g (cpt X X.length) ∧ Below g W w' := by
  have hm' : c ≤ 9223372036854775807 := hm
  have HR := Lib.hid hr
  clear hm hr
  by_cases h2 : X.length < 2
  · have hcp : cpt X X.length = X := by
      rcases Nat.lt_or_ge 0 X.length with h | h
      · rw [show X.length = 1 from by omega, cpt_one h, List.take_of_length_le (by omega)]
      · have : X = [] := List.eq_nil_of_length_eq_zero (by omega)
        rw [this]; rfl
    rw [hcp]
    clear hcp
    go_enter Try.func27, Try.ntmps27
    go_wp2_with fail
    go_returns
    exact ⟨rfl, HR.out, Below.refl _ _⟩
  · generalize hcx : cpt X X.length = CX
    have HCX := Lib.hid hcx
    clear hcx
    have hc1 := cpt_one (X := X) (by omega)
    have HC1 := Lib.hid hc1
    clear hc1
    go_enter Try.func27, Try.ntmps27
    go_wp2_with fail
    go_loopw [5] (fun i wr => ∃ k : Nat, 1 ≤ k ∧ k ≤ X.length ∧ i = .int .i64 (k : Int) ∧ cpt X k = X.take k ∧ RowX wr g X ∧ Below w.heap.size w wr ∧ Below g W wr) (fun i _ => X.length - (intOf i).toNat)
    case atStart => exact ⟨1, Nat.le_refl _, by omega, rfl, HC1.out, HR.out, hw0, Below.refl _ _⟩
    case round =>
      clear HR HC1
      obtain ⟨k, hk1, hk, rfl, hct, hr, hw, hgb⟩ := hrel
      have HRR := Lib.hid hr; have HCT := Lib.hid hct
      by_cases hlt : k < X.length
      · have ha := (hr k hlt).1
        have hb := (hr (k - 1) (by omega)).1
        have HA := Lib.hid (X[k].h); have HB := Lib.hid ((X[k - 1]'(by omega)).h)
        have hgr : g < wr.heap.size := by have := hgb.size; omega
        clear hr hct
        by_cases heq : X[k].ss = (X[k - 1]'(by omega)).ss
        · have HQ := Lib.hid (decide_eq_true heq)
          have hst := cpt_same hlt (by omega) heq
          have HST := Lib.hid (hst.trans HCT.out)
          clear heq hst
          go_wp2_with fail
          refine wp_gen ?_
          intro W1 hW1
          have hw1 : Below w.heap.size w W1 := by rw [hW1]; exact hw
          have hg1 : Below g W W1 := by rw [hW1]; exact hgb
          have hz1 : wr.heap.size ≤ W1.heap.size := by rw [hW1]; exact Nat.le_refl _
          have hb1' : Below wr.heap.size wr W1 := by rw [hW1]; exact Below.refl _ _
          have c0 : W1.cell? ⟨g, k, none⟩ = some (X[k].v) := by rw [hW1]; assumption
          have c1 : W1.cell? ⟨g, k - 1, none⟩ = some ((X[k - 1]'(by omega)).v) := by rw [hW1]; assumption
          clear hW1
          have k0 := cell_regrown c0
          have k1 := cell_regrown c1
          refine wp_region_quiet_below (by kernel_rfl) (by kernel_rfl) ?_
          try simp only [List.append]
          repeat (go_big_quiet_step (first | (go_at_call 28; with_reducible exact Calls.regrown_of (Gives.eq (wEqual_any _ _ _ _ _ (HA.out.below (hw1.trans ((below_regrown _ _ _).mono hw1.size))) (HB.out.below (hw1.trans ((below_regrown _ _ _).mono hw1.size)))) rfl (by rw [HQ.out])))))
          refine wpQuiet_nil ?_
          intro w2 hw2
          have hb : Below W1.heap.size W1 w2 := by obtain ⟨q, rfl⟩ := hw2; exact below_regrown _ _ _
          clear hw2
          clear k0 k1
          have hw := hw1.trans (hb.mono (by have := hw1.size; omega))
          have hgb := hg1.trans (hb.mono (by omega))
          have hbr : Below wr.heap.size wr w2 := hb1'.trans (hb.mono hz1)
          clear hb hw1 hg1 hz1 hb1' c0 c1
          have hrow2 : RowX w2 g X := fun i hi => ⟨(hbr.cell (p := ⟨g, i, none⟩) hgr).trans (HRR.out i hi).1, (hbr.frozen (p := ⟨g, i, none⟩) hgr).trans (HRR.out i hi).2⟩
          have HR2 := Lib.hid hrow2
          clear hrow2 ha hb
          have hckn : ¬ c = k := by omega
          go_wp2_with fail
          have hlen0 : (X.take k).length = k := by rw [List.length_take]; omega
          have HLEN := Lib.hid hlen0
          clear hlen0 hgr HRR hbr
          go_loopw [7, 5] (fun i2 i wr => ∃ (k2 : Nat) (R : List (WE w)), 1 ≤ k2 ∧ k + k2 ≤ X.length ∧ i2 = .int .i64 (k2 : Int) ∧ i = .int .i64 (R.length : Int) ∧ cpt X (k + k2) = R ∧ R.length < k + k2 ∧ k ≤ R.length ∧ (∀ j (h : j < R.length), wr.cell? ⟨g, j, none⟩ = some R[j].v) ∧ (∀ j (h : j < X.length), R.length ≤ j → wr.cell? ⟨g, j, none⟩ = some X[j].v) ∧ (∀ j, j < X.length → wr.frozen? ⟨g, j, none⟩ = false) ∧ Below w.heap.size w wr ∧ Below g W wr) (fun i2 _ _ => X.length - k - (intOf i2).toNat)
          case atStart =>
            have hh := HR2.out
            refine ⟨1, X.take k, Nat.le_refl _, by omega, rfl, by rw [HLEN.out], HST.out, by rw [HLEN.out]; omega, by rw [HLEN.out]; exact Nat.le_refl _, fun j h => ?_, fun j h _ => (hh j h).1, fun j h => (hh j h).2, hw, hgb⟩
            rw [List.getElem_take]
            exact (hh j (by rw [HLEN.out] at h; omega)).1
          case round =>
            clear HR2 HST HLEN HQ HA HB hw hgb HCT
            obtain ⟨k2, R, hk21, hk2n, rfl, rfl, hcp, hRl, hRk, hlo, hhi, hfz, hw, hgb⟩ := hrel
            have HLO := Lib.hid hlo; have HHI := Lib.hid hhi; have HFZ := Lib.hid hfz; have HCP := Lib.hid hcp
            have hgr : g < wr.heap.size := by have := hgb.size; omega
            clear hlo hcp
            by_cases hlt2 : k + k2 < X.length
            · have ha := hhi (k + k2) hlt2 (by omega)
              have hb := hhi (k + (k2 - 1)) (by omega) (by omega)
              have HA := Lib.hid (X[k + k2].h); have HB := Lib.hid ((X[k + (k2 - 1)]'(by omega)).h)
              clear hhi hfz
              have hpm : k + k2 - 1 = k + (k2 - 1) := by omega
              have hsub : k2 < X.length - k := by omega
              by_cases heq : X[k + k2].ss = (X[k + (k2 - 1)]'(by omega)).ss
              · have HQ := Lib.hid (decide_eq_true heq)
                have hst := cpt_same hlt2 (by omega) (by simpa only [hpm] using heq)
                have HST := Lib.hid (hst.trans HCP.out)
                clear heq hst
                go_wp2_with fail
                refine wp_gen ?_
                intro W1 hW1
                have hw1 : Below w.heap.size w W1 := by rw [hW1]; exact hw
                have hg1 : Below g W W1 := by rw [hW1]; exact hgb
                have hz1 : wr.heap.size ≤ W1.heap.size := by rw [hW1]; exact Nat.le_refl _
                have hb1' : Below wr.heap.size wr W1 := by rw [hW1]; exact Below.refl _ _
                have c0 : W1.cell? ⟨g, k + k2, none⟩ = some (X[k + k2].v) := by rw [hW1]; assumption
                have c1 : W1.cell? ⟨g, k + (k2 - 1), none⟩ = some ((X[k + (k2 - 1)]'(by omega)).v) := by rw [hW1]; assumption
                clear hW1
                have k0 := cell_regrown c0
                have k1 := cell_regrown c1
                refine wp_region_quiet_below (by kernel_rfl) (by kernel_rfl) ?_
                try simp only [List.append]
                repeat (go_big_quiet_step (first | (go_at_call 28; with_reducible exact Calls.regrown_of (Gives.eq (wEqual_any _ _ _ _ _ (HA.out.below (hw1.trans ((below_regrown _ _ _).mono hw1.size))) (HB.out.below (hw1.trans ((below_regrown _ _ _).mono hw1.size)))) rfl (by rw [HQ.out])))))
                refine wpQuiet_nil ?_
                intro w2 hw2
                have hb : Below W1.heap.size W1 w2 := by obtain ⟨q, rfl⟩ := hw2; exact below_regrown _ _ _
                clear hw2
                clear k0 k1
                have hw := hw1.trans (hb.mono (by have := hw1.size; omega))
                have hgb := hg1.trans (hb.mono (by omega))
                have hbr : Below wr.heap.size wr w2 := hb1'.trans (hb.mono hz1)
                clear hb hw1 hg1 hz1 hb1' c0 c1
                have HBR := Lib.hid hbr
                clear ha hb
                go_wp2_with fail
                go_roundw
                case rel => exact ⟨k2 + 1, R, by omega, by omega, by go_num, rfl, HST.out, by omega, hRk, fun j h => (HBR.out.cell (p := ⟨g, j, none⟩) hgr).trans (HLO.out j h), fun j h h' => (HBR.out.cell (p := ⟨g, j, none⟩) hgr).trans (HHI.out j h h'), fun j h => (HBR.out.frozen (p := ⟨g, j, none⟩) hgr).trans (HFZ.out j h), hw, hgb⟩
                case measure => simp [intOf]; omega
              · have HQ := Lib.hid (decide_eq_false heq)
                have hst := cpt_next hlt2 (by omega) (by simpa only [hpm] using heq)
                have HST := Lib.hid (hst.trans (congrArg (· ++ [X[k + k2]]) HCP.out))
                clear heq hst
                obtain ⟨so, sc, hsv, -, -, -⟩ := (X[k + k2]).h.open
                generalize hsn : (X[k + k2]).ss.length = sn at *
                have HSV := Lib.hid hsv
                rw [hsv] at ha HA
                clear hsv hsn
                go_wp2_with fail
                refine wp_gen ?_
                intro W1 hW1
                have hw1 : Below w.heap.size w W1 := by rw [hW1]; exact hw
                have hg1 : Below g W W1 := by rw [hW1]; exact hgb
                have hz1 : wr.heap.size ≤ W1.heap.size := by rw [hW1]; exact Nat.le_refl _
                have hb1' : Below wr.heap.size wr W1 := by rw [hW1]; exact Below.refl _ _
                have c0 : W1.cell? ⟨g, k + k2, none⟩ = some (.slice so sn sc) := by rw [hW1]; assumption
                have c1 : W1.cell? ⟨g, k + (k2 - 1), none⟩ = some ((X[k + (k2 - 1)]'(by omega)).v) := by rw [hW1]; assumption
                clear hW1
                have k0 := cell_regrown c0
                have k1 := cell_regrown c1
                refine wp_region_quiet_below (by kernel_rfl) (by kernel_rfl) ?_
                try simp only [List.append]
                repeat (go_big_quiet_step (first | (go_at_call 28; with_reducible exact Calls.regrown_of (Gives.eq (wEqual_any _ _ _ _ _ (HA.out.below (hw1.trans ((below_regrown _ _ _).mono hw1.size))) (HB.out.below (hw1.trans ((below_regrown _ _ _).mono hw1.size)))) rfl (by rw [HQ.out])))))
                refine wpQuiet_nil ?_
                intro w2 hw2
                have hb : Below W1.heap.size W1 w2 := by obtain ⟨q, rfl⟩ := hw2; exact below_regrown _ _ _
                clear hw2
                clear k0 k1
                have hw := hw1.trans (hb.mono (by have := hw1.size; omega))
                have hgb := hg1.trans (hb.mono (by omega))
                have hbr : Below wr.heap.size wr w2 := hb1'.trans (hb.mono hz1)
                clear hb hw1 hg1 hz1 hb1' c0 c1
                have hcell := fun j h => (hbr.cell (p := ⟨g, j, none⟩) hgr).trans (HLO.out j h)
                have hcell2 := fun j h h' => (hbr.cell (p := ⟨g, j, none⟩) hgr).trans (HHI.out j h h')
                have hfroz := fun j h => (hbr.frozen (p := ⟨g, j, none⟩) hgr).trans (HFZ.out j h)
                have ha2 := (hbr.cell (p := ⟨g, k + k2, none⟩) hgr).trans ha
                have hr2 := hcell2 R.length (by omega) (Nat.le_refl _)
                have hf2 := hfroz R.length (by omega)
                have HL1 := Lib.hid hcell; have HL2 := Lib.hid hcell2; have HL3 := Lib.hid hfroz
                have hRX : R.length < X.length := by omega
                clear ha hb hcell hcell2 hfroz hbr
                go_wp2_with fail
                go_roundw
                case rel =>
                  refine ⟨k2 + 1, R ++ [X[k + k2]], by omega, by omega, by go_num, by simp, HST.out, by simp; omega, by simp; omega, fun j h => ?_, fun j h h' => ?_, fun j h => ?_, ?_, ?_⟩
                  · by_cases hj : j < R.length
                    · rw [World.cell?_setCell_other _ ⟨g, R.length, none⟩ ⟨g, j, none⟩ _ (by simp <;> omega), List.getElem_append_left hj]
                      exact HL1.out j hj
                    · obtain rfl : j = R.length := by simp at h; omega
                      rw [World.cell?_setCell_same' _ _ _ (by rw [hr2]; rfl), List.getElem_append_right (Nat.le_refl _)]
                      simp only [Nat.sub_self, List.getElem_cons_zero]
                      rw [HSV.out]
                  · simp only [List.length_append, List.length_cons, List.length_nil] at h'
                    rw [World.cell?_setCell_other _ ⟨g, R.length, none⟩ ⟨g, j, none⟩ _ (by simp <;> omega)]
                    exact HL2.out j h (by omega)
                  · rw [World.frozen?_setCell]
                    exact HL3.out j h
                  · exact hw.setCell (p := ⟨g, R.length, none⟩) hgw _
                  · exact hgb.setCell (p := ⟨g, R.length, none⟩) (Nat.le_refl g) _
                case measure => simp [intOf]; omega
            · have hpn : k + k2 = X.length := by omega
              have HF := Lib.hid (HCX.out.symm.trans ((by rw [hpn] : cpt X X.length = cpt X (k + k2)).trans HCP.out))
              have hckR : ¬ c = R.length := by omega
              have hclr := fun ty => Lib.run_clear_slice (P := Try.prog) wr 22 24 ty (.slice none 0 0) Try.underlying22 Try.zeroValue24 rfl rfl g R.length (X.length - R.length) (c - R.length) (by omega) (fun j hj => by rw [hhi (R.length + j) (by omega) (by omega)]; rfl) (fun j hj => hfz (R.length + j) (by omega))
              have hfin : RowX (wr.setCells g R.length (List.replicate (X.length - R.length) (.slice none 0 0))) g R := fun j h => ⟨by rw [World.cell?_setCells_out g _ _ _ _ (fun _ _ => .inl h)]; exact HLO.out j h, by rw [World.frozen?_setCells]; exact hfz j (by omega)⟩
              have hbel := below_setCells (b := g) (Nat.le_refl g) (List.replicate (X.length - R.length) (.slice none 0 0)) R.length wr hgb
              have HFIN := Lib.hid hfin; have HBEL := Lib.hid hbel
              have hRX : R.length < X.length := by omega
              clear hhi hfz hfin hbel
              go_wp2_with fail
              go_returns
              exact ⟨by (rw [HF.out]; try rfl), by rw [HF.out]; exact HFIN.out, HBEL.out⟩
        · have HQ := Lib.hid (decide_eq_false heq)
          have hst := cpt_next hlt (by omega) heq
          have hst2 : cpt X (k + 1) = X.take (k + 1) := by rw [hst, HCT.out, List.take_succ_eq_append_getElem hlt]
          have HST := Lib.hid hst2
          clear heq hst hst2
          go_wp2_with fail
          refine wp_gen ?_
          intro W1 hW1
          have hw1 : Below w.heap.size w W1 := by rw [hW1]; exact hw
          have hg1 : Below g W W1 := by rw [hW1]; exact hgb
          have hz1 : wr.heap.size ≤ W1.heap.size := by rw [hW1]; exact Nat.le_refl _
          have hb1' : Below wr.heap.size wr W1 := by rw [hW1]; exact Below.refl _ _
          have c0 : W1.cell? ⟨g, k, none⟩ = some (X[k].v) := by rw [hW1]; assumption
          have c1 : W1.cell? ⟨g, k - 1, none⟩ = some ((X[k - 1]'(by omega)).v) := by rw [hW1]; assumption
          clear hW1
          have k0 := cell_regrown c0
          have k1 := cell_regrown c1
          refine wp_region_quiet_below (by kernel_rfl) (by kernel_rfl) ?_
          try simp only [List.append]
          repeat (go_big_quiet_step (first | (go_at_call 28; with_reducible exact Calls.regrown_of (Gives.eq (wEqual_any _ _ _ _ _ (HA.out.below (hw1.trans ((below_regrown _ _ _).mono hw1.size))) (HB.out.below (hw1.trans ((below_regrown _ _ _).mono hw1.size)))) rfl (by rw [HQ.out])))))
          refine wpQuiet_nil ?_
          intro w2 hw2
          have hb : Below W1.heap.size W1 w2 := by obtain ⟨q, rfl⟩ := hw2; exact below_regrown _ _ _
          clear hw2
          clear k0 k1
          have hw := hw1.trans (hb.mono (by have := hw1.size; omega))
          have hgb := hg1.trans (hb.mono (by omega))
          have hbr : Below wr.heap.size wr w2 := hb1'.trans (hb.mono hz1)
          clear hb hw1 hg1 hz1 hb1' c0 c1
          have hrow2 : RowX w2 g X := fun i hi => ⟨(hbr.cell (p := ⟨g, i, none⟩) hgr).trans (HRR.out i hi).1, (hbr.frozen (p := ⟨g, i, none⟩) hgr).trans (HRR.out i hi).2⟩
          have HR2 := Lib.hid hrow2
          clear hrow2 ha hb
          go_wp2_with fail
          go_roundw
          case rel => exact ⟨k + 1, by omega, by omega, by go_num, HST.out, HR2.out, hw, hgb⟩
          case measure => simp [intOf]; omega
      · obtain rfl : k = X.length := by omega
        rw [List.take_length] at hct
        have HF := Lib.hid (HCX.out.symm.trans hct)
        clear hct hr
        go_wp2_with fail
        go_returns
        exact ⟨by (rw [HF.out]; try rfl), by rw [HF.out]; exact HRR.out, hgb⟩
end
end Go.Proofs.Ytfjngkdpembdcaa
