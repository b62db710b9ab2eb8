/-
  Sort: what it returns, and that it is new.
-/
import Derived.Test.YtfjngkdpembdcaaHu
namespace Go.Proofs.Ytfjngkdpembdcaa
open Go.RowKit Go.Sort Go.Proofs
section
variable {w : World}
/-- The row of a sorted list: it lies below the words that it holds. -/
def Hdr (w' : World) (base : Nat) (v' : Value) (l' : List (Value × List Snd)) : Prop := (v' = .slice none 0 0 ∧ l' = []) ∨ ∃ g c, v' = .slice (some ⟨g, 0, none⟩) l'.length c ∧ base ≤ g ∧ g < w'.heap.size ∧ ∀ i (h : i < l'.length), w'.cell? ⟨g, i, none⟩ = some l'[i].1 ∧ Own w' (g + 1) l'[i].1 l'[i].2
set_option maxHeartbeats 400000 in
/-- Sort's last loop, over a row of its own: each word is copied. -/
theorem sort_any (L : List (WE w)) (v : Value) (hl : L.length ≤ 256) (h : Ws w v (prs L)) (hc : cke (prs L) = 0) : Calls Try.prog 8 #[v] w fun e w' => ∃ (v' : Value) (l' : List (Value × List Snd)), e = .returned (.tuple #[v', .int .i64 0]) ∧ Ws w' v' l' ∧ l'.map (·.2) = srt (L.map WE.ss) ∧ (∀ x ∈ l', Own w' w.heap.size x.1 x.2) ∧ Hdr w' w.heap.size v' l' ∧ Below w.heap.size w w' := by
  have hck := checkEach_any (prs L) v w h
  rw [hc] at hck
  obtain ⟨ao, cap, rfl, hcells⟩ := values_we L h
  have hval : ∀ x ∈ L, x.ss.length ≤ 32 := fun x hx => chk_short (cke_zero hc (x.v, x.ss) (List.mem_map.2 ⟨x, hx, rfl⟩))
  have HVAL := Lib.hid hval
  clear hval
  have HCK := Lib.hid hck; have HCE := Lib.hid hcells
  clear hck hcells h hc
  go_enter Try.func8, Try.ntmps8
  go_wp2_with fail
  go_at_call 24
  with_reducible refine Gives.then HCK.out ?_
  intro w1 hb1
  go_wp2_with fail
  go_at_call 26
  refine (values_any ao L.length cap w1).mono ?_
  rintro e w2 ⟨rfl, rfl⟩
  go_wp2_with fail
  have hb2 : Below w.heap.size w (w1.alloc (.cells #[.slice ao L.length cap] 22)) := hb1.alloc hb1.size _
  have hsf := sortedFunc_any L ao cap w1.heap.size (by omega) (w1.alloc (.cells #[.slice ao L.length cap] 22)) hb2 (cell_block (World.alloc_heap_new w1 _) rfl) (fun i hi => by
    obtain ⟨b, off, e, hb, hcc⟩ := HCE.out i hi
    exact ⟨b, off, e, by have := hb2.size; omega, (hb2.cell (p := ⟨b, off + i, none⟩) hb).trans hcc⟩)
  go_at_call 25
  refine hsf.mono ?_
  rintro e w3 ⟨v3, Y, rfl, hp, hs, hrow, hb3⟩
  have hsz2 := hb2.size
  have hb3' := hb2.trans (hb3.mono hsz2)
  have hsrt := Lib.hid (srt_of hp hs)
  have hYl := hp.length_eq
  have HPERM := Lib.hid hp
  clear hsf HCE HCK hb3 hp hs
  rcases hrow with ⟨rfl, rfl⟩ | ⟨g, c, rfl, hYc, hcm, hgw, hgs, hr⟩
  · go_wp2_with fail
    go_at_call 27
    refine (compact_nil w3).mono ?_
    rintro e w4 ⟨rfl, rfl⟩
    go_wp2_with fail
    go_rounds 1
    go_ret2
    exact ⟨_, [], rfl, .inl ⟨rfl, rfl⟩, hsrt.out, fun x hx => by simp at hx, .inl ⟨rfl, rfl⟩, hb3'⟩
  · have hcp0 := compact_any Y g c w3 hb3' (by omega) hgs (by omega) hYc hcm hr
    have hZl := cpt_len Y Y.length
    have hsrt0 := hsrt.out
    have hzv : ∀ x ∈ cpt Y Y.length, x.ss.length ≤ 32 := fun x hx => HVAL.out x (HPERM.out.mem_iff.1 (cpt_mem Y _ x hx))
    obtain ⟨Z, hZ⟩ : ∃ Z, cpt Y Y.length = Z := ⟨_, rfl⟩
    rw [hZ] at hcp0 hZl hsrt0 hzv
    have HZV := Lib.hid hzv
    clear hzv
    clear hZ hsrt
    have hcp := Lib.hid hcp0; have hsrt := Lib.hid hsrt0
    have hY256 : Y.length ≤ 256 := by omega
    have hcm' : c ≤ 9223372036854775807 := hcm
    have HCM := Lib.hid hcm
    have hgw' : w.heap.size ≤ g := by omega
    have hz1 : Z.length ≤ 256 := by omega
    have hzc : Z.length ≤ c := by omega
    have HB3 := Lib.hid hb3'
    clear hr hcm hcp0 hsrt0 hb1 hb2 hb3' hYl
    go_wp2_with fail
    go_at_call 27
    refine hcp.out.mono ?_
    rintro e w4 ⟨rfl, hr4, hb4⟩
    have hb4' := HB3.out.trans (hb4.mono (by omega))
    have hgs4 : g < w4.heap.size := by have := hb4.size; omega
    have HR4 := Lib.hid hr4; have HB4 := Lib.hid hb4'
    clear hcp hb4 hb4' HB3 hr4
    go_wp2_with fail
    clear hZl hYc hY256
    go_loopw [23] (fun i wr => ∃ (k : Nat) (N : List Value), N.length = k ∧ k ≤ Z.length ∧ i = .int .i64 (k : Int) ∧ (∀ j (h : j < N.length) (h' : j < Z.length), wr.cell? ⟨g, j, none⟩ = some N[j] ∧ Own wr (g + 1) N[j] Z[j].ss) ∧ (∀ j (h : j < Z.length), k ≤ j → wr.cell? ⟨g, j, none⟩ = some Z[j].v) ∧ (∀ j, j < Z.length → wr.frozen? ⟨g, j, none⟩ = false) ∧ Below w.heap.size w wr ∧ g < wr.heap.size) (fun i _ => Z.length - (intOf i).toNat)
    case atStart =>
      have hh := HR4.out
      exact ⟨0, [], rfl, by omega, rfl, fun j h => by simp at h, fun j h _ => (hh j h).1, fun j h => (hh j h).2, HB4.out, hgs4⟩
    case round =>
      clear HR4 HB4 hgs4 hgs
      obtain ⟨k, N, hN, hk, rfl, hlo, hhi, hfz, hw, hgr⟩ := hrel
      have HLO := Lib.hid hlo; have HHI := Lib.hid hhi; have HFZ := Lib.hid hfz; have HN := Lib.hid hN
      clear hlo hN
      by_cases hlt : k < Z.length
      · have ha := hhi k hlt (Nat.le_refl _)
        have HW := Lib.hid (Z[k].h)
        obtain ⟨so, sc, hsv, hsl, hsm, -⟩ := Z[k].h.open
        have HSV := Lib.hid hsv
        rw [hsv] at ha HW
        have hf := hfz k hlt
        have hlen : Z[k].ss.length ≤ 1000000000000 := Nat.le_trans (HZV.out _ (List.getElem_mem hlt)) (by decide)
        have HLEN := Lib.hid hlen
        generalize hsn : Z[k].ss.length = sn at *
        have HSN := Lib.hid hsn
        clear hhi hfz hsv hsl hsm hlen hsn
        go_wp2_with fail
        go_at_call 29
        refine Makes.then (clone_any Z[k].ss _ _ (by rw [HSN.out]; exact HLEN.out) (by have := HW.out.below hw; exact this)) ?_
        intro v5 w5 ho5 hb5
        obtain ⟨ao5, cap5, hv5, -, -, -⟩ := ho5.wd.open
        subst hv5
        have hf5 := (hb5.frozen (p := ⟨g, k, none⟩) hgr).trans hf
        have ha5 := (hb5.cell (p := ⟨g, k, none⟩) hgr).trans ha
        have HB5 := Lib.hid hb5; have HO5 := Lib.hid ho5
        clear hb5 ho5 ha hf
        go_wp2_with fail
        go_roundw
        case rel =>
          have hbw := hw.trans (HB5.out.mono hw.size)
          have hsz5 := HB5.out.size
          have hNk := HN.out
          refine ⟨k + 1, N ++ [.slice ao5 Z[k].ss.length cap5], by simp [hNk], by omega, by go_num, fun j h h' => ?_, fun j h h' => ?_, fun j h => ?_, hbw.setCell (p := ⟨g, k, none⟩) hgw' _, by rw [World.size_setCell]; omega⟩
          · by_cases hj : j < N.length
            · obtain ⟨q1, q2⟩ := HLO.out j hj h'
              rw [World.cell?_setCell_other _ ⟨g, k, none⟩ ⟨g, j, none⟩ _ (by simp <;> omega), List.getElem_append_left hj]
              exact ⟨(HB5.out.cell (p := ⟨g, j, none⟩) hgr).trans q1, ownsRow_setCell_below (q2.below HB5.out) (by simp only []; omega) _⟩
            · obtain rfl : j = k := by simp at h; omega
              rw [World.cell?_setCell_same' _ _ _ (by rw [ha5]; rfl), List.getElem_append_right (by omega)]
              have e0 : ∀ (i : Nat) (hi : i < [Value.slice ao5 Z[j].ss.length cap5].length), [Value.slice ao5 Z[j].ss.length cap5][i] = .slice ao5 Z[j].ss.length cap5 := fun i hi => by
                match i, hi with
                | 0, _ => rfl
              rw [e0]
              exact ⟨rfl, ownsRow_setCell_below (HO5.out.mono (by omega)) (by simp only []; omega) _⟩
          · rw [World.cell?_setCell_other _ ⟨g, k, none⟩ ⟨g, j, none⟩ _ (by simp <;> omega)]
            exact (HB5.out.cell (p := ⟨g, j, none⟩) hgr).trans (HHI.out j h (by omega))
          · rw [World.frozen?_setCell]
            exact (HB5.out.frozen (p := ⟨g, j, none⟩) hgr).trans (HFZ.out j h)
        case measure => simp [intOf]; omega
      · obtain rfl : k = Z.length := by omega
        have hNk := HN.out
        have hll : (N.zip (Z.map WE.ss)).length = Z.length := by simp [hNk]
        have hws : Ws wr (.slice (some ⟨g, 0, none⟩) Z.length c) (N.zip (Z.map WE.ss)) := by
          refine .inr ⟨g, 0, c, by rw [hll], by omega, HCM.out, hgr, fun i hi => ?_⟩
          have hi' : i < Z.length := by omega
          obtain ⟨q1, q2⟩ := HLO.out i (by omega) hi'
          rw [Nat.zero_add, List.getElem_zip]
          simp only [List.getElem_map]
          exact ⟨q1, q2.wd⟩
        have hown : ∀ x ∈ N.zip (Z.map WE.ss), Own wr w.heap.size x.1 x.2 := fun x hx => by
          obtain ⟨i, hi, rfl⟩ := List.mem_iff_getElem.1 hx
          have hi' : i < Z.length := by omega
          obtain ⟨q1, q2⟩ := HLO.out i (by omega) hi'
          rw [List.getElem_zip]
          simp only [List.getElem_map]
          exact q2.mono (by omega)
        have hsn : (N.zip (Z.map WE.ss)).map (·.2) = srt (L.map WE.ss) := by
          rw [← hsrt.out]
          exact List.map_snd_zip (by simp [hNk])
        have hhd : Hdr wr w.heap.size (.slice (some ⟨g, 0, none⟩) Z.length c) (N.zip (Z.map WE.ss)) := by
          refine .inr ⟨g, c, by rw [hll], hgw', hgr, fun i hi => ?_⟩
          have hi' : i < Z.length := by omega
          obtain ⟨q1, q2⟩ := HLO.out i (by omega) hi'
          rw [List.getElem_zip]
          simp only [List.getElem_map]
          exact ⟨q1, q2⟩
        have H4 := Lib.hid hhd
        have H1 := Lib.hid hws; have H2 := Lib.hid hown; have H3 := Lib.hid hsn
        clear hws hown hsn hhd hll hhi hfz HLO HHI HFZ hNk
        go_wp2_with fail
        go_ret2
        exact ⟨_, _, rfl, H1.out, H3.out, H2.out, H4.out, hw⟩
end
end Go.Proofs.Ytfjngkdpembdcaa
