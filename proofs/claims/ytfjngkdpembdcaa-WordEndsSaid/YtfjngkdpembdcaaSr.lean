/-
  The specification's Sort.
-/
import Derived.Test.YtfjngkdpembdcaaSv
import Derived.Test.YtfjngkdpembdcaaSm
import Derived.Test.YtfjngkdpembdcaaHk0
import Derived.Test.YtfjngkdpembdcaaZb
import Derived.Test.YtfjngkdpembdcaaZa
import Derived.Test.YtfjngkdpembdcaaRa
import Derived.BigQuiet
namespace Go.Proofs.Ytfjngkdpembdcaa
open Go.RowKit Go.Sort
set_option maxHeartbeats 1000000 in
theorem rsort_many (l : List (Value × List Snd)) (v : Value) (w : World) (hl : 256 < l.length) (h : Ws w v l) : Calls Try.prog 9 #[v] w fun e w' => e = .returned (.tuple #[.slice none 0 0, .int .i64 12]) ∧ Below w.heap.size w w' := by
  obtain ⟨ao, cap, rfl, -, -, -⟩ := h.open
  clear h
  go_enter Try.func9, Try.ntmps9
  go_wp2_with fail
  go_ret2
  exact ⟨rfl, by go_grown⟩
set_option maxHeartbeats 2000000 in
theorem rsort_bad (l : List (Value × List Snd)) (v : Value) (w : World) (hl : l.length ≤ 256) (hc : ¬ cke l = 0) (h : Ws w v l) : Calls Try.prog 9 #[v] w fun e w' => e = .returned (.tuple #[.slice none 0 0, .int .i64 (cke l)]) ∧ Below w.heap.size w w' := by
  obtain ⟨ao, cap, rfl, c1, m1, H1⟩ := h.open
  clear h c1 m1
  have H1 := Lib.hid H1
  generalize hC : cke l = C at *
  have HC := Lib.hid hC; have HN := Lib.hid hc
  clear hC hc
  go_enter Try.func9, Try.ntmps9
  go_wp2_with fail
  go_loopw [4] (fun i wr => ∃ k : Nat, k ≤ l.length ∧ i = .int .i64 (k : Int) ∧ cke (l.drop k) = C ∧ Below w.heap.size w wr ∧ w.heap.size ≤ wr.heap.size) (fun i _ => l.length - (intOf i).toNat)
  case atStart => exact ⟨0, by omega, rfl, HC.out, by go_grown, by go_size⟩
  case round =>
    clear HC
    obtain ⟨k, hk, rfl, hp, hw, hsz⟩ := hrel
    by_cases hlt : k < l.length
    · obtain ⟨b, off, rfl, lb, d0, dw⟩ := H1.out k hlt
      have d0 := (hw.cell (p := ⟨b, off + k, none⟩) lb).trans d0
      have dw := dw.below (hw.mono (Nat.le_refl _))
      rw [cke_step hlt] at hp
      have HP := Lib.hid hp
      clear H1 hp
      generalize hx : l[k] = x at *
      obtain ⟨u, ss⟩ := x
      have HK := Lib.hid (rcheck_any ss u wr dw)
      have HP := HP.out
      simp only at HP HK d0
      generalize chk ss = c at *
      by_cases hc : c = 0
      · rw [if_pos hc] at HP
        have HP := Lib.hid HP
        subst hc
        clear dw hx
        go_wp2_with fail
        go_at_call 30
        with_reducible refine Gives.then HK.out ?_
        intro w1 hb
        go_wp2_with fail
        have hw2 := hw.trans (hb.mono hsz)
        go_roundw
        case rel => exact ⟨k + 1, by omega, by go_num, HP.out, hw2, hw2.size⟩
        case measure => simp [intOf]; omega
      · rw [if_neg hc] at HP
        subst HP
        have hb1 : (c == 0) = false := by simpa using hc
        have hb2 : (c != 0) = true := by simpa using hc
        clear dw hx HN hc
        go_wp2_with fail
        go_at_call 30
        with_reducible refine Gives.then HK.out ?_
        intro w1 hb
        go_wp2_with fail
        go_ret2
        exact ⟨rfl, hw.trans (hb.mono hsz)⟩
    · rw [List.drop_of_length_le (by omega)] at hp
      exact absurd hp.symm HN.out
set_option maxHeartbeats 16000000 in
set_option maxRecDepth 100000 in
theorem rsort_any (l : List (Value × List Snd)) (v : Value) (w0 : World) (hl : l.length ≤ 256) (hc : cke l = 0) (h : Ws w0 v l) : Calls Try.prog 9 #[v] w0 fun e w' => ∃ (v' : Value) (l' : List (Value × List Snd)), e = .returned (.tuple #[v', .int .i64 0]) ∧ OwnL w' w0.heap.size v' l' ∧ l'.map (·.2) = srt (l.map (·.2)) ∧ Below w0.heap.size w0 w' := by
  have hck := cke_zero hc
  obtain ⟨ao, cap, rfl, c1, m1, H1⟩ := h.open
  have HS := Lib.hid h
  clear h c1 m1 hc
  have H1 := Lib.hid H1; have HCK := Lib.hid hck; clear hck
  obtain ⟨n, hn⟩ : ∃ n, l.length = n := ⟨_, rfl⟩
  have HN := Lib.hid hn
  rw [hn] at hl ⊢
  clear hn
  go_enter Try.func9, Try.ntmps9
  go_wp2_with fail
  go_loopw [4] (fun i wr => ∃ k : Nat, k ≤ n ∧ i = .int .i64 (k : Int) ∧ Below w0.heap.size w0 wr ∧ w0.heap.size ≤ wr.heap.size) (fun i _ => n - (intOf i).toNat)
  case atStart => exact ⟨0, by omega, rfl, by go_grown, by go_size⟩
  case round =>
    obtain ⟨k, hk, rfl, hw, hsz⟩ := hrel
    by_cases hlt : k < n
    · have hlt' : k < l.length := by rw [HN.out]; exact hlt
      obtain ⟨b, off, rfl, lb, d0, dw⟩ := H1.out k hlt'
      have d0 := (hw.cell (p := ⟨b, off + k, none⟩) lb).trans d0
      replace dw := dw.below hw
      have HK := rcheck_any _ _ wr dw
      rw [HCK.out _ (List.getElem_mem hlt')] at HK
      have HK := Lib.hid HK
      clear H1 dw HS HCK
      generalize l[k].1 = u at *
      clear hlt'
      go_wp2_with fail
      go_at_call 30
      with_reducible refine Gives.then HK.out ?_
      intro w1 hb
      go_wp2_with fail
      have hw2 := hw.trans (hb.mono hsz)
      go_roundw
      case rel => exact ⟨k + 1, by omega, by go_num, hw2, hw2.size⟩
      case measure => simp [intOf]; omega
    · obtain rfl : k = n := by omega
      clear hlt hk H1
      obtain ⟨w1, hw1⟩ : ∃ w1, w1 = wr := ⟨_, rfl⟩
      subst hw1
      have HW1 := Lib.hid hw
      go_wp2_with fail
      go_loopw [6] (fun v wr => ∃ o : List (Value × List Snd), OwnL wr w0.heap.size v o ∧ Part (l.map (·.2)) (o.map (·.2)) ∧ lenV v = o.length ∧ Below w0.heap.size w0 wr ∧ w0.heap.size ≤ wr.heap.size) (fun v _ => k - lenV v)
      case atStart => exact ⟨[], OwnL.nil _ _, Part.nil _, rfl, hw, hsz⟩
      case round =>
        clear hw hsz HW1
        obtain ⟨o, ho, hp, hlv, hw, hsz⟩ := hrel
        obtain ⟨w, hww⟩ : ∃ w, w = wr := ⟨_, rfl⟩
        subst hww
        obtain ⟨oo, oc, rfl⟩ := ho.slice
        have hol : o.length ≤ k := by have := hp.len; rw [List.length_map, List.length_map, HN.out] at this; exact this
        obtain ⟨p, hpp⟩ : ∃ p, o.length = p := ⟨_, rfl⟩
        have HPP := Lib.hid hpp
        rw [hpp] at ho hol ⊢
        have HO := Lib.hid ho; have HP := Lib.hid hp
        have HLV := Lib.hid hlv
        clear ho hp hlv
        have HWB := Lib.hid hw; have HSZ := Lib.hid hsz
        clear hpp
        by_cases hlt : p < k
        · obtain ⟨-, -, H1⟩ := (show Ws w0 (.slice ao k cap) l by rw [← HN.out]; exact HS.out).below hw |>.get
          obtain ⟨-, -, H2⟩ := HO.out.ws.get
          have H1 := Lib.hid H1; have H2 := Lib.hid H2
          clear hw hsz
          go_wp2_with fail
          go_loopw [8, 7] (fun i b wr => ∃ (q : Nat) (m : Int), i = .int .i64 (q : Int) ∧ b = .int .i64 m ∧ q ≤ k ∧ Best (l.map (·.2)) (o.map (·.2)) q m ∧ Below w.heap.size w wr ∧ w.heap.size ≤ wr.heap.size) (fun i _ _ => k - (intOf i).toNat)
          case atStart => exact ⟨0, -1, rfl, rfl, by omega, Best.zero _ _, by go_grown, by go_size⟩
          case round =>
            obtain ⟨q, m, rfl, rfl, hq, hbest, hw, hsz⟩ := hrel
            have hform := hbest.form
            by_cases hqk : q < k
            · have hql : q < l.length := by rw [HN.out]; exact hqk
              have hqX : q < (l.map (·.2)).length := by rw [List.length_map]; exact hql
              have eX : (l.map (·.2))[q]'hqX = l[q].2 := List.getElem_map ..
              obtain ⟨b, off, hax, lb, d0, dx⟩ := H1.out q hql
              have HD := Lib.hid d0; have HX := Lib.hid dx
              have d0 := (hw.cell (p := ⟨b, off + q, none⟩) lb).trans d0
              generalize l[q].1 = x at *
              generalize l[q].2 = xs at *
              clear dx
              by_cases hp0 : 0 < p
              · have g1 : decide ((0 : Int) < (p : Int)) = true := decide_eq_true (by omega)
                have g2 : decide (0 < p) = true := decide_eq_true hp0
                have hpl : p - 1 < o.length := by rw [HPP.out]; omega
                obtain ⟨b1, off1, haz, lb1, f0, dz⟩ := H2.out (p - 1) hpl
                have f0 := (hw.cell (p := ⟨b1, off1 + (p - 1), none⟩) lb1).trans f0
                have hO : 0 < (o.map (·.2)).length := by rw [List.length_map, HPP.out]; exact hp0
                have elast : lastW (o.map (·.2)) = o[p - 1].2 := by
                  unfold lastW
                  rw [List.length_map, HPP.out, List.getElem?_map, List.getElem?_eq_getElem hpl]; rfl
                have hord := fun W (hb : Below w.heap.size w W) => rorder_any xs o[p - 1].2 x o[p - 1].1 W (HX.out.below hb) (dz.below hb)
                have hno := gt_no (x := (l.map (·.2))[q]'hqX) hO
                have hyes := gt_yes (out := o.map (·.2)) (x := (l.map (·.2))[q]'hqX)
                rw [elast, eX] at hno hyes
                rw [← eX] at hno hyes
                rw [eX] at hno hyes
                generalize o[p - 1].1 = z at *
                generalize o[p - 1].2 = zs at *
                generalize ordW xs zs = c at *
                have HORD := Lib.hid hord
                clear hord dz elast hO hpl
                have HEX := Lib.hid eX
                by_cases hc : c ≤ 0
                · have g4 : decide (c ≤ 0) = true := decide_eq_true hc
                  have hsk := hbest.skip hqX (by rw [eX]; exact hno hc)
                  have HBF := Lib.hid hsk
                  clear hsk hbest hno hyes eX HEX hform
                  cases hax
                  cases haz
                  go_wp2_with fail
                  refine wp_gen ?_
                  intro W1 hW1
                  have hw1 : Below w.heap.size w W1 := by rw [hW1]; go_grown
                  have hz1 : w.heap.size ≤ W1.heap.size := by rw [hW1]; go_size
                  have c0 : W1.cell? ⟨b, off + q, none⟩ = some (x) := by rw [hW1]; first | assumption | go_cell | (go_simp; done) | exact cell_past (by first | assumption | omega) (by assumption)
                  have c1 : W1.cell? ⟨b1, off1 + (p - 1), none⟩ = some (z) := by rw [hW1]; first | assumption | go_cell | (go_simp; done) | exact cell_past (by first | assumption | omega) (by assumption)
                  clear hW1
                  have k0 := cell_regrown c0
                  have k1 := cell_regrown c1
                  refine wp_region_quiet_below (by kernel_rfl) (by kernel_rfl) ?_
                  try simp only [List.append]
                  repeat (go_big_quiet_step (first | (go_at_call 31; with_reducible exact Calls.regrown_of (HORD.out _ (hw1.trans ((below_regrown _ _ _).mono hw1.size))))))
                  refine wpQuiet_nil ?_
                  intro w2 hw2
                  have hb : Below W1.heap.size W1 w2 := by obtain ⟨q, rfl⟩ := hw2; exact below_regrown _ _ _
                  clear hw2
                  clear k0 k1
                  have hw := chain hw1 (by omega) hb
                  obtain ⟨hc, hf, hz⟩ := bcell hb
                  clear hb
                  try have r0 : w2.cell? ⟨b, off + q, none⟩ = some (x) := (hc _ _ (by omega)).trans c0
                  try have r1 : w2.cell? ⟨b1, off1 + (p - 1), none⟩ = some (z) := (hc _ _ (by omega)).trans c1
                  go_wp2_with fail
                  have hsz2 := hw.size
                  go_roundw
                  case rel => exact ⟨q + 1, m, by go_num, rfl, by omega, HBF.out, hw, hsz2⟩
                  case measure => simp [intOf]; omega
                · have g4 : decide (c ≤ 0) = false := decide_eq_false hc
                  have hg : Gt (o.map (·.2)) ((l.map (·.2))[q]'hqX) := by rw [eX]; exact hyes hc
                  have HG := Lib.hid hg; have HB := Lib.hid hbest
                  clear hg hbest hno hyes eX
                  subst haz
                  go_wp2_with fail
                  refine wp_gen ?_
                  intro W1 hW1
                  have hw1 : Below w.heap.size w W1 := by rw [hW1]; go_grown
                  have hz1 : w.heap.size ≤ W1.heap.size := by rw [hW1]; go_size
                  have c0 : W1.cell? ⟨b, off + q, none⟩ = some (x) := by rw [hW1]; first | assumption | go_cell | (go_simp; done) | exact cell_past (by first | assumption | omega) (by assumption)
                  have c1 : W1.cell? ⟨b1, off1 + (p - 1), none⟩ = some (z) := by rw [hW1]; first | assumption | go_cell | (go_simp; done) | exact cell_past (by first | assumption | omega) (by assumption)
                  clear hW1
                  have k0 := cell_regrown c0
                  have k1 := cell_regrown c1
                  refine wp_region_quiet_below (by kernel_rfl) (by kernel_rfl) ?_
                  try simp only [List.append]
                  repeat (go_big_quiet_step (first | (go_at_call 31; with_reducible exact Calls.regrown_of (HORD.out _ (hw1.trans ((below_regrown _ _ _).mono hw1.size))))))
                  refine wpQuiet_nil ?_
                  intro w2 hw2
                  have hb : Below W1.heap.size W1 w2 := by obtain ⟨q, rfl⟩ := hw2; exact below_regrown _ _ _
                  clear hw2
                  clear k0 k1
                  have hw := chain hw1 (by omega) hb
                  obtain ⟨hc, hf, hz⟩ := bcell hb
                  clear hb
                  try have r0 : w2.cell? ⟨b, off + q, none⟩ = some (x) := (hc _ _ (by omega)).trans c0
                  try have r1 : w2.cell? ⟨b1, off1 + (p - 1), none⟩ = some (z) := (hc _ _ (by omega)).trans c1
                  clear g1 g2 g4 HORD
                  cases hax
                  rcases hform with rfl | ⟨m', rfl, hm'⟩
                  · have HBF := Lib.hid (HB.out.first hqX HG.out)
                    clear HB HG
                    go_wp2_with fail
                    refine wp_gen ?_
                    intro W1 hW1
                    have hw1 : Below w.heap.size w W1 := by rw [hW1]; go_grown
                    have hz1 : w.heap.size ≤ W1.heap.size := by rw [hW1]; go_size
                    clear hW1
                    refine wp_region_quiet_below (by kernel_rfl) (by kernel_rfl) ?_
                    try simp only [List.append]
                    repeat (go_big_quiet_step (first | exact Calls.regrown_of (fail)))
                    refine wpQuiet_nil ?_
                    intro w2 hw2
                    have hb : Below W1.heap.size W1 w2 := by obtain ⟨q, rfl⟩ := hw2; exact below_regrown _ _ _
                    clear hw2
                    have hw := chain hw1 (by omega) hb
                    obtain ⟨hc, hf, hz⟩ := bcell hb
                    clear hb
                    go_wp2_with fail
                    have hsz2 := hw.size
                    go_roundw
                    case rel => exact ⟨q + 1, (q : Int), by go_num, rfl, by omega, HBF.out, hw, hsz2⟩
                    case measure => simp [intOf]; omega
                  · have hml : m' < l.length := by rw [List.length_map] at hm'; exact hm'
                    have eM : (l.map (·.2))[m']'hm' = l[m'].2 := List.getElem_map ..
                    have eX : (l.map (·.2))[q]'hqX = xs := HEX.out
                    obtain ⟨b2, off2, hay, lb2, e0, dy⟩ := H1.out m' hml
                    have d0 := (hw.cell (p := ⟨b, off + q, none⟩) lb).trans HD.out
                    have e0 := (hw.cell (p := ⟨b2, off2 + m', none⟩) lb2).trans e0
                    have hord := fun W (hb : Below w.heap.size w W) => rorder_any xs l[m'].2 x l[m'].1 W (HX.out.below hb) (dy.below hb)
                    have htk := fun hk => HB.out.take hqX hm' HG.out hk
                    have hkp := fun hk => HB.out.keep hqX hm' hk
                    rw [eM, eX] at htk hkp
                    have g3 : decide ((m' : Int) < 0) = false := decide_eq_false (by omega)
                    have hmk : m' < k := by rw [← HN.out]; exact hml
                    generalize l[m'].1 = y at *
                    generalize l[m'].2 = ys at *
                    generalize ordW xs ys = c at *
                    have HORD := Lib.hid hord
                    have HTK := Lib.hid htk; have HKP := Lib.hid hkp
                    clear hord htk hkp dy eM eX hm' hml HB HG H1
                    cases hay
                    by_cases hc : c < 0
                    · have g4 : decide (c < 0) = true := decide_eq_true hc
                      have HBF := Lib.hid (HTK.out hc)
                      clear HTK HKP
                      go_wp2_with fail
                      refine wp_gen ?_
                      intro W1 hW1
                      have hw1 : Below w.heap.size w W1 := by rw [hW1]; go_grown
                      have hz1 : w.heap.size ≤ W1.heap.size := by rw [hW1]; go_size
                      have c0 : W1.cell? ⟨b, off + q, none⟩ = some (x) := by rw [hW1]; first | assumption | go_cell | (go_simp; done) | exact cell_past (by first | assumption | omega) (by assumption)
                      have c1 : W1.cell? ⟨b, off + m', none⟩ = some (y) := by rw [hW1]; first | assumption | go_cell | (go_simp; done) | exact cell_past (by first | assumption | omega) (by assumption)
                      clear hW1
                      have k0 := cell_regrown c0
                      have k1 := cell_regrown c1
                      refine wp_region_quiet_below (by kernel_rfl) (by kernel_rfl) ?_
                      try simp only [List.append]
                      repeat (go_big_quiet_step (first | (go_at_call 31; with_reducible exact Calls.regrown_of (HORD.out _ (hw1.trans ((below_regrown _ _ _).mono hw1.size))))))
                      refine wpQuiet_nil ?_
                      intro w2 hw2
                      have hb : Below W1.heap.size W1 w2 := by obtain ⟨q, rfl⟩ := hw2; exact below_regrown _ _ _
                      clear hw2
                      clear k0 k1
                      have hw := chain hw1 (by omega) hb
                      obtain ⟨hc, hf, hz⟩ := bcell hb
                      clear hb
                      try have r0 : w2.cell? ⟨b, off + q, none⟩ = some (x) := (hc _ _ (by omega)).trans c0
                      try have r1 : w2.cell? ⟨b, off + m', none⟩ = some (y) := (hc _ _ (by omega)).trans c1
                      go_wp2_with fail
                      have hsz2 := hw.size
                      go_roundw
                      case rel => exact ⟨q + 1, (q : Int), by go_num, rfl, by omega, HBF.out, hw, hsz2⟩
                      case measure => simp [intOf]; omega
                    · have g4 : decide (c < 0) = false := decide_eq_false hc
                      have HBF := Lib.hid (HKP.out hc)
                      clear HTK HKP
                      go_wp2_with fail
                      refine wp_gen ?_
                      intro W1 hW1
                      have hw1 : Below w.heap.size w W1 := by rw [hW1]; go_grown
                      have hz1 : w.heap.size ≤ W1.heap.size := by rw [hW1]; go_size
                      have c0 : W1.cell? ⟨b, off + q, none⟩ = some (x) := by rw [hW1]; first | assumption | go_cell | (go_simp; done) | exact cell_past (by first | assumption | omega) (by assumption)
                      have c1 : W1.cell? ⟨b, off + m', none⟩ = some (y) := by rw [hW1]; first | assumption | go_cell | (go_simp; done) | exact cell_past (by first | assumption | omega) (by assumption)
                      clear hW1
                      have k0 := cell_regrown c0
                      have k1 := cell_regrown c1
                      refine wp_region_quiet_below (by kernel_rfl) (by kernel_rfl) ?_
                      try simp only [List.append]
                      repeat (go_big_quiet_step (first | (go_at_call 31; with_reducible exact Calls.regrown_of (HORD.out _ (hw1.trans ((below_regrown _ _ _).mono hw1.size))))))
                      refine wpQuiet_nil ?_
                      intro w2 hw2
                      have hb : Below W1.heap.size W1 w2 := by obtain ⟨q, rfl⟩ := hw2; exact below_regrown _ _ _
                      clear hw2
                      clear k0 k1
                      have hw := chain hw1 (by omega) hb
                      obtain ⟨hc, hf, hz⟩ := bcell hb
                      clear hb
                      try have r0 : w2.cell? ⟨b, off + q, none⟩ = some (x) := (hc _ _ (by omega)).trans c0
                      try have r1 : w2.cell? ⟨b, off + m', none⟩ = some (y) := (hc _ _ (by omega)).trans c1
                      go_wp2_with fail
                      have hsz2 := hw.size
                      go_roundw
                      case rel => exact ⟨q + 1, (m' : Int), by go_num, rfl, by omega, HBF.out, hw, hsz2⟩
                      case measure => simp [intOf]; omega
              · have g1 : decide ((0 : Int) < (p : Int)) = false := decide_eq_false (by omega)
                have g2 : decide (0 < p) = false := decide_eq_false hp0
                have hg : Gt (o.map (·.2)) ((l.map (·.2))[q]'hqX) := gt_nil (by rw [List.length_map, HPP.out]; exact hp0)
                have HG := Lib.hid hg; have HB := Lib.hid hbest; have HEX := Lib.hid eX
                clear hg hbest eX hp0
                go_wp2_with fail
                refine wp_gen ?_
                intro W1 hW1
                have hw1 : Below w.heap.size w W1 := by rw [hW1]; go_grown
                have hz1 : w.heap.size ≤ W1.heap.size := by rw [hW1]; go_size
                clear hW1
                refine wp_region_quiet_below (by kernel_rfl) (by kernel_rfl) ?_
                try simp only [List.append]
                repeat (go_big_quiet_step (first | exact Calls.regrown_of (fail)))
                refine wpQuiet_nil ?_
                intro w2 hw2
                have hb : Below W1.heap.size W1 w2 := by obtain ⟨q, rfl⟩ := hw2; exact below_regrown _ _ _
                clear hw2
                have hw := chain hw1 (by omega) hb
                obtain ⟨hc, hf, hz⟩ := bcell hb
                clear hb
                clear g1 g2
                cases hax
                rcases hform with rfl | ⟨m', rfl, hm'⟩
                · have HBF := Lib.hid (HB.out.first hqX HG.out)
                  clear HB HG
                  go_wp2_with fail
                  refine wp_gen ?_
                  intro W1 hW1
                  have hw1 : Below w.heap.size w W1 := by rw [hW1]; go_grown
                  have hz1 : w.heap.size ≤ W1.heap.size := by rw [hW1]; go_size
                  clear hW1
                  refine wp_region_quiet_below (by kernel_rfl) (by kernel_rfl) ?_
                  try simp only [List.append]
                  repeat (go_big_quiet_step (first | exact Calls.regrown_of (fail)))
                  refine wpQuiet_nil ?_
                  intro w2 hw2
                  have hb : Below W1.heap.size W1 w2 := by obtain ⟨q, rfl⟩ := hw2; exact below_regrown _ _ _
                  clear hw2
                  have hw := chain hw1 (by omega) hb
                  obtain ⟨hc, hf, hz⟩ := bcell hb
                  clear hb
                  go_wp2_with fail
                  have hsz2 := hw.size
                  go_roundw
                  case rel => exact ⟨q + 1, (q : Int), by go_num, rfl, by omega, HBF.out, hw, hsz2⟩
                  case measure => simp [intOf]; omega
                · have hml : m' < l.length := by rw [List.length_map] at hm'; exact hm'
                  have eM : (l.map (·.2))[m']'hm' = l[m'].2 := List.getElem_map ..
                  have eX : (l.map (·.2))[q]'hqX = xs := HEX.out
                  obtain ⟨b2, off2, hay, lb2, e0, dy⟩ := H1.out m' hml
                  have d0 := (hw.cell (p := ⟨b, off + q, none⟩) lb).trans HD.out
                  have e0 := (hw.cell (p := ⟨b2, off2 + m', none⟩) lb2).trans e0
                  have hord := fun W (hb : Below w.heap.size w W) => rorder_any xs l[m'].2 x l[m'].1 W (HX.out.below hb) (dy.below hb)
                  have htk := fun hk => HB.out.take hqX hm' HG.out hk
                  have hkp := fun hk => HB.out.keep hqX hm' hk
                  rw [eM, eX] at htk hkp
                  have g3 : decide ((m' : Int) < 0) = false := decide_eq_false (by omega)
                  have hmk : m' < k := by rw [← HN.out]; exact hml
                  generalize l[m'].1 = y at *
                  generalize l[m'].2 = ys at *
                  generalize ordW xs ys = c at *
                  have HORD := Lib.hid hord
                  have HTK := Lib.hid htk; have HKP := Lib.hid hkp
                  clear hord htk hkp dy eM eX hm' hml HB HG H1
                  cases hay
                  by_cases hc : c < 0
                  · have g4 : decide (c < 0) = true := decide_eq_true hc
                    have HBF := Lib.hid (HTK.out hc)
                    clear HTK HKP
                    go_wp2_with fail
                    refine wp_gen ?_
                    intro W1 hW1
                    have hw1 : Below w.heap.size w W1 := by rw [hW1]; go_grown
                    have hz1 : w.heap.size ≤ W1.heap.size := by rw [hW1]; go_size
                    have c0 : W1.cell? ⟨b, off + q, none⟩ = some (x) := by rw [hW1]; first | assumption | go_cell | (go_simp; done) | exact cell_past (by first | assumption | omega) (by assumption)
                    have c1 : W1.cell? ⟨b, off + m', none⟩ = some (y) := by rw [hW1]; first | assumption | go_cell | (go_simp; done) | exact cell_past (by first | assumption | omega) (by assumption)
                    clear hW1
                    have k0 := cell_regrown c0
                    have k1 := cell_regrown c1
                    refine wp_region_quiet_below (by kernel_rfl) (by kernel_rfl) ?_
                    try simp only [List.append]
                    repeat (go_big_quiet_step (first | (go_at_call 31; with_reducible exact Calls.regrown_of (HORD.out _ (hw1.trans ((below_regrown _ _ _).mono hw1.size))))))
                    refine wpQuiet_nil ?_
                    intro w2 hw2
                    have hb : Below W1.heap.size W1 w2 := by obtain ⟨q, rfl⟩ := hw2; exact below_regrown _ _ _
                    clear hw2
                    clear k0 k1
                    have hw := chain hw1 (by omega) hb
                    obtain ⟨hc, hf, hz⟩ := bcell hb
                    clear hb
                    try have r0 : w2.cell? ⟨b, off + q, none⟩ = some (x) := (hc _ _ (by omega)).trans c0
                    try have r1 : w2.cell? ⟨b, off + m', none⟩ = some (y) := (hc _ _ (by omega)).trans c1
                    go_wp2_with fail
                    have hsz2 := hw.size
                    go_roundw
                    case rel => exact ⟨q + 1, (q : Int), by go_num, rfl, by omega, HBF.out, hw, hsz2⟩
                    case measure => simp [intOf]; omega
                  · have g4 : decide (c < 0) = false := decide_eq_false hc
                    have HBF := Lib.hid (HKP.out hc)
                    clear HTK HKP
                    go_wp2_with fail
                    refine wp_gen ?_
                    intro W1 hW1
                    have hw1 : Below w.heap.size w W1 := by rw [hW1]; go_grown
                    have hz1 : w.heap.size ≤ W1.heap.size := by rw [hW1]; go_size
                    have c0 : W1.cell? ⟨b, off + q, none⟩ = some (x) := by rw [hW1]; first | assumption | go_cell | (go_simp; done) | exact cell_past (by first | assumption | omega) (by assumption)
                    have c1 : W1.cell? ⟨b, off + m', none⟩ = some (y) := by rw [hW1]; first | assumption | go_cell | (go_simp; done) | exact cell_past (by first | assumption | omega) (by assumption)
                    clear hW1
                    have k0 := cell_regrown c0
                    have k1 := cell_regrown c1
                    refine wp_region_quiet_below (by kernel_rfl) (by kernel_rfl) ?_
                    try simp only [List.append]
                    repeat (go_big_quiet_step (first | (go_at_call 31; with_reducible exact Calls.regrown_of (HORD.out _ (hw1.trans ((below_regrown _ _ _).mono hw1.size))))))
                    refine wpQuiet_nil ?_
                    intro w2 hw2
                    have hb : Below W1.heap.size W1 w2 := by obtain ⟨q, rfl⟩ := hw2; exact below_regrown _ _ _
                    clear hw2
                    clear k0 k1
                    have hw := chain hw1 (by omega) hb
                    obtain ⟨hc, hf, hz⟩ := bcell hb
                    clear hb
                    try have r0 : w2.cell? ⟨b, off + q, none⟩ = some (x) := (hc _ _ (by omega)).trans c0
                    try have r1 : w2.cell? ⟨b, off + m', none⟩ = some (y) := (hc _ _ (by omega)).trans c1
                    go_wp2_with fail
                    have hsz2 := hw.size
                    go_roundw
                    case rel => exact ⟨q + 1, (m' : Int), by go_num, rfl, by omega, HBF.out, hw, hsz2⟩
                    case measure => simp [intOf]; omega
            · obtain rfl : q = k := by omega
              have HLT := Lib.hid hlt
              clear H2 hlt
              have hbe : Best (l.map (·.2)) (o.map (·.2)) (l.map (·.2)).length m := by rw [List.length_map, HN.out]; exact hbest
              clear hbest
              rcases hform with rfl | ⟨m', rfl, hm'⟩
              · have he := HP.out.end hbe
                have HE := Lib.hid he
                have hown := Lib.hid (HO.out.below hw)
                have hbw := Lib.hid (HWB.out.trans (hw.mono HSZ.out))
                clear he hbe H1
                go_wp2_with fail
                go_ret2
                exact ⟨_, o, rfl, hown.out, HE.out, hbw.out⟩
              · have hml : m' < l.length := by rw [List.length_map] at hm'; exact hm'
                have hmore := HP.out.more hm' hbe
                have eM : (l.map (·.2))[m']'hm' = l[m'].2 := List.getElem_map ..
                rw [eM] at hmore
                have h32 : l[m'].2.length ≤ 1000000000 := Nat.le_trans (chk_short (HCK.out _ (List.getElem_mem hml))) (by decide)
                obtain ⟨b, off, hax, lb, d0, dx⟩ := H1.out m' hml
                have d0 := (hw.cell (p := ⟨b, off + m', none⟩) lb).trans d0
                have dx := dx.below hw
                have HM := Lib.hid hmore; have HX := Lib.hid dx; have H32 := Lib.hid h32
                have HO2 := Lib.hid (HO.out.below hw)
                have HW2 := Lib.hid (HWB.out.trans (hw.mono HSZ.out))
                have hmk : m' < q := by rw [← HN.out]; exact hml
                have hle1 : w0.heap.size ≤ wr.heap.size := by have := HSZ.out; omega
                generalize l[m'].1 = x at *
                generalize l[m'].2 = xs at *
                clear hmore dx h32 eM hbe H1 hm' hml HO HWB HSZ HP
                cases hax
                obtain ⟨w2, hw2⟩ : ∃ w2, w2 = wr := ⟨_, rfl⟩
                subst hw2
                go_wp2_with fail
                go_at_call 7
                refine Makes.then (copy_any xs _ H32.out _ HX.out) ?_
                intro y w3 hy hb3
                have HW3 := Lib.hid (HW2.out.trans (hb3.mono hle1))
                obtain ⟨yo, yc, ey, -, -, -⟩ := hy.wd.open
                subst ey
                have hy1 := (hy.mono hle1).below ((Below.refl _ w3).alloc (Nat.le_refl _) (.cells #[.slice yo xs.length yc] 24))
                have ho1 := (HO2.out.below hb3).below ((Below.refl _ w3).alloc (Nat.le_refl _) (.cells #[.slice yo xs.length yc] 24))
                have HY := Lib.hid hy1; have HO3 := Lib.hid ho1
                have hle3 : w0.heap.size ≤ w3.heap.size := by have := hb3.size; omega
                have HOS := Lib.hid (show ((o.map (·.1)).length + [Value.slice yo xs.length yc].length ≤ 1000000000000) by rw [List.length_map, HPP.out]; simp; omega)
                clear hy hb3 hy1 ho1 hw hsz lb d0
                go_wp2_with (at_builtin; refine wpList_appV rfl (.tmp 72) (.tmp 78) rfl w0.heap.size (.slice oo p oc) (.slice (some ⟨w3.heap.size, 0, none⟩) 1 1) (List.map (fun z : Value × List Snd => z.1) o) [.slice yo xs.length yc] rfl rfl HO3.out.1 (Vs.one w3 yo xs.length yc) HOS.out (by rw [World.size_alloc]; omega) ?_; intro v' w4 ho4 hg4)
                have hbw4 := (HW3.out.alloc hle3 (.cells #[.slice yo xs.length yc] 24)).grown hg4 (by rw [World.size_alloc]; omega) (fun k e => HO3.out.row k e)
                have hol4 := OwnL.more HO3.out HY.out ho4 hg4
                have hlv4 : lenV v' = (o ++ [(Value.slice yo xs.length yc, xs)]).length := by obtain ⟨_, _, e⟩ := hol4.slice; rw [e]; rfl
                have HLV4 := Lib.hid hlv4
                have HL4 := Lib.hid hol4
                clear ho4 hg4 hol4 hlv4
                go_roundw
                case rel => exact ⟨_, HL4.out, by rw [List.map_append]; exact HM.out, HLV4.out, hbw4, hbw4.size⟩
                case measure => have hlt9 := HLT.out; rw [HLV4.out, List.length_append, HPP.out]; simp [lenV]; omega
        · have hf := HP.out.full (by rw [List.length_map, List.length_map, HN.out, HPP.out]; omega)
          have HF := Lib.hid hf
          clear hf
          go_wp2_with fail
          go_ret2
          first | exact ⟨_, o, rfl, HO.out, HF.out, hw⟩ | exact ⟨_, rfl, o, HO.out, HF.out, hw⟩
end Go.Proofs.Ytfjngkdpembdcaa
