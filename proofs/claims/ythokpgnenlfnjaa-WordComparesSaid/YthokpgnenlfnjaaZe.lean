/-
  The specification's Common.
-/
import Derived.Test.YthokpgnenlfnjaaHl2
import Derived.Test.YthokpgnenlfnjaaHh
import Derived.BigQuiet
namespace Go.Proofs.Ythokpgnenlfnjaa
open Go.RowKit Go.Sort
attribute [local go_sem ↓] snd_eql snd_neq
theorem Wd.from {w : World} {b off cap n : Nat} {ss : List Snd} (hc : ss.length ≤ cap) (hm : cap ≤ maxLen) (lb : b < w.heap.size) (h3 : ∀ i (h : i < ss.length), w.cell? ⟨b, off + i * 2, none⟩ = some (.int .u32 (ss[i].1.toNat : Int)) ∧ w.cell? ⟨b, off + i * 2 + 1, none⟩ = some (.int .u32 (ss[i].2.toNat : Int)))
    (hn : n ≤ ss.length) : Wd w (.slice (if cap = n then some ⟨b, off, none⟩ else some ⟨b, off + n * 2, none⟩) (ss.length - n) (cap - n)) (ss.drop n) := by
  by_cases h : cap = n
  · have e : n = ss.length := by omega
    rw [if_pos h]
    have := Wd.drop0 (cap := cap) (off := off) (ss := ss) (w := w) (b := b) hc lb
    rw [← h] at *
    rw [show ss.length - cap = 0 from by omega, Nat.sub_self]
    simpa using this
  · rw [if_neg h]
    have := Wd.drop (A := n) hn hc hm lb h3
    simpa using this
set_option maxHeartbeats 4000000 in
theorem rcommonMem_any (xs ys : List Snd) (b0 o0 cap b1 o1 cap' : Nat) (w : World) (c1 : xs.length ≤ cap) (m1 : cap ≤ maxLen) (lb0 : b0 < w.heap.size) (h3 : ∀ i (h : i < xs.length), w.cell? ⟨b0, o0 + i * 2, none⟩ = some (.int .u32 (xs[i].1.toNat : Int)) ∧ w.cell? ⟨b0, o0 + i * 2 + 1, none⟩ = some (.int .u32 (xs[i].2.toNat : Int)))
    (c2 : ys.length ≤ cap') (m2 : cap' ≤ maxLen) (lb1 : b1 < w.heap.size) (h4 : ∀ i (h : i < ys.length), w.cell? ⟨b1, o1 + i * 2, none⟩ = some (.int .u32 (ys[i].1.toNat : Int)) ∧ w.cell? ⟨b1, o1 + i * 2 + 1, none⟩ = some (.int .u32 (ys[i].2.toNat : Int))) :
    Gives 27 #[.slice (some ⟨b0, o0, none⟩) xs.length cap, .slice (some ⟨b1, o1, none⟩) ys.length cap'] w (.tuple #[.int .i64 (cpre xs ys : Nat), .int .i64 (csuf xs ys : Nat)]) := by
  unfold Gives
  have hX := fun n (hn : n ≤ xs.length) => Wd.from c1 m1 lb0 h3 hn
  have hY := fun n (hn : n ≤ ys.length) => Wd.from c2 m2 lb1 h4 hn
  have HX := Lib.hid hX; have HY := Lib.hid hY
  have H1 := Lib.hid h3; have H2 := Lib.hid h4
  have l1 := maxLen_lt m1; have l2 := maxLen_lt m2
  clear h3 h4 m1 m2 hX hY
  have hm0 : cpre xs ys = 0 + cpre (xs.drop 0) (ys.drop 0) := by simp
  have hs : csuf xs ys = cpre (xs.drop (cpre xs ys)).reverse (ys.drop (cpre xs ys)).reverse := rfl
  generalize hn : cpre xs ys = n at *
  generalize hm : csuf xs ys = m at *
  have HM0 := Lib.hid hm0; have HS := Lib.hid hs
  clear hm0 hs hn hm
  go_enter Try.func27, Try.ntmps27
  go_wp2_with fail
  go_loopw [6] (fun i wr => ∃ k : Nat, i = .int .i64 (k : Int) ∧ n = k + cpre (xs.drop k) (ys.drop k) ∧ k ≤ xs.length ∧ k ≤ ys.length ∧ Below w.heap.size w wr ∧ w.heap.size ≤ wr.heap.size) (fun i _ => ys.length - (intOf i).toNat)
  case atStart => exact ⟨0, rfl, HM0.out, by omega, by omega, Below.refl _ _, Nat.le_refl _⟩
  case round =>
    clear HM0
    obtain ⟨k, rfl, hp, hk1, hk2, hw, hsz⟩ := hrel
    by_cases hlt : k < xs.length
    · by_cases hlt2 : k < ys.length
      · skip
        have d0 := (hw.cell (p := ⟨b0, o0 + k * 2, none⟩) lb0).trans (H1.out k hlt).1
        have d1 := (hw.cell (p := ⟨b0, o0 + k * 2 + 1, none⟩) lb0).trans (H1.out k hlt).2
        have e0 := (hw.cell (p := ⟨b1, o1 + k * 2, none⟩) lb1).trans (H2.out k hlt2).1
        have e1 := (hw.cell (p := ⟨b1, o1 + k * 2 + 1, none⟩) lb1).trans (H2.out k hlt2).2
        generalize hx : xs[k] = x at d0 d1
        generalize hy : ys[k] = y at e0 e1
        rw [cpre_step' hlt hlt2 hx hy] at hp
        clear hx hy
        obtain ⟨x1, x2⟩ := x
        obtain ⟨y1, y2⟩ := y
        simp only at d0 d1 e0 e1
        have lbr : b0 < wr.heap.size := by omega
        have lbr' : b1 < wr.heap.size := by omega
        have g1 : decide ((k : Int) < (xs.length : Int)) = true := decide_eq_true (by omega)
        have g2 : decide ((k : Int) < (ys.length : Int)) = true := decide_eq_true (by omega)
        by_cases hxy : ((x1, x2) : Snd) = (y1, y2)
        · have HP := Lib.hid (hp.trans (congrArg (fun z => k + z) (if_pos hxy)))
          obtain ⟨rfl, rfl⟩ := Prod.mk.inj hxy
          clear hp hxy
          go_wp2_with fail
          refine wp_gen ?_
          intro W1 hW1
          have hw1 : Below w.heap.size w W1 := by rw [hW1]; go_grown
          have hz1 : wr.heap.size ≤ W1.heap.size := by rw [hW1]; go_size
          have c0 : W1.cell? ⟨b0, o0 + k * 2, none⟩ = some (.int .u32 x1.toNat) := by rw [hW1]; first | assumption | go_cell | (go_simp; done) | exact cell_past (by first | assumption | omega) (by assumption)
          have c1 : W1.cell? ⟨b0, o0 + k * 2 + 1, none⟩ = some (.int .u32 x2.toNat) := by rw [hW1]; first | assumption | go_cell | (go_simp; done) | exact cell_past (by first | assumption | omega) (by assumption)
          have c2 : W1.cell? ⟨b1, o1 + k * 2, none⟩ = some (.int .u32 x1.toNat) := by rw [hW1]; first | assumption | go_cell | (go_simp; done) | exact cell_past (by first | assumption | omega) (by assumption)
          have c3 : W1.cell? ⟨b1, o1 + k * 2 + 1, none⟩ = some (.int .u32 x2.toNat) := by rw [hW1]; first | assumption | go_cell | (go_simp; done) | exact cell_past (by first | assumption | omega) (by assumption)
          clear hW1
          have k0 := cell_regrown c0
          have k1 := cell_regrown c1
          have k2 := cell_regrown c2
          have k3 := cell_regrown c3
          refine wp_region_quiet_below (by kernel_rfl) (by kernel_rfl) ?_
          try simp only [List.append]
          repeat (go_big_quiet_step (first | exact Calls.regrown_of ()))
          refine wpQuiet_nil ?_
          intro w2 hw2
          have hb : Below W1.heap.size W1 w2 := by obtain ⟨q, rfl⟩ := hw2; exact below_regrown _ _ _
          clear hw2
          clear k0 k1 k2 k3
          have hw := chain hw1 (by omega) hb
          obtain ⟨hc, hf, hz⟩ := bcell hb
          clear hb
          try have r0 : w2.cell? ⟨b0, o0 + k * 2, none⟩ = some (.int .u32 x1.toNat) := (hc _ _ (by omega)).trans c0
          try have r1 : w2.cell? ⟨b0, o0 + k * 2 + 1, none⟩ = some (.int .u32 x2.toNat) := (hc _ _ (by omega)).trans c1
          try have r2 : w2.cell? ⟨b1, o1 + k * 2, none⟩ = some (.int .u32 x1.toNat) := (hc _ _ (by omega)).trans c2
          try have r3 : w2.cell? ⟨b1, o1 + k * 2 + 1, none⟩ = some (.int .u32 x2.toNat) := (hc _ _ (by omega)).trans c3
          go_wp2_with fail
          go_roundw
          case rel => exact ⟨k + 1, by go_num, by have := HP.out; omega, by omega, by omega, hw, hw.size⟩
          case measure => simp [intOf]; omega
        · have HN : n = k := (hp.trans (congrArg (fun z => k + z) (if_neg hxy))).trans (Nat.add_zero k)
          have hne := snd_ne hxy
          simp only at hne
          clear hp hxy
          have HN' := Lib.hid HN; clear HN
          go_wp2_with fail
          refine wp_gen ?_
          intro W1 hW1
          have hw1 : Below w.heap.size w W1 := by rw [hW1]; go_grown
          have hz1 : wr.heap.size ≤ W1.heap.size := by rw [hW1]; go_size
          have c0 : W1.cell? ⟨b0, o0 + k * 2, none⟩ = some (.int .u32 x1.toNat) := by rw [hW1]; first | assumption | go_cell | (go_simp; done) | exact cell_past (by first | assumption | omega) (by assumption)
          have c1 : W1.cell? ⟨b0, o0 + k * 2 + 1, none⟩ = some (.int .u32 x2.toNat) := by rw [hW1]; first | assumption | go_cell | (go_simp; done) | exact cell_past (by first | assumption | omega) (by assumption)
          have c2 : W1.cell? ⟨b1, o1 + k * 2, none⟩ = some (.int .u32 y1.toNat) := by rw [hW1]; first | assumption | go_cell | (go_simp; done) | exact cell_past (by first | assumption | omega) (by assumption)
          have c3 : W1.cell? ⟨b1, o1 + k * 2 + 1, none⟩ = some (.int .u32 y2.toNat) := by rw [hW1]; first | assumption | go_cell | (go_simp; done) | exact cell_past (by first | assumption | omega) (by assumption)
          clear hW1
          have k0 := cell_regrown c0
          have k1 := cell_regrown c1
          have k2 := cell_regrown c2
          have k3 := cell_regrown c3
          refine wp_region_quiet_below (by kernel_rfl) (by kernel_rfl) ?_
          try simp only [List.append]
          repeat (go_big_quiet_step (first | exact Calls.regrown_of ()))
          refine wpQuiet_nil ?_
          intro w2 hw2
          have hb : Below W1.heap.size W1 w2 := by obtain ⟨q, rfl⟩ := hw2; exact below_regrown _ _ _
          clear hw2
          clear k0 k1 k2 k3
          have hw := chain hw1 (by omega) hb
          obtain ⟨hc, hf, hz⟩ := bcell hb
          clear hb
          try have r0 : w2.cell? ⟨b0, o0 + k * 2, none⟩ = some (.int .u32 x1.toNat) := (hc _ _ (by omega)).trans c0
          try have r1 : w2.cell? ⟨b0, o0 + k * 2 + 1, none⟩ = some (.int .u32 x2.toNat) := (hc _ _ (by omega)).trans c1
          try have r2 : w2.cell? ⟨b1, o1 + k * 2, none⟩ = some (.int .u32 y1.toNat) := (hc _ _ (by omega)).trans c2
          try have r3 : w2.cell? ⟨b1, o1 + k * 2 + 1, none⟩ = some (.int .u32 y2.toNat) := (hc _ _ (by omega)).trans c3
          have HN := HN'.out
          clear d0 d1 e0 e1
          subst HN
          have hS := HS.out
          have hs0 : m = 0 + cpre ((xs.drop n).reverse.drop 0) ((ys.drop n).reverse.drop 0) := by rw [hS]; simp
          have HS0 := Lib.hid hs0
          clear hs0 HS hS HX HY
          go_wp2_with fail
          refine wp_gen ?_
          intro W1 hW1
          have hw1 : Below w.heap.size w W1 := by rw [hW1]; go_grown
          have hz1 : wr.heap.size ≤ W1.heap.size := by rw [hW1]; go_size
          clear hW1
          refine wp_region_quiet_below (by kernel_rfl) (by kernel_rfl) ?_
          try simp only [List.append]
          repeat (go_big_quiet_step (first | exact Calls.regrown_of ()))
          refine wpQuiet_nil ?_
          intro w2 hw2
          have hb : Below W1.heap.size W1 w2 := by obtain ⟨q, rfl⟩ := hw2; exact below_regrown _ _ _
          clear hw2
          have hw := chain hw1 (by omega) hb
          obtain ⟨hc, hf, hz⟩ := bcell hb
          clear hb
          obtain ⟨p, hp⟩ : ∃ p, xs.length - n = p := ⟨_, rfl⟩
          obtain ⟨q, hq⟩ : ∃ q, ys.length - n = q := ⟨_, rfl⟩
          rw [hp, hq]
          have hp' : n + p = xs.length := by omega
          have hq' : n + q = ys.length := by omega
          have hpc : p ≤ 9223372036854775807 := by omega
          have hqc : q ≤ 9223372036854775807 := by omega
          have hP := Lib.hid hp'; have hQ := Lib.hid hq'
          clear hp hq hp' hq' g1 g2 hlt hlt2 hk1 hk2 hne
          go_wp2_with fail
          go_loopw [9] (fun i w5 => ∃ e : Nat, i = .int .i64 (e : Int) ∧ m = e + cpre ((xs.drop n).reverse.drop e) ((ys.drop n).reverse.drop e) ∧ e ≤ p ∧ e ≤ q ∧ Below w.heap.size w w5 ∧ w.heap.size ≤ w5.heap.size) (fun i _ => p - (intOf i).toNat)
          case atStart => exact ⟨0, rfl, HS0.out, by omega, by omega, hw, hw.size⟩
          case round =>
            clear HS0 hw
            obtain ⟨e, rfl, hp, he1, he2, hw, hsz⟩ := hrel
            have hpp := hP.out; have hqq := hQ.out
            by_cases h1 : e < p
            · by_cases h2 : e < q
              · have g1 : decide ((e : Int) < (p : Int)) = true := decide_eq_true (by omega)
                have g2 : decide ((e : Int) < (q : Int)) = true := decide_eq_true (by omega)
                have hcx := H1.out (xs.length - 1 - e) (by omega)
                have hcy := H2.out (ys.length - 1 - e) (by omega)
                rw [show o0 + (xs.length - 1 - e) * 2 = o0 + n * 2 + (p - 1 - e) * 2 from by omega] at hcx
                rw [show o1 + (ys.length - 1 - e) * 2 = o1 + n * 2 + (q - 1 - e) * 2 from by omega] at hcy
                have d0 := (hw.cell (p := ⟨b0, o0 + n * 2 + (p - 1 - e) * 2, none⟩) lb0).trans hcx.1
                have d1 := (hw.cell (p := ⟨b0, o0 + n * 2 + (p - 1 - e) * 2 + 1, none⟩) lb0).trans hcx.2
                have e0 := (hw.cell (p := ⟨b1, o1 + n * 2 + (q - 1 - e) * 2, none⟩) lb1).trans hcy.1
                have e1 := (hw.cell (p := ⟨b1, o1 + n * 2 + (q - 1 - e) * 2 + 1, none⟩) lb1).trans hcy.2
                generalize hx : xs[xs.length - 1 - e]'(by omega) = x at d0 d1
                generalize hy : ys[ys.length - 1 - e]'(by omega) = y at e0 e1
                rw [csuf_step' (by omega) (by omega) hx hy] at hp
                clear hx hy hcx hcy
                obtain ⟨x1, x2⟩ := x
                obtain ⟨y1, y2⟩ := y
                simp only at d0 d1 e0 e1
                have lbr : b0 < wr.heap.size := by omega
                have lbr' : b1 < wr.heap.size := by omega
                clear hpp hqq
                by_cases hxy : ((x1, x2) : Snd) = (y1, y2)
                · have HP := Lib.hid (hp.trans (congrArg (fun z => e + z) (if_pos hxy)))
                  obtain ⟨rfl, rfl⟩ := Prod.mk.inj hxy
                  clear hp hxy
                  go_wp2_with fail
                  refine wp_gen ?_
                  intro W1 hW1
                  have hw1 : Below w.heap.size w W1 := by rw [hW1]; go_grown
                  have hz1 : wr.heap.size ≤ W1.heap.size := by rw [hW1]; go_size
                  have c0 : W1.cell? ⟨b0, o0 + n * 2 + (p - 1 - e) * 2, none⟩ = some (.int .u32 x1.toNat) := by rw [hW1]; first | assumption | go_cell | (go_simp; done) | exact cell_past (by first | assumption | omega) (by assumption)
                  have c1 : W1.cell? ⟨b0, o0 + n * 2 + (p - 1 - e) * 2 + 1, none⟩ = some (.int .u32 x2.toNat) := by rw [hW1]; first | assumption | go_cell | (go_simp; done) | exact cell_past (by first | assumption | omega) (by assumption)
                  have c2 : W1.cell? ⟨b1, o1 + n * 2 + (q - 1 - e) * 2, none⟩ = some (.int .u32 x1.toNat) := by rw [hW1]; first | assumption | go_cell | (go_simp; done) | exact cell_past (by first | assumption | omega) (by assumption)
                  have c3 : W1.cell? ⟨b1, o1 + n * 2 + (q - 1 - e) * 2 + 1, none⟩ = some (.int .u32 x2.toNat) := by rw [hW1]; first | assumption | go_cell | (go_simp; done) | exact cell_past (by first | assumption | omega) (by assumption)
                  clear hW1
                  have k0 := cell_regrown c0
                  have k1 := cell_regrown c1
                  have k2 := cell_regrown c2
                  have k3 := cell_regrown c3
                  refine wp_region_quiet_below (by kernel_rfl) (by kernel_rfl) ?_
                  try simp only [List.append]
                  repeat (go_big_quiet_step (first | exact Calls.regrown_of ()))
                  refine wpQuiet_nil ?_
                  intro w2 hw2
                  have hb : Below W1.heap.size W1 w2 := by obtain ⟨q, rfl⟩ := hw2; exact below_regrown _ _ _
                  clear hw2
                  clear k0 k1 k2 k3
                  have hw := chain hw1 (by omega) hb
                  obtain ⟨hc, hf, hz⟩ := bcell hb
                  clear hb
                  try have r0 : w2.cell? ⟨b0, o0 + n * 2 + (p - 1 - e) * 2, none⟩ = some (.int .u32 x1.toNat) := (hc _ _ (by omega)).trans c0
                  try have r1 : w2.cell? ⟨b0, o0 + n * 2 + (p - 1 - e) * 2 + 1, none⟩ = some (.int .u32 x2.toNat) := (hc _ _ (by omega)).trans c1
                  try have r2 : w2.cell? ⟨b1, o1 + n * 2 + (q - 1 - e) * 2, none⟩ = some (.int .u32 x1.toNat) := (hc _ _ (by omega)).trans c2
                  try have r3 : w2.cell? ⟨b1, o1 + n * 2 + (q - 1 - e) * 2 + 1, none⟩ = some (.int .u32 x2.toNat) := (hc _ _ (by omega)).trans c3
                  go_wp2_with fail
                  go_roundw
                  case rel => exact ⟨e + 1, by go_num, by have := HP.out; omega, by omega, by omega, hw, hw.size⟩
                  case measure => simp [intOf]; omega
                · have HP := Lib.hid (hp.trans (congrArg (fun z => e + z) (if_neg hxy)))
                  have hne := snd_ne hxy
                  simp only at hne
                  clear hp hxy
                  go_wp2_with fail
                  refine wp_gen ?_
                  intro W1 hW1
                  have hw1 : Below w.heap.size w W1 := by rw [hW1]; go_grown
                  have hz1 : wr.heap.size ≤ W1.heap.size := by rw [hW1]; go_size
                  have c0 : W1.cell? ⟨b0, o0 + n * 2 + (p - 1 - e) * 2, none⟩ = some (.int .u32 x1.toNat) := by rw [hW1]; first | assumption | go_cell | (go_simp; done) | exact cell_past (by first | assumption | omega) (by assumption)
                  have c1 : W1.cell? ⟨b0, o0 + n * 2 + (p - 1 - e) * 2 + 1, none⟩ = some (.int .u32 x2.toNat) := by rw [hW1]; first | assumption | go_cell | (go_simp; done) | exact cell_past (by first | assumption | omega) (by assumption)
                  have c2 : W1.cell? ⟨b1, o1 + n * 2 + (q - 1 - e) * 2, none⟩ = some (.int .u32 y1.toNat) := by rw [hW1]; first | assumption | go_cell | (go_simp; done) | exact cell_past (by first | assumption | omega) (by assumption)
                  have c3 : W1.cell? ⟨b1, o1 + n * 2 + (q - 1 - e) * 2 + 1, none⟩ = some (.int .u32 y2.toNat) := by rw [hW1]; first | assumption | go_cell | (go_simp; done) | exact cell_past (by first | assumption | omega) (by assumption)
                  clear hW1
                  have k0 := cell_regrown c0
                  have k1 := cell_regrown c1
                  have k2 := cell_regrown c2
                  have k3 := cell_regrown c3
                  refine wp_region_quiet_below (by kernel_rfl) (by kernel_rfl) ?_
                  try simp only [List.append]
                  repeat (go_big_quiet_step (first | exact Calls.regrown_of ()))
                  refine wpQuiet_nil ?_
                  intro w2 hw2
                  have hb : Below W1.heap.size W1 w2 := by obtain ⟨q, rfl⟩ := hw2; exact below_regrown _ _ _
                  clear hw2
                  clear k0 k1 k2 k3
                  have hw := chain hw1 (by omega) hb
                  obtain ⟨hc, hf, hz⟩ := bcell hb
                  clear hb
                  try have r0 : w2.cell? ⟨b0, o0 + n * 2 + (p - 1 - e) * 2, none⟩ = some (.int .u32 x1.toNat) := (hc _ _ (by omega)).trans c0
                  try have r1 : w2.cell? ⟨b0, o0 + n * 2 + (p - 1 - e) * 2 + 1, none⟩ = some (.int .u32 x2.toNat) := (hc _ _ (by omega)).trans c1
                  try have r2 : w2.cell? ⟨b1, o1 + n * 2 + (q - 1 - e) * 2, none⟩ = some (.int .u32 y1.toNat) := (hc _ _ (by omega)).trans c2
                  try have r3 : w2.cell? ⟨b1, o1 + n * 2 + (q - 1 - e) * 2 + 1, none⟩ = some (.int .u32 y2.toNat) := (hc _ _ (by omega)).trans c3
                  go_wp2_with fail
                  go_ret2
                  exact ⟨by have := HP.out; simp only [Nat.add_zero] at this; (rw [this]; try rfl), hw⟩
              · have HP := Lib.hid (hp.trans (congrArg (fun z => e + z) (csuf_end (by omega))))
                have g1 : decide ((e : Int) < (p : Int)) = true := decide_eq_true (by omega)
                have g2 : decide ((e : Int) < (q : Int)) = false := decide_eq_false (by omega)
                clear hp hpp hqq
                go_wp2_with fail
                refine wp_gen ?_
                intro W1 hW1
                have hw1 : Below w.heap.size w W1 := by rw [hW1]; go_grown
                have hz1 : wr.heap.size ≤ W1.heap.size := by rw [hW1]; go_size
                clear hW1
                refine wp_region_quiet_below (by kernel_rfl) (by kernel_rfl) ?_
                try simp only [List.append]
                repeat (go_big_quiet_step (first | exact Calls.regrown_of ()))
                refine wpQuiet_nil ?_
                intro w2 hw2
                have hb : Below W1.heap.size W1 w2 := by obtain ⟨q, rfl⟩ := hw2; exact below_regrown _ _ _
                clear hw2
                have hw := chain hw1 (by omega) hb
                obtain ⟨hc, hf, hz⟩ := bcell hb
                clear hb
                go_wp2_with fail
                go_ret2
                exact ⟨by have := HP.out; simp only [Nat.add_zero] at this; (rw [this]; try rfl), hw⟩
            · have HP := Lib.hid (hp.trans (congrArg (fun z => e + z) (csuf_end (by omega))))
              have g1 : decide ((e : Int) < (p : Int)) = false := decide_eq_false (by omega)
              clear hp hpp hqq
              go_wp2_with fail
              refine wp_gen ?_
              intro W1 hW1
              have hw1 : Below w.heap.size w W1 := by rw [hW1]; go_grown
              have hz1 : wr.heap.size ≤ W1.heap.size := by rw [hW1]; go_size
              clear hW1
              refine wp_region_quiet_below (by kernel_rfl) (by kernel_rfl) ?_
              try simp only [List.append]
              repeat (go_big_quiet_step (first | exact Calls.regrown_of ()))
              refine wpQuiet_nil ?_
              intro w2 hw2
              have hb : Below W1.heap.size W1 w2 := by obtain ⟨q, rfl⟩ := hw2; exact below_regrown _ _ _
              clear hw2
              have hw := chain hw1 (by omega) hb
              obtain ⟨hc, hf, hz⟩ := bcell hb
              clear hb
              go_wp2_with fail
              go_ret2
              exact ⟨by have := HP.out; simp only [Nat.add_zero] at this; (rw [this]; try rfl), hw⟩
      · have HN : n = k := (hp.trans (congrArg (fun z => k + z) (cpre_end (by omega)))).trans (Nat.add_zero k)
        clear hp
        have g1 : decide ((k : Int) < (xs.length : Int)) = true := decide_eq_true (by omega)
        have g2 : decide ((k : Int) < (ys.length : Int)) = false := decide_eq_false (by omega)
        have HN' := Lib.hid HN; clear HN
        go_wp2_with fail
        refine wp_gen ?_
        intro W1 hW1
        have hw1 : Below w.heap.size w W1 := by rw [hW1]; go_grown
        have hz1 : wr.heap.size ≤ W1.heap.size := by rw [hW1]; go_size
        clear hW1
        refine wp_region_quiet_below (by kernel_rfl) (by kernel_rfl) ?_
        try simp only [List.append]
        repeat (go_big_quiet_step (first | exact Calls.regrown_of ()))
        refine wpQuiet_nil ?_
        intro w2 hw2
        have hb : Below W1.heap.size W1 w2 := by obtain ⟨q, rfl⟩ := hw2; exact below_regrown _ _ _
        clear hw2
        have hw := chain hw1 (by omega) hb
        obtain ⟨hc, hf, hz⟩ := bcell hb
        clear hb
        have HN := HN'.out
        subst HN
        obtain rfl : n = ys.length := by omega
        obtain rfl : m = 0 := HS.out.trans (by rw [List.drop_length]; exact cpre_nil _)
        clear HS HX HY H1 H2
        have G : ∀ W : World, Below w.heap.size w W → W = W := fun _ _ => rfl
        have hca : ¬ cap = ys.length := by omega
        have hg3 : decide (0 < xs.length - ys.length) = true := decide_eq_true (by omega)
        by_cases hcb : cap' = ys.length
        · skip
          go_wp2_with fail
          refine wp_gen ?_
          intro W1 hW1
          have hw1 : Below w.heap.size w W1 := by rw [hW1]; go_grown
          have hz1 : wr.heap.size ≤ W1.heap.size := by rw [hW1]; go_size
          clear hW1
          refine wp_region_quiet_below (by kernel_rfl) (by kernel_rfl) ?_
          try simp only [List.append]
          repeat (go_big_quiet_step (first | exact Calls.regrown_of ()))
          refine wpQuiet_nil ?_
          intro w2 hw2
          have hb : Below W1.heap.size W1 w2 := by obtain ⟨q, rfl⟩ := hw2; exact below_regrown _ _ _
          clear hw2
          have hw := chain hw1 (by omega) hb
          obtain ⟨hc, hf, hz⟩ := bcell hb
          clear hb
          go_wp2_with fail
          go_loopw [9] (fun i w5 => i = .int .i64 0 ∧ Below w.heap.size w w5 ∧ w.heap.size ≤ w5.heap.size) (fun _ _ => 0)
          case atStart => exact ⟨rfl, hw, hw.size⟩
          case round =>
            clear hw
            obtain ⟨rfl, hw, hsz⟩ := hrel
            go_wp2_with fail
            refine wp_gen ?_
            intro W1 hW1
            have hw1 : Below w.heap.size w W1 := by rw [hW1]; go_grown
            have hz1 : wr.heap.size ≤ W1.heap.size := by rw [hW1]; go_size
            clear hW1
            refine wp_region_quiet_below (by kernel_rfl) (by kernel_rfl) ?_
            try simp only [List.append]
            repeat (go_big_quiet_step (first | exact Calls.regrown_of ()))
            refine wpQuiet_nil ?_
            intro w2 hw2
            have hb : Below W1.heap.size W1 w2 := by obtain ⟨q, rfl⟩ := hw2; exact below_regrown _ _ _
            clear hw2
            have hw := chain hw1 (by omega) hb
            obtain ⟨hc, hf, hz⟩ := bcell hb
            clear hb
            go_wp2_with fail
            go_ret2
            exact ⟨by first | rfl | (simp; done), hw⟩
        · skip
          go_wp2_with fail
          refine wp_gen ?_
          intro W1 hW1
          have hw1 : Below w.heap.size w W1 := by rw [hW1]; go_grown
          have hz1 : wr.heap.size ≤ W1.heap.size := by rw [hW1]; go_size
          clear hW1
          refine wp_region_quiet_below (by kernel_rfl) (by kernel_rfl) ?_
          try simp only [List.append]
          repeat (go_big_quiet_step (first | exact Calls.regrown_of ()))
          refine wpQuiet_nil ?_
          intro w2 hw2
          have hb : Below W1.heap.size W1 w2 := by obtain ⟨q, rfl⟩ := hw2; exact below_regrown _ _ _
          clear hw2
          have hw := chain hw1 (by omega) hb
          obtain ⟨hc, hf, hz⟩ := bcell hb
          clear hb
          go_wp2_with fail
          go_loopw [9] (fun i w5 => i = .int .i64 0 ∧ Below w.heap.size w w5 ∧ w.heap.size ≤ w5.heap.size) (fun _ _ => 0)
          case atStart => exact ⟨rfl, hw, hw.size⟩
          case round =>
            clear hw
            obtain ⟨rfl, hw, hsz⟩ := hrel
            go_wp2_with fail
            refine wp_gen ?_
            intro W1 hW1
            have hw1 : Below w.heap.size w W1 := by rw [hW1]; go_grown
            have hz1 : wr.heap.size ≤ W1.heap.size := by rw [hW1]; go_size
            clear hW1
            refine wp_region_quiet_below (by kernel_rfl) (by kernel_rfl) ?_
            try simp only [List.append]
            repeat (go_big_quiet_step (first | exact Calls.regrown_of ()))
            refine wpQuiet_nil ?_
            intro w2 hw2
            have hb : Below W1.heap.size W1 w2 := by obtain ⟨q, rfl⟩ := hw2; exact below_regrown _ _ _
            clear hw2
            have hw := chain hw1 (by omega) hb
            obtain ⟨hc, hf, hz⟩ := bcell hb
            clear hb
            go_wp2_with fail
            go_ret2
            exact ⟨by first | rfl | (simp; done), hw⟩
    · have HN : n = k := (hp.trans (congrArg (fun z => k + z) (cpre_end (by omega)))).trans (Nat.add_zero k)
      clear hp
      have g1 : decide ((k : Int) < (xs.length : Int)) = false := decide_eq_false (by omega)
      have HN' := Lib.hid HN; clear HN
      go_wp2_with fail
      refine wp_gen ?_
      intro W1 hW1
      have hw1 : Below w.heap.size w W1 := by rw [hW1]; go_grown
      have hz1 : wr.heap.size ≤ W1.heap.size := by rw [hW1]; go_size
      clear hW1
      refine wp_region_quiet_below (by kernel_rfl) (by kernel_rfl) ?_
      try simp only [List.append]
      repeat (go_big_quiet_step (first | exact Calls.regrown_of ()))
      refine wpQuiet_nil ?_
      intro w2 hw2
      have hb : Below W1.heap.size W1 w2 := by obtain ⟨q, rfl⟩ := hw2; exact below_regrown _ _ _
      clear hw2
      have hw := chain hw1 (by omega) hb
      obtain ⟨hc, hf, hz⟩ := bcell hb
      clear hb
      have HN := HN'.out
      subst HN
      obtain rfl : n = xs.length := by omega
      obtain rfl : m = 0 := HS.out.trans (by rw [List.drop_length]; rfl)
      clear HS HX HY H1 H2
      have G : ∀ W : World, Below w.heap.size w W → W = W := fun _ _ => rfl
      by_cases hca : cap = xs.length
      · by_cases hcb : cap' = xs.length
        · skip
          go_wp2_with fail
          refine wp_gen ?_
          intro W1 hW1
          have hw1 : Below w.heap.size w W1 := by rw [hW1]; go_grown
          have hz1 : wr.heap.size ≤ W1.heap.size := by rw [hW1]; go_size
          clear hW1
          refine wp_region_quiet_below (by kernel_rfl) (by kernel_rfl) ?_
          try simp only [List.append]
          repeat (go_big_quiet_step (first | exact Calls.regrown_of ()))
          refine wpQuiet_nil ?_
          intro w2 hw2
          have hb : Below W1.heap.size W1 w2 := by obtain ⟨q, rfl⟩ := hw2; exact below_regrown _ _ _
          clear hw2
          have hw := chain hw1 (by omega) hb
          obtain ⟨hc, hf, hz⟩ := bcell hb
          clear hb
          go_wp2_with fail
          go_loopw [9] (fun i w5 => i = .int .i64 0 ∧ Below w.heap.size w w5 ∧ w.heap.size ≤ w5.heap.size) (fun _ _ => 0)
          case atStart => exact ⟨rfl, hw, hw.size⟩
          case round =>
            clear hw
            obtain ⟨rfl, hw, hsz⟩ := hrel
            go_wp2_with fail
            refine wp_gen ?_
            intro W1 hW1
            have hw1 : Below w.heap.size w W1 := by rw [hW1]; go_grown
            have hz1 : wr.heap.size ≤ W1.heap.size := by rw [hW1]; go_size
            clear hW1
            refine wp_region_quiet_below (by kernel_rfl) (by kernel_rfl) ?_
            try simp only [List.append]
            repeat (go_big_quiet_step (first | exact Calls.regrown_of ()))
            refine wpQuiet_nil ?_
            intro w2 hw2
            have hb : Below W1.heap.size W1 w2 := by obtain ⟨q, rfl⟩ := hw2; exact below_regrown _ _ _
            clear hw2
            have hw := chain hw1 (by omega) hb
            obtain ⟨hc, hf, hz⟩ := bcell hb
            clear hb
            go_wp2_with fail
            go_ret2
            exact ⟨by first | rfl | (simp; done), hw⟩
        · skip
          go_wp2_with fail
          refine wp_gen ?_
          intro W1 hW1
          have hw1 : Below w.heap.size w W1 := by rw [hW1]; go_grown
          have hz1 : wr.heap.size ≤ W1.heap.size := by rw [hW1]; go_size
          clear hW1
          refine wp_region_quiet_below (by kernel_rfl) (by kernel_rfl) ?_
          try simp only [List.append]
          repeat (go_big_quiet_step (first | exact Calls.regrown_of ()))
          refine wpQuiet_nil ?_
          intro w2 hw2
          have hb : Below W1.heap.size W1 w2 := by obtain ⟨q, rfl⟩ := hw2; exact below_regrown _ _ _
          clear hw2
          have hw := chain hw1 (by omega) hb
          obtain ⟨hc, hf, hz⟩ := bcell hb
          clear hb
          go_wp2_with fail
          go_loopw [9] (fun i w5 => i = .int .i64 0 ∧ Below w.heap.size w w5 ∧ w.heap.size ≤ w5.heap.size) (fun _ _ => 0)
          case atStart => exact ⟨rfl, hw, hw.size⟩
          case round =>
            clear hw
            obtain ⟨rfl, hw, hsz⟩ := hrel
            go_wp2_with fail
            refine wp_gen ?_
            intro W1 hW1
            have hw1 : Below w.heap.size w W1 := by rw [hW1]; go_grown
            have hz1 : wr.heap.size ≤ W1.heap.size := by rw [hW1]; go_size
            clear hW1
            refine wp_region_quiet_below (by kernel_rfl) (by kernel_rfl) ?_
            try simp only [List.append]
            repeat (go_big_quiet_step (first | exact Calls.regrown_of ()))
            refine wpQuiet_nil ?_
            intro w2 hw2
            have hb : Below W1.heap.size W1 w2 := by obtain ⟨q, rfl⟩ := hw2; exact below_regrown _ _ _
            clear hw2
            have hw := chain hw1 (by omega) hb
            obtain ⟨hc, hf, hz⟩ := bcell hb
            clear hb
            go_wp2_with fail
            go_ret2
            exact ⟨by first | rfl | (simp; done), hw⟩
      · by_cases hcb : cap' = xs.length
        · skip
          go_wp2_with fail
          refine wp_gen ?_
          intro W1 hW1
          have hw1 : Below w.heap.size w W1 := by rw [hW1]; go_grown
          have hz1 : wr.heap.size ≤ W1.heap.size := by rw [hW1]; go_size
          clear hW1
          refine wp_region_quiet_below (by kernel_rfl) (by kernel_rfl) ?_
          try simp only [List.append]
          repeat (go_big_quiet_step (first | exact Calls.regrown_of ()))
          refine wpQuiet_nil ?_
          intro w2 hw2
          have hb : Below W1.heap.size W1 w2 := by obtain ⟨q, rfl⟩ := hw2; exact below_regrown _ _ _
          clear hw2
          have hw := chain hw1 (by omega) hb
          obtain ⟨hc, hf, hz⟩ := bcell hb
          clear hb
          go_wp2_with fail
          go_loopw [9] (fun i w5 => i = .int .i64 0 ∧ Below w.heap.size w w5 ∧ w.heap.size ≤ w5.heap.size) (fun _ _ => 0)
          case atStart => exact ⟨rfl, hw, hw.size⟩
          case round =>
            clear hw
            obtain ⟨rfl, hw, hsz⟩ := hrel
            go_wp2_with fail
            refine wp_gen ?_
            intro W1 hW1
            have hw1 : Below w.heap.size w W1 := by rw [hW1]; go_grown
            have hz1 : wr.heap.size ≤ W1.heap.size := by rw [hW1]; go_size
            clear hW1
            refine wp_region_quiet_below (by kernel_rfl) (by kernel_rfl) ?_
            try simp only [List.append]
            repeat (go_big_quiet_step (first | exact Calls.regrown_of ()))
            refine wpQuiet_nil ?_
            intro w2 hw2
            have hb : Below W1.heap.size W1 w2 := by obtain ⟨q, rfl⟩ := hw2; exact below_regrown _ _ _
            clear hw2
            have hw := chain hw1 (by omega) hb
            obtain ⟨hc, hf, hz⟩ := bcell hb
            clear hb
            go_wp2_with fail
            go_ret2
            exact ⟨by first | rfl | (simp; done), hw⟩
        · skip
          go_wp2_with fail
          refine wp_gen ?_
          intro W1 hW1
          have hw1 : Below w.heap.size w W1 := by rw [hW1]; go_grown
          have hz1 : wr.heap.size ≤ W1.heap.size := by rw [hW1]; go_size
          clear hW1
          refine wp_region_quiet_below (by kernel_rfl) (by kernel_rfl) ?_
          try simp only [List.append]
          repeat (go_big_quiet_step (first | exact Calls.regrown_of ()))
          refine wpQuiet_nil ?_
          intro w2 hw2
          have hb : Below W1.heap.size W1 w2 := by obtain ⟨q, rfl⟩ := hw2; exact below_regrown _ _ _
          clear hw2
          have hw := chain hw1 (by omega) hb
          obtain ⟨hc, hf, hz⟩ := bcell hb
          clear hb
          go_wp2_with fail
          go_loopw [9] (fun i w5 => i = .int .i64 0 ∧ Below w.heap.size w w5 ∧ w.heap.size ≤ w5.heap.size) (fun _ _ => 0)
          case atStart => exact ⟨rfl, hw, hw.size⟩
          case round =>
            clear hw
            obtain ⟨rfl, hw, hsz⟩ := hrel
            go_wp2_with fail
            refine wp_gen ?_
            intro W1 hW1
            have hw1 : Below w.heap.size w W1 := by rw [hW1]; go_grown
            have hz1 : wr.heap.size ≤ W1.heap.size := by rw [hW1]; go_size
            clear hW1
            refine wp_region_quiet_below (by kernel_rfl) (by kernel_rfl) ?_
            try simp only [List.append]
            repeat (go_big_quiet_step (first | exact Calls.regrown_of ()))
            refine wpQuiet_nil ?_
            intro w2 hw2
            have hb : Below W1.heap.size W1 w2 := by obtain ⟨q, rfl⟩ := hw2; exact below_regrown _ _ _
            clear hw2
            have hw := chain hw1 (by omega) hb
            obtain ⟨hc, hf, hz⟩ := bcell hb
            clear hb
            go_wp2_with fail
            go_ret2
            exact ⟨by first | rfl | (simp; done), hw⟩
theorem csuf_nil (xs : List Snd) : csuf xs [] = 0 := by unfold csuf; rw [cpre_nil, List.drop_zero, List.drop_zero]; exact cpre_nil _
set_option maxHeartbeats 4000000 in
theorem rcommon_any (xs ys : List Snd) (v u : Value) (w : World) (h1 : Wd w v xs) (h2 : Wd w u ys) : Gives 27 #[v, u] w (.tuple #[.int .i64 (cpre xs ys : Nat), .int .i64 (csuf xs ys : Nat)]) := by
  rcases h1 with ⟨rfl, rfl⟩ | ⟨b0, o0, cap, rfl, c1, m1, lb0, h3⟩
  · rw [show cpre [] ys = 0 from rfl, show csuf [] ys = 0 from rfl]
    unfold Gives
    rcases h2 with ⟨rfl, rfl⟩ | ⟨b1, o1, cap', rfl, c2, m2, lb1, h4⟩
    · go_enter Try.func27, Try.ntmps27
      go_wp2_with fail
      go_loopw [6] (fun i w5 => i = .int .i64 0 ∧ Below w.heap.size w w5 ∧ w.heap.size ≤ w5.heap.size) (fun _ _ => 0)
      case atStart => exact ⟨rfl, Below.refl _ _, Nat.le_refl _⟩
      case round =>
        obtain ⟨rfl, hw, hsz⟩ := hrel
        go_wp2_with fail
        refine wp_gen ?_
        intro W1 hW1
        have hw1 : Below w.heap.size w W1 := by rw [hW1]; go_grown
        have hz1 : wr.heap.size ≤ W1.heap.size := by rw [hW1]; go_size
        clear hW1
        refine wp_region_quiet_below (by kernel_rfl) (by kernel_rfl) ?_
        try simp only [List.append]
        repeat (go_big_quiet_step (first | exact Calls.regrown_of ()))
        refine wpQuiet_nil ?_
        intro w2 hw2
        have hb : Below W1.heap.size W1 w2 := by obtain ⟨q, rfl⟩ := hw2; exact below_regrown _ _ _
        clear hw2
        have hw := chain hw1 (by omega) hb
        obtain ⟨hc, hf, hz⟩ := bcell hb
        clear hb
        go_wp2_with fail
        refine wp_gen ?_
        intro W1 hW1
        have hw1 : Below w.heap.size w W1 := by rw [hW1]; go_grown
        have hz1 : wr.heap.size ≤ W1.heap.size := by rw [hW1]; go_size
        clear hW1
        refine wp_region_quiet_below (by kernel_rfl) (by kernel_rfl) ?_
        try simp only [List.append]
        repeat (go_big_quiet_step (first | exact Calls.regrown_of ()))
        refine wpQuiet_nil ?_
        intro w2 hw2
        have hb : Below W1.heap.size W1 w2 := by obtain ⟨q, rfl⟩ := hw2; exact below_regrown _ _ _
        clear hw2
        have hw := chain hw1 (by omega) hb
        obtain ⟨hc, hf, hz⟩ := bcell hb
        clear hb
        go_wp2_with fail
        go_loopw [9] (fun i w5 => i = .int .i64 0 ∧ Below w.heap.size w w5 ∧ w.heap.size ≤ w5.heap.size) (fun _ _ => 0)
        case atStart => exact ⟨rfl, hw, hw.size⟩
        case round =>
          clear hw
          obtain ⟨rfl, hw, hsz⟩ := hrel
          go_wp2_with fail
          refine wp_gen ?_
          intro W1 hW1
          have hw1 : Below w.heap.size w W1 := by rw [hW1]; go_grown
          have hz1 : wr.heap.size ≤ W1.heap.size := by rw [hW1]; go_size
          clear hW1
          refine wp_region_quiet_below (by kernel_rfl) (by kernel_rfl) ?_
          try simp only [List.append]
          repeat (go_big_quiet_step (first | exact Calls.regrown_of ()))
          refine wpQuiet_nil ?_
          intro w2 hw2
          have hb : Below W1.heap.size W1 w2 := by obtain ⟨q, rfl⟩ := hw2; exact below_regrown _ _ _
          clear hw2
          have hw := chain hw1 (by omega) hb
          obtain ⟨hc, hf, hz⟩ := bcell hb
          clear hb
          go_wp2_with fail
          go_ret2
          exact ⟨by first | rfl | (simp; done), hw⟩
    · have l2 := maxLen_lt m2
      clear h4 m2
      by_cases hcb : cap' = 0
      · go_enter Try.func27, Try.ntmps27
        go_wp2_with fail
        go_loopw [6] (fun i w5 => i = .int .i64 0 ∧ Below w.heap.size w w5 ∧ w.heap.size ≤ w5.heap.size) (fun _ _ => 0)
        case atStart => exact ⟨rfl, Below.refl _ _, Nat.le_refl _⟩
        case round =>
          obtain ⟨rfl, hw, hsz⟩ := hrel
          go_wp2_with fail
          refine wp_gen ?_
          intro W1 hW1
          have hw1 : Below w.heap.size w W1 := by rw [hW1]; go_grown
          have hz1 : wr.heap.size ≤ W1.heap.size := by rw [hW1]; go_size
          clear hW1
          refine wp_region_quiet_below (by kernel_rfl) (by kernel_rfl) ?_
          try simp only [List.append]
          repeat (go_big_quiet_step (first | exact Calls.regrown_of ()))
          refine wpQuiet_nil ?_
          intro w2 hw2
          have hb : Below W1.heap.size W1 w2 := by obtain ⟨q, rfl⟩ := hw2; exact below_regrown _ _ _
          clear hw2
          have hw := chain hw1 (by omega) hb
          obtain ⟨hc, hf, hz⟩ := bcell hb
          clear hb
          go_wp2_with fail
          refine wp_gen ?_
          intro W1 hW1
          have hw1 : Below w.heap.size w W1 := by rw [hW1]; go_grown
          have hz1 : wr.heap.size ≤ W1.heap.size := by rw [hW1]; go_size
          clear hW1
          refine wp_region_quiet_below (by kernel_rfl) (by kernel_rfl) ?_
          try simp only [List.append]
          repeat (go_big_quiet_step (first | exact Calls.regrown_of ()))
          refine wpQuiet_nil ?_
          intro w2 hw2
          have hb : Below W1.heap.size W1 w2 := by obtain ⟨q, rfl⟩ := hw2; exact below_regrown _ _ _
          clear hw2
          have hw := chain hw1 (by omega) hb
          obtain ⟨hc, hf, hz⟩ := bcell hb
          clear hb
          go_wp2_with fail
          go_loopw [9] (fun i w5 => i = .int .i64 0 ∧ Below w.heap.size w w5 ∧ w.heap.size ≤ w5.heap.size) (fun _ _ => 0)
          case atStart => exact ⟨rfl, hw, hw.size⟩
          case round =>
            clear hw
            obtain ⟨rfl, hw, hsz⟩ := hrel
            go_wp2_with fail
            refine wp_gen ?_
            intro W1 hW1
            have hw1 : Below w.heap.size w W1 := by rw [hW1]; go_grown
            have hz1 : wr.heap.size ≤ W1.heap.size := by rw [hW1]; go_size
            clear hW1
            refine wp_region_quiet_below (by kernel_rfl) (by kernel_rfl) ?_
            try simp only [List.append]
            repeat (go_big_quiet_step (first | exact Calls.regrown_of ()))
            refine wpQuiet_nil ?_
            intro w2 hw2
            have hb : Below W1.heap.size W1 w2 := by obtain ⟨q, rfl⟩ := hw2; exact below_regrown _ _ _
            clear hw2
            have hw := chain hw1 (by omega) hb
            obtain ⟨hc, hf, hz⟩ := bcell hb
            clear hb
            go_wp2_with fail
            go_ret2
            exact ⟨by first | rfl | (simp; done), hw⟩
      · go_enter Try.func27, Try.ntmps27
        go_wp2_with fail
        go_loopw [6] (fun i w5 => i = .int .i64 0 ∧ Below w.heap.size w w5 ∧ w.heap.size ≤ w5.heap.size) (fun _ _ => 0)
        case atStart => exact ⟨rfl, Below.refl _ _, Nat.le_refl _⟩
        case round =>
          obtain ⟨rfl, hw, hsz⟩ := hrel
          go_wp2_with fail
          refine wp_gen ?_
          intro W1 hW1
          have hw1 : Below w.heap.size w W1 := by rw [hW1]; go_grown
          have hz1 : wr.heap.size ≤ W1.heap.size := by rw [hW1]; go_size
          clear hW1
          refine wp_region_quiet_below (by kernel_rfl) (by kernel_rfl) ?_
          try simp only [List.append]
          repeat (go_big_quiet_step (first | exact Calls.regrown_of ()))
          refine wpQuiet_nil ?_
          intro w2 hw2
          have hb : Below W1.heap.size W1 w2 := by obtain ⟨q, rfl⟩ := hw2; exact below_regrown _ _ _
          clear hw2
          have hw := chain hw1 (by omega) hb
          obtain ⟨hc, hf, hz⟩ := bcell hb
          clear hb
          go_wp2_with fail
          refine wp_gen ?_
          intro W1 hW1
          have hw1 : Below w.heap.size w W1 := by rw [hW1]; go_grown
          have hz1 : wr.heap.size ≤ W1.heap.size := by rw [hW1]; go_size
          clear hW1
          refine wp_region_quiet_below (by kernel_rfl) (by kernel_rfl) ?_
          try simp only [List.append]
          repeat (go_big_quiet_step (first | exact Calls.regrown_of ()))
          refine wpQuiet_nil ?_
          intro w2 hw2
          have hb : Below W1.heap.size W1 w2 := by obtain ⟨q, rfl⟩ := hw2; exact below_regrown _ _ _
          clear hw2
          have hw := chain hw1 (by omega) hb
          obtain ⟨hc, hf, hz⟩ := bcell hb
          clear hb
          go_wp2_with fail
          go_loopw [9] (fun i w5 => i = .int .i64 0 ∧ Below w.heap.size w w5 ∧ w.heap.size ≤ w5.heap.size) (fun _ _ => 0)
          case atStart => exact ⟨rfl, hw, hw.size⟩
          case round =>
            clear hw
            obtain ⟨rfl, hw, hsz⟩ := hrel
            go_wp2_with fail
            refine wp_gen ?_
            intro W1 hW1
            have hw1 : Below w.heap.size w W1 := by rw [hW1]; go_grown
            have hz1 : wr.heap.size ≤ W1.heap.size := by rw [hW1]; go_size
            clear hW1
            refine wp_region_quiet_below (by kernel_rfl) (by kernel_rfl) ?_
            try simp only [List.append]
            repeat (go_big_quiet_step (first | exact Calls.regrown_of ()))
            refine wpQuiet_nil ?_
            intro w2 hw2
            have hb : Below W1.heap.size W1 w2 := by obtain ⟨q, rfl⟩ := hw2; exact below_regrown _ _ _
            clear hw2
            have hw := chain hw1 (by omega) hb
            obtain ⟨hc, hf, hz⟩ := bcell hb
            clear hb
            go_wp2_with fail
            go_ret2
            exact ⟨by first | rfl | (simp; done), hw⟩
  · rcases h2 with ⟨rfl, rfl⟩ | ⟨b1, o1, cap', rfl, c2, m2, lb1, h4⟩
    · rw [cpre_nil, csuf_nil]
      unfold Gives
      have l1 := maxLen_lt m1
      clear h3 m1
      by_cases hx : xs.length = 0
      · have g1 : decide (0 < xs.length) = false := decide_eq_false (by omega)
        by_cases hca : cap = 0
        · go_enter Try.func27, Try.ntmps27
          go_wp2_with fail
          go_loopw [6] (fun i w5 => i = .int .i64 0 ∧ Below w.heap.size w w5 ∧ w.heap.size ≤ w5.heap.size) (fun _ _ => 0)
          case atStart => exact ⟨rfl, Below.refl _ _, Nat.le_refl _⟩
          case round =>
            obtain ⟨rfl, hw, hsz⟩ := hrel
            go_wp2_with fail
            refine wp_gen ?_
            intro W1 hW1
            have hw1 : Below w.heap.size w W1 := by rw [hW1]; go_grown
            have hz1 : wr.heap.size ≤ W1.heap.size := by rw [hW1]; go_size
            clear hW1
            refine wp_region_quiet_below (by kernel_rfl) (by kernel_rfl) ?_
            try simp only [List.append]
            repeat (go_big_quiet_step (first | exact Calls.regrown_of ()))
            refine wpQuiet_nil ?_
            intro w2 hw2
            have hb : Below W1.heap.size W1 w2 := by obtain ⟨q, rfl⟩ := hw2; exact below_regrown _ _ _
            clear hw2
            have hw := chain hw1 (by omega) hb
            obtain ⟨hc, hf, hz⟩ := bcell hb
            clear hb
            go_wp2_with fail
            refine wp_gen ?_
            intro W1 hW1
            have hw1 : Below w.heap.size w W1 := by rw [hW1]; go_grown
            have hz1 : wr.heap.size ≤ W1.heap.size := by rw [hW1]; go_size
            clear hW1
            refine wp_region_quiet_below (by kernel_rfl) (by kernel_rfl) ?_
            try simp only [List.append]
            repeat (go_big_quiet_step (first | exact Calls.regrown_of ()))
            refine wpQuiet_nil ?_
            intro w2 hw2
            have hb : Below W1.heap.size W1 w2 := by obtain ⟨q, rfl⟩ := hw2; exact below_regrown _ _ _
            clear hw2
            have hw := chain hw1 (by omega) hb
            obtain ⟨hc, hf, hz⟩ := bcell hb
            clear hb
            go_wp2_with fail
            go_loopw [9] (fun i w5 => i = .int .i64 0 ∧ Below w.heap.size w w5 ∧ w.heap.size ≤ w5.heap.size) (fun _ _ => 0)
            case atStart => exact ⟨rfl, hw, hw.size⟩
            case round =>
              clear hw
              obtain ⟨rfl, hw, hsz⟩ := hrel
              go_wp2_with fail
              refine wp_gen ?_
              intro W1 hW1
              have hw1 : Below w.heap.size w W1 := by rw [hW1]; go_grown
              have hz1 : wr.heap.size ≤ W1.heap.size := by rw [hW1]; go_size
              clear hW1
              refine wp_region_quiet_below (by kernel_rfl) (by kernel_rfl) ?_
              try simp only [List.append]
              repeat (go_big_quiet_step (first | exact Calls.regrown_of ()))
              refine wpQuiet_nil ?_
              intro w2 hw2
              have hb : Below W1.heap.size W1 w2 := by obtain ⟨q, rfl⟩ := hw2; exact below_regrown _ _ _
              clear hw2
              have hw := chain hw1 (by omega) hb
              obtain ⟨hc, hf, hz⟩ := bcell hb
              clear hb
              go_wp2_with fail
              go_ret2
              exact ⟨by first | rfl | (simp; done), hw⟩
        · go_enter Try.func27, Try.ntmps27
          go_wp2_with fail
          go_loopw [6] (fun i w5 => i = .int .i64 0 ∧ Below w.heap.size w w5 ∧ w.heap.size ≤ w5.heap.size) (fun _ _ => 0)
          case atStart => exact ⟨rfl, Below.refl _ _, Nat.le_refl _⟩
          case round =>
            obtain ⟨rfl, hw, hsz⟩ := hrel
            go_wp2_with fail
            refine wp_gen ?_
            intro W1 hW1
            have hw1 : Below w.heap.size w W1 := by rw [hW1]; go_grown
            have hz1 : wr.heap.size ≤ W1.heap.size := by rw [hW1]; go_size
            clear hW1
            refine wp_region_quiet_below (by kernel_rfl) (by kernel_rfl) ?_
            try simp only [List.append]
            repeat (go_big_quiet_step (first | exact Calls.regrown_of ()))
            refine wpQuiet_nil ?_
            intro w2 hw2
            have hb : Below W1.heap.size W1 w2 := by obtain ⟨q, rfl⟩ := hw2; exact below_regrown _ _ _
            clear hw2
            have hw := chain hw1 (by omega) hb
            obtain ⟨hc, hf, hz⟩ := bcell hb
            clear hb
            go_wp2_with fail
            refine wp_gen ?_
            intro W1 hW1
            have hw1 : Below w.heap.size w W1 := by rw [hW1]; go_grown
            have hz1 : wr.heap.size ≤ W1.heap.size := by rw [hW1]; go_size
            clear hW1
            refine wp_region_quiet_below (by kernel_rfl) (by kernel_rfl) ?_
            try simp only [List.append]
            repeat (go_big_quiet_step (first | exact Calls.regrown_of ()))
            refine wpQuiet_nil ?_
            intro w2 hw2
            have hb : Below W1.heap.size W1 w2 := by obtain ⟨q, rfl⟩ := hw2; exact below_regrown _ _ _
            clear hw2
            have hw := chain hw1 (by omega) hb
            obtain ⟨hc, hf, hz⟩ := bcell hb
            clear hb
            go_wp2_with fail
            go_loopw [9] (fun i w5 => i = .int .i64 0 ∧ Below w.heap.size w w5 ∧ w.heap.size ≤ w5.heap.size) (fun _ _ => 0)
            case atStart => exact ⟨rfl, hw, hw.size⟩
            case round =>
              clear hw
              obtain ⟨rfl, hw, hsz⟩ := hrel
              go_wp2_with fail
              refine wp_gen ?_
              intro W1 hW1
              have hw1 : Below w.heap.size w W1 := by rw [hW1]; go_grown
              have hz1 : wr.heap.size ≤ W1.heap.size := by rw [hW1]; go_size
              clear hW1
              refine wp_region_quiet_below (by kernel_rfl) (by kernel_rfl) ?_
              try simp only [List.append]
              repeat (go_big_quiet_step (first | exact Calls.regrown_of ()))
              refine wpQuiet_nil ?_
              intro w2 hw2
              have hb : Below W1.heap.size W1 w2 := by obtain ⟨q, rfl⟩ := hw2; exact below_regrown _ _ _
              clear hw2
              have hw := chain hw1 (by omega) hb
              obtain ⟨hc, hf, hz⟩ := bcell hb
              clear hb
              go_wp2_with fail
              go_ret2
              exact ⟨by first | rfl | (simp; done), hw⟩
      · have g1 : decide (0 < xs.length) = true := decide_eq_true (by omega)
        have hca : ¬ cap = 0 := by omega
        go_enter Try.func27, Try.ntmps27
        go_wp2_with fail
        go_loopw [6] (fun i w5 => i = .int .i64 0 ∧ Below w.heap.size w w5 ∧ w.heap.size ≤ w5.heap.size) (fun _ _ => 0)
        case atStart => exact ⟨rfl, Below.refl _ _, Nat.le_refl _⟩
        case round =>
          obtain ⟨rfl, hw, hsz⟩ := hrel
          go_wp2_with fail
          refine wp_gen ?_
          intro W1 hW1
          have hw1 : Below w.heap.size w W1 := by rw [hW1]; go_grown
          have hz1 : wr.heap.size ≤ W1.heap.size := by rw [hW1]; go_size
          clear hW1
          refine wp_region_quiet_below (by kernel_rfl) (by kernel_rfl) ?_
          try simp only [List.append]
          repeat (go_big_quiet_step (first | exact Calls.regrown_of ()))
          refine wpQuiet_nil ?_
          intro w2 hw2
          have hb : Below W1.heap.size W1 w2 := by obtain ⟨q, rfl⟩ := hw2; exact below_regrown _ _ _
          clear hw2
          have hw := chain hw1 (by omega) hb
          obtain ⟨hc, hf, hz⟩ := bcell hb
          clear hb
          go_wp2_with fail
          refine wp_gen ?_
          intro W1 hW1
          have hw1 : Below w.heap.size w W1 := by rw [hW1]; go_grown
          have hz1 : wr.heap.size ≤ W1.heap.size := by rw [hW1]; go_size
          clear hW1
          refine wp_region_quiet_below (by kernel_rfl) (by kernel_rfl) ?_
          try simp only [List.append]
          repeat (go_big_quiet_step (first | exact Calls.regrown_of ()))
          refine wpQuiet_nil ?_
          intro w2 hw2
          have hb : Below W1.heap.size W1 w2 := by obtain ⟨q, rfl⟩ := hw2; exact below_regrown _ _ _
          clear hw2
          have hw := chain hw1 (by omega) hb
          obtain ⟨hc, hf, hz⟩ := bcell hb
          clear hb
          go_wp2_with fail
          go_loopw [9] (fun i w5 => i = .int .i64 0 ∧ Below w.heap.size w w5 ∧ w.heap.size ≤ w5.heap.size) (fun _ _ => 0)
          case atStart => exact ⟨rfl, hw, hw.size⟩
          case round =>
            clear hw
            obtain ⟨rfl, hw, hsz⟩ := hrel
            go_wp2_with fail
            refine wp_gen ?_
            intro W1 hW1
            have hw1 : Below w.heap.size w W1 := by rw [hW1]; go_grown
            have hz1 : wr.heap.size ≤ W1.heap.size := by rw [hW1]; go_size
            clear hW1
            refine wp_region_quiet_below (by kernel_rfl) (by kernel_rfl) ?_
            try simp only [List.append]
            repeat (go_big_quiet_step (first | exact Calls.regrown_of ()))
            refine wpQuiet_nil ?_
            intro w2 hw2
            have hb : Below W1.heap.size W1 w2 := by obtain ⟨q, rfl⟩ := hw2; exact below_regrown _ _ _
            clear hw2
            have hw := chain hw1 (by omega) hb
            obtain ⟨hc, hf, hz⟩ := bcell hb
            clear hb
            go_wp2_with fail
            go_ret2
            exact ⟨by first | rfl | (simp; done), hw⟩
    · exact rcommonMem_any xs ys b0 o0 cap b1 o1 cap' w c1 m1 lb0 h3 c2 m2 lb1 h4
end Go.Proofs.Ythokpgnenlfnjaa
