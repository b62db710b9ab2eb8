/-
  The specification's Count.
-/
import Derived.Test.YthokpgnenlfnjaaCn
namespace Go.Proofs.Ythokpgnenlfnjaa
open Go.RowKit Go.Sort
attribute [local go_sem] bv_and bv_or ofInt32_nat
set_option maxHeartbeats 4000000 in
theorem rcount_any (xs : List Snd) (v : Value) (c d : BitVec 32) (w0 : World) (h : Wd w0 v xs) : Gives 38 #[v, sn c.toNat d.toNat] w0 (.int .i64 (cnt xs (c, d) : Nat)) := by
  unfold Gives
  obtain ⟨ao, cap, rfl, c1, m1, H1⟩ := h.open
  have l1 := maxLen_lt (Nat.le_trans c1 m1)
  have H1 := Lib.hid H1
  clear h c1 m1
  go_enter Try.func38, Try.ntmps38
  go_wp2_with fail
  generalize hwB : w0.alloc (.cells #[.int .u32 (c.toNat : Int), .int .u32 (d.toNat : Int)] 32) = w
  have hBw : Below w0.heap.size w0 w := by rw [← hwB]; go_grown
  have hBs : w.heap.size = w0.heap.size + 1 := by rw [← hwB, World.size_alloc]
  have k0 : w.cell? ⟨w0.heap.size, 0, none⟩ = some (.int .u32 (c.toNat : Int)) := by rw [← hwB]; exact cell_block (World.alloc_heap_new w0 _) rfl
  have k1 : w.cell? ⟨w0.heap.size, 1, none⟩ = some (.int .u32 (d.toNat : Int)) := by rw [← hwB]; exact cell_block (World.alloc_heap_new w0 _) rfl
  clear hwB
  have hVc := fun W => rvalid_any c d W
  go_wp2_with fail
  go_loopw [6, 5] (fun i s wr => ∃ k : Nat, k ≤ xs.length ∧ i = .int .i64 (k : Int) ∧ s = .int .i64 (cnt (xs.take k) (c, d) : Nat) ∧ Below w.heap.size w wr ∧ w.heap.size ≤ wr.heap.size) (fun i _ _ => xs.length - (intOf i).toNat)
  case atStart => exact ⟨0, by omega, rfl, rfl, Below.refl _ _, Nat.le_refl _⟩
  case round =>
    obtain ⟨k, hk, rfl, rfl, hw, hsz⟩ := hrel
    have hcl := cnt_le xs (c, d) k
    by_cases hlt : k < xs.length
    · obtain ⟨b, off, rfl, lb, d0, d1⟩ := H1.out k hlt
      have hw9 := hBw.trans (hw.mono hBw.size)
      have d0 := (hw9.cell (p := ⟨b, off + k * 2, none⟩) lb).trans d0
      have d1 := (hw9.cell (p := ⟨b, off + k * 2 + 1, none⟩) lb).trans d1
      have e0 := (hw.cell (p := ⟨w0.heap.size, 0, none⟩) (by simp only []; omega)).trans k0
      have e1 := (hw.cell (p := ⟨w0.heap.size, 1, none⟩) (by simp only []; omega)).trans k1
      have hstep := cnt_succ (c := (c, d)) hlt rfl
      have lbr : b < wr.heap.size := by have := hw9.size; omega
      have lbw : w0.heap.size < wr.heap.size := by omega
      generalize xs[k] = x at *
      obtain ⟨x1, x2⟩ := x
      simp only at d0 d1
      rw [sat_ref] at hstep
      have hVs := fun W => rvalid_any x1 x2 W
      generalize cnt (xs.take k) (c, d) = N at *
      clear H1 hw9 k0 k1
      rcases hv : vd (c, d) with _ | _
      · rw [hv] at hVc hstep
        have HVC := Lib.hid hVc
        have HN : Hid (cnt (xs.take (k + 1)) (c, d) = N) := Lib.hid (by rw [hstep]; simp [])
        clear hstep hVc hVs hv
        go_wp2_with fail
        refine wp_gen ?_
        intro W1 hW1
        have hw1 : Below w.heap.size w W1 := by rw [hW1]; go_grown
        have hz1 : wr.heap.size ≤ W1.heap.size := by rw [hW1]; go_size
        have c0 : W1.cell? ⟨b, off + k * 2, none⟩ = some (.int .u32 (x1.toNat : Int)) := by rw [hW1]; first | assumption | go_cell | (go_simp; done) | exact cell_past (by first | assumption | omega) (by assumption)
        have c1 : W1.cell? ⟨b, off + k * 2 + 1, none⟩ = some (.int .u32 (x2.toNat : Int)) := by rw [hW1]; first | assumption | go_cell | (go_simp; done) | exact cell_past (by first | assumption | omega) (by assumption)
        have c2 : W1.cell? ⟨w0.heap.size, 0, none⟩ = some (.int .u32 (c.toNat : Int)) := by rw [hW1]; first | assumption | go_cell | (go_simp; done) | exact cell_past (by first | assumption | omega) (by assumption)
        have c3 : W1.cell? ⟨w0.heap.size, 1, none⟩ = some (.int .u32 (d.toNat : Int)) := by rw [hW1]; first | assumption | go_cell | (go_simp; done) | exact cell_past (by first | assumption | omega) (by assumption)
        clear hW1
        have k0 := cell_regrown c0
        have k1 := cell_regrown c1
        have k2 := cell_regrown c2
        have k3 := cell_regrown c3
        refine wp_region_quiet_below (by kernel_rfl) (by kernel_rfl) ?_
        try simp only [List.append]
        repeat (go_big_quiet_step (first | (go_at_call 52; with_reducible exact Calls.regrown_of (Gives.eq (HVC.out _) rfl rfl))))
        refine wpQuiet_nil ?_
        intro w2 hw2
        have hb : Below W1.heap.size W1 w2 := by obtain ⟨q, rfl⟩ := hw2; exact below_regrown _ _ _
        clear hw2
        clear k0 k1 k2 k3
        have hw := chain hw1 (by omega) hb
        obtain ⟨hc, hf, hz⟩ := bcell hb
        clear hb
        try have r0 : w2.cell? ⟨b, off + k * 2, none⟩ = some (.int .u32 (x1.toNat : Int)) := (hc _ _ (by omega)).trans c0
        try have r1 : w2.cell? ⟨b, off + k * 2 + 1, none⟩ = some (.int .u32 (x2.toNat : Int)) := (hc _ _ (by omega)).trans c1
        try have r2 : w2.cell? ⟨w0.heap.size, 0, none⟩ = some (.int .u32 (c.toNat : Int)) := (hc _ _ (by omega)).trans c2
        try have r3 : w2.cell? ⟨w0.heap.size, 1, none⟩ = some (.int .u32 (d.toNat : Int)) := (hc _ _ (by omega)).trans c3
        go_wp2_with fail
        go_roundw
        case rel => exact ⟨k + 1, by omega, by go_num, by rw [HN.out], hw, hw.size⟩
        case measure => simp [intOf]; omega
      · rw [hv] at hVc hstep
        have HVC := Lib.hid hVc
        rcases hs : vd (x1, x2) with _ | _
        · rw [hs] at hVs hstep
          have HVS := Lib.hid hVs
          have HN : Hid (cnt (xs.take (k + 1)) (c, d) = N) := Lib.hid (by rw [hstep]; simp [])
          clear hstep hVc hVs hv hs
          go_wp2_with fail
          refine wp_gen ?_
          intro W1 hW1
          have hw1 : Below w.heap.size w W1 := by rw [hW1]; go_grown
          have hz1 : wr.heap.size ≤ W1.heap.size := by rw [hW1]; go_size
          have c0 : W1.cell? ⟨b, off + k * 2, none⟩ = some (.int .u32 (x1.toNat : Int)) := by rw [hW1]; first | assumption | go_cell | (go_simp; done) | exact cell_past (by first | assumption | omega) (by assumption)
          have c1 : W1.cell? ⟨b, off + k * 2 + 1, none⟩ = some (.int .u32 (x2.toNat : Int)) := by rw [hW1]; first | assumption | go_cell | (go_simp; done) | exact cell_past (by first | assumption | omega) (by assumption)
          have c2 : W1.cell? ⟨w0.heap.size, 0, none⟩ = some (.int .u32 (c.toNat : Int)) := by rw [hW1]; first | assumption | go_cell | (go_simp; done) | exact cell_past (by first | assumption | omega) (by assumption)
          have c3 : W1.cell? ⟨w0.heap.size, 1, none⟩ = some (.int .u32 (d.toNat : Int)) := by rw [hW1]; first | assumption | go_cell | (go_simp; done) | exact cell_past (by first | assumption | omega) (by assumption)
          clear hW1
          have k0 := cell_regrown c0
          have k1 := cell_regrown c1
          have k2 := cell_regrown c2
          have k3 := cell_regrown c3
          refine wp_region_quiet_below (by kernel_rfl) (by kernel_rfl) ?_
          try simp only [List.append]
          repeat (go_big_quiet_step (first | (go_at_call 52; with_reducible exact Calls.regrown_of (Gives.eq (HVC.out _) rfl rfl)) | (go_at_call 52; with_reducible exact Calls.regrown_of (Gives.eq (HVS.out _) rfl rfl))))
          refine wpQuiet_nil ?_
          intro w2 hw2
          have hb : Below W1.heap.size W1 w2 := by obtain ⟨q, rfl⟩ := hw2; exact below_regrown _ _ _
          clear hw2
          clear k0 k1 k2 k3
          have hw := chain hw1 (by omega) hb
          obtain ⟨hc, hf, hz⟩ := bcell hb
          clear hb
          try have r0 : w2.cell? ⟨b, off + k * 2, none⟩ = some (.int .u32 (x1.toNat : Int)) := (hc _ _ (by omega)).trans c0
          try have r1 : w2.cell? ⟨b, off + k * 2 + 1, none⟩ = some (.int .u32 (x2.toNat : Int)) := (hc _ _ (by omega)).trans c1
          try have r2 : w2.cell? ⟨w0.heap.size, 0, none⟩ = some (.int .u32 (c.toNat : Int)) := (hc _ _ (by omega)).trans c2
          try have r3 : w2.cell? ⟨w0.heap.size, 1, none⟩ = some (.int .u32 (d.toNat : Int)) := (hc _ _ (by omega)).trans c3
          go_wp2_with fail
          go_roundw
          case rel => exact ⟨k + 1, by omega, by go_num, by rw [HN.out], hw, hw.size⟩
          case measure => simp [intOf]; omega
        · rw [hs] at hVs hstep
          have HVS := Lib.hid hVs
          by_cases h1 : x1.toNat &&& c.toNat = c.toNat
          · by_cases h2 : x2.toNat &&& d.toNat = d.toNat
            · skip
              have HN : Hid (cnt (xs.take (k + 1)) (c, d) = N + 1) := Lib.hid (by rw [hstep]; simp [h1, h2])
              clear hstep hVc hVs hv hs
              go_wp2_with fail
              refine wp_gen ?_
              intro W1 hW1
              have hw1 : Below w.heap.size w W1 := by rw [hW1]; go_grown
              have hz1 : wr.heap.size ≤ W1.heap.size := by rw [hW1]; go_size
              have c0 : W1.cell? ⟨b, off + k * 2, none⟩ = some (.int .u32 (x1.toNat : Int)) := by rw [hW1]; first | assumption | go_cell | (go_simp; done) | exact cell_past (by first | assumption | omega) (by assumption)
              have c1 : W1.cell? ⟨b, off + k * 2 + 1, none⟩ = some (.int .u32 (x2.toNat : Int)) := by rw [hW1]; first | assumption | go_cell | (go_simp; done) | exact cell_past (by first | assumption | omega) (by assumption)
              have c2 : W1.cell? ⟨w0.heap.size, 0, none⟩ = some (.int .u32 (c.toNat : Int)) := by rw [hW1]; first | assumption | go_cell | (go_simp; done) | exact cell_past (by first | assumption | omega) (by assumption)
              have c3 : W1.cell? ⟨w0.heap.size, 1, none⟩ = some (.int .u32 (d.toNat : Int)) := by rw [hW1]; first | assumption | go_cell | (go_simp; done) | exact cell_past (by first | assumption | omega) (by assumption)
              clear hW1
              have k0 := cell_regrown c0
              have k1 := cell_regrown c1
              have k2 := cell_regrown c2
              have k3 := cell_regrown c3
              refine wp_region_quiet_below (by kernel_rfl) (by kernel_rfl) ?_
              try simp only [List.append]
              repeat (go_big_quiet_step (first | (go_at_call 52; with_reducible exact Calls.regrown_of (Gives.eq (HVC.out _) rfl rfl)) | (go_at_call 52; with_reducible exact Calls.regrown_of (Gives.eq (HVS.out _) rfl rfl))))
              refine wpQuiet_nil ?_
              intro w2 hw2
              have hb : Below W1.heap.size W1 w2 := by obtain ⟨q, rfl⟩ := hw2; exact below_regrown _ _ _
              clear hw2
              clear k0 k1 k2 k3
              have hw := chain hw1 (by omega) hb
              obtain ⟨hc, hf, hz⟩ := bcell hb
              clear hb
              try have r0 : w2.cell? ⟨b, off + k * 2, none⟩ = some (.int .u32 (x1.toNat : Int)) := (hc _ _ (by omega)).trans c0
              try have r1 : w2.cell? ⟨b, off + k * 2 + 1, none⟩ = some (.int .u32 (x2.toNat : Int)) := (hc _ _ (by omega)).trans c1
              try have r2 : w2.cell? ⟨w0.heap.size, 0, none⟩ = some (.int .u32 (c.toNat : Int)) := (hc _ _ (by omega)).trans c2
              try have r3 : w2.cell? ⟨w0.heap.size, 1, none⟩ = some (.int .u32 (d.toNat : Int)) := (hc _ _ (by omega)).trans c3
              go_wp2_with fail
              go_roundw
              case rel => exact ⟨k + 1, by omega, by go_num, by rw [HN.out]; go_num, hw, hw.size⟩
              case measure => simp [intOf]; omega
            · have hb2 : (((x2.toNat &&& d.toNat : Nat) : Int) == (d.toNat : Int)) = false := by rw [Bool.eq_false_iff]; intro e; exact h2 (by have := beq_iff_eq.1 e; omega)
              have HN : Hid (cnt (xs.take (k + 1)) (c, d) = N) := Lib.hid (by rw [hstep]; simp [h1, h2])
              clear hstep hVc hVs hv hs h2
              go_wp2_with fail
              refine wp_gen ?_
              intro W1 hW1
              have hw1 : Below w.heap.size w W1 := by rw [hW1]; go_grown
              have hz1 : wr.heap.size ≤ W1.heap.size := by rw [hW1]; go_size
              have c0 : W1.cell? ⟨b, off + k * 2, none⟩ = some (.int .u32 (x1.toNat : Int)) := by rw [hW1]; first | assumption | go_cell | (go_simp; done) | exact cell_past (by first | assumption | omega) (by assumption)
              have c1 : W1.cell? ⟨b, off + k * 2 + 1, none⟩ = some (.int .u32 (x2.toNat : Int)) := by rw [hW1]; first | assumption | go_cell | (go_simp; done) | exact cell_past (by first | assumption | omega) (by assumption)
              have c2 : W1.cell? ⟨w0.heap.size, 0, none⟩ = some (.int .u32 (c.toNat : Int)) := by rw [hW1]; first | assumption | go_cell | (go_simp; done) | exact cell_past (by first | assumption | omega) (by assumption)
              have c3 : W1.cell? ⟨w0.heap.size, 1, none⟩ = some (.int .u32 (d.toNat : Int)) := by rw [hW1]; first | assumption | go_cell | (go_simp; done) | exact cell_past (by first | assumption | omega) (by assumption)
              clear hW1
              have k0 := cell_regrown c0
              have k1 := cell_regrown c1
              have k2 := cell_regrown c2
              have k3 := cell_regrown c3
              refine wp_region_quiet_below (by kernel_rfl) (by kernel_rfl) ?_
              try simp only [List.append]
              repeat (go_big_quiet_step (first | (go_at_call 52; with_reducible exact Calls.regrown_of (Gives.eq (HVC.out _) rfl rfl)) | (go_at_call 52; with_reducible exact Calls.regrown_of (Gives.eq (HVS.out _) rfl rfl))))
              refine wpQuiet_nil ?_
              intro w2 hw2
              have hb : Below W1.heap.size W1 w2 := by obtain ⟨q, rfl⟩ := hw2; exact below_regrown _ _ _
              clear hw2
              clear k0 k1 k2 k3
              have hw := chain hw1 (by omega) hb
              obtain ⟨hc, hf, hz⟩ := bcell hb
              clear hb
              try have r0 : w2.cell? ⟨b, off + k * 2, none⟩ = some (.int .u32 (x1.toNat : Int)) := (hc _ _ (by omega)).trans c0
              try have r1 : w2.cell? ⟨b, off + k * 2 + 1, none⟩ = some (.int .u32 (x2.toNat : Int)) := (hc _ _ (by omega)).trans c1
              try have r2 : w2.cell? ⟨w0.heap.size, 0, none⟩ = some (.int .u32 (c.toNat : Int)) := (hc _ _ (by omega)).trans c2
              try have r3 : w2.cell? ⟨w0.heap.size, 1, none⟩ = some (.int .u32 (d.toNat : Int)) := (hc _ _ (by omega)).trans c3
              go_wp2_with fail
              go_roundw
              case rel => exact ⟨k + 1, by omega, by go_num, by rw [HN.out], hw, hw.size⟩
              case measure => simp [intOf]; omega
          · have hb1 : (((x1.toNat &&& c.toNat : Nat) : Int) == (c.toNat : Int)) = false := by rw [Bool.eq_false_iff]; intro e; exact h1 (by have := beq_iff_eq.1 e; omega)
            have HN : Hid (cnt (xs.take (k + 1)) (c, d) = N) := Lib.hid (by rw [hstep]; simp [h1])
            clear hstep hVc hVs hv hs h1
            go_wp2_with fail
            refine wp_gen ?_
            intro W1 hW1
            have hw1 : Below w.heap.size w W1 := by rw [hW1]; go_grown
            have hz1 : wr.heap.size ≤ W1.heap.size := by rw [hW1]; go_size
            have c0 : W1.cell? ⟨b, off + k * 2, none⟩ = some (.int .u32 (x1.toNat : Int)) := by rw [hW1]; first | assumption | go_cell | (go_simp; done) | exact cell_past (by first | assumption | omega) (by assumption)
            have c1 : W1.cell? ⟨b, off + k * 2 + 1, none⟩ = some (.int .u32 (x2.toNat : Int)) := by rw [hW1]; first | assumption | go_cell | (go_simp; done) | exact cell_past (by first | assumption | omega) (by assumption)
            have c2 : W1.cell? ⟨w0.heap.size, 0, none⟩ = some (.int .u32 (c.toNat : Int)) := by rw [hW1]; first | assumption | go_cell | (go_simp; done) | exact cell_past (by first | assumption | omega) (by assumption)
            have c3 : W1.cell? ⟨w0.heap.size, 1, none⟩ = some (.int .u32 (d.toNat : Int)) := by rw [hW1]; first | assumption | go_cell | (go_simp; done) | exact cell_past (by first | assumption | omega) (by assumption)
            clear hW1
            have k0 := cell_regrown c0
            have k1 := cell_regrown c1
            have k2 := cell_regrown c2
            have k3 := cell_regrown c3
            refine wp_region_quiet_below (by kernel_rfl) (by kernel_rfl) ?_
            try simp only [List.append]
            repeat (go_big_quiet_step (first | (go_at_call 52; with_reducible exact Calls.regrown_of (Gives.eq (HVC.out _) rfl rfl)) | (go_at_call 52; with_reducible exact Calls.regrown_of (Gives.eq (HVS.out _) rfl rfl))))
            refine wpQuiet_nil ?_
            intro w2 hw2
            have hb : Below W1.heap.size W1 w2 := by obtain ⟨q, rfl⟩ := hw2; exact below_regrown _ _ _
            clear hw2
            clear k0 k1 k2 k3
            have hw := chain hw1 (by omega) hb
            obtain ⟨hc, hf, hz⟩ := bcell hb
            clear hb
            try have r0 : w2.cell? ⟨b, off + k * 2, none⟩ = some (.int .u32 (x1.toNat : Int)) := (hc _ _ (by omega)).trans c0
            try have r1 : w2.cell? ⟨b, off + k * 2 + 1, none⟩ = some (.int .u32 (x2.toNat : Int)) := (hc _ _ (by omega)).trans c1
            try have r2 : w2.cell? ⟨w0.heap.size, 0, none⟩ = some (.int .u32 (c.toNat : Int)) := (hc _ _ (by omega)).trans c2
            try have r3 : w2.cell? ⟨w0.heap.size, 1, none⟩ = some (.int .u32 (d.toNat : Int)) := (hc _ _ (by omega)).trans c3
            go_wp2_with fail
            go_roundw
            case rel => exact ⟨k + 1, by omega, by go_num, by rw [HN.out], hw, hw.size⟩
            case measure => simp [intOf]; omega
    · obtain rfl : k = xs.length := by omega
      have HT : Hid (xs.take xs.length = xs) := Lib.hid List.take_length
      clear H1
      go_wp2_with fail
      go_returns
      exact ⟨by first | rfl | (rw [HT.out]; done) | (rw [HT.out]; rfl), hBw.trans (hw.mono hBw.size)⟩
end Go.Proofs.Ythokpgnenlfnjaa
