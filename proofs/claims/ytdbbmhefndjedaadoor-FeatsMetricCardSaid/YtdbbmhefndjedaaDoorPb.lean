/-
  The specification's Diff and Satisfies: what they return.
-/
import Derived.Test.YtdbbmhefndjedaaDoorPa
import Derived.Test.YtdbbmhefndjedaaDoorRl
namespace Go.Proofs.YtdbbmhefndjedaaDoor
open Go.RowKit Go.Sort
attribute [local go_sem ↓] snd_eql snd_neq
theorem gens_calls {P : Program} {f : Nat} {args : Array Value} {W : World} {Q : Ending → World → Prop} (h : ∀ W1, W1 = W → Calls P f args W1 Q) : Calls P f args W Q := h W rfl
set_option maxHeartbeats 4000000 in
theorem rdiff_bad (p m q n : BitVec 32) (hv : (vld p m && vld q n) = false) (w : World) : Gives 31 #[sn p.toNat m.toNat, sn q.toNat n.toNat] w (.int .u32 0) := by
  unfold Gives
  rcases h1 : vld p m with _ | _
  · have H1 := Lib.hid h1; clear h1 hv
    go_enter Tryd.func31, Tryd.ntmps31
    go_wp2_with (go_at_call 18; with_reducible refine Gives.then (Gives.eq (rvalid_any p m _) rfl (by rw [H1.out])) ?_; intro w1 hb; have hw := chain (B := w.heap.size) (a := w) (by go_grown) (by go_size) hb; (first | have h0 := chain (h0.trans (by go_grown)) (by go_size) hb | have h0 := hb); obtain ⟨hc, hf, hz⟩ := bcell hb; obtain ⟨hc0, hf0, hz0⟩ := bcell h0; clear hb; (try simp only [World.size_alloc, World.size_setCell, World.size_drew] at hc hf hz hc0 hf0 hz0); (first | (have hy := (hc _ _ (by omega)).trans r0; have r0 := hy; clear hy) | (have hy := (hc _ _ (by omega)).trans (cell_past (by omega) r0); have r0 := hy; clear hy) | skip); (first | (have hy := (hc _ _ (by omega)).trans r1; have r1 := hy; clear hy) | (have hy := (hc _ _ (by omega)).trans (cell_past (by omega) r1); have r1 := hy; clear hy) | skip); (first | (have hy := (hc _ _ (by omega)).trans r2; have r2 := hy; clear hy) | (have hy := (hc _ _ (by omega)).trans (cell_past (by omega) r2); have r2 := hy; clear hy) | skip); (first | (have hy := (hc _ _ (by omega)).trans r3; have r3 := hy; clear hy) | (have hy := (hc _ _ (by omega)).trans (cell_past (by omega) r3); have r3 := hy; clear hy) | skip); (try have s0 := fun X => cell_past (X := X) (by omega : w.heap.size < w1.heap.size) r0); (try have s1 := fun X => cell_past (X := X) (by omega : w.heap.size < w1.heap.size) r1); (try have s2 := fun X => cell_past (X := X) (by omega : w.heap.size + 1 < w1.heap.size) r2); (try have s3 := fun X => cell_past (X := X) (by omega : w.heap.size + 1 < w1.heap.size) r3))
    go_returns
    exact ⟨rfl, hw⟩
  · rw [h1, Bool.true_and] at hv
    have H1 := Lib.hid h1; have H2 := Lib.hid hv; clear h1 hv
    go_enter Tryd.func31, Tryd.ntmps31
    go_wp2_with (first | (go_at_call 18; with_reducible refine Gives.then (Gives.eq (rvalid_any p m _) rfl (by rw [H1.out])) ?_; intro w1 hb; have hw := chain (B := w.heap.size) (a := w) (by go_grown) (by go_size) hb; (first | have h0 := chain (h0.trans (by go_grown)) (by go_size) hb | have h0 := hb); obtain ⟨hc, hf, hz⟩ := bcell hb; obtain ⟨hc0, hf0, hz0⟩ := bcell h0; clear hb; (try simp only [World.size_alloc, World.size_setCell, World.size_drew] at hc hf hz hc0 hf0 hz0); (first | (have hy := (hc _ _ (by omega)).trans r0; have r0 := hy; clear hy) | (have hy := (hc _ _ (by omega)).trans (cell_past (by omega) r0); have r0 := hy; clear hy) | skip); (first | (have hy := (hc _ _ (by omega)).trans r1; have r1 := hy; clear hy) | (have hy := (hc _ _ (by omega)).trans (cell_past (by omega) r1); have r1 := hy; clear hy) | skip); (first | (have hy := (hc _ _ (by omega)).trans r2; have r2 := hy; clear hy) | (have hy := (hc _ _ (by omega)).trans (cell_past (by omega) r2); have r2 := hy; clear hy) | skip); (first | (have hy := (hc _ _ (by omega)).trans r3; have r3 := hy; clear hy) | (have hy := (hc _ _ (by omega)).trans (cell_past (by omega) r3); have r3 := hy; clear hy) | skip); (try have s0 := fun X => cell_past (X := X) (by omega : w.heap.size < w1.heap.size) r0); (try have s1 := fun X => cell_past (X := X) (by omega : w.heap.size < w1.heap.size) r1); (try have s2 := fun X => cell_past (X := X) (by omega : w.heap.size + 1 < w1.heap.size) r2); (try have s3 := fun X => cell_past (X := X) (by omega : w.heap.size + 1 < w1.heap.size) r3)) | (go_at_call 18; with_reducible refine Gives.then (Gives.eq (rvalid_any q n _) rfl (by rw [H2.out])) ?_; intro w1 hb; have hw := chain (B := w.heap.size) (a := w) (by go_grown) (by go_size) hb; (first | have h0 := chain (h0.trans (by go_grown)) (by go_size) hb | have h0 := hb); obtain ⟨hc, hf, hz⟩ := bcell hb; obtain ⟨hc0, hf0, hz0⟩ := bcell h0; clear hb; (try simp only [World.size_alloc, World.size_setCell, World.size_drew] at hc hf hz hc0 hf0 hz0); (first | (have hy := (hc _ _ (by omega)).trans r0; have r0 := hy; clear hy) | (have hy := (hc _ _ (by omega)).trans (cell_past (by omega) r0); have r0 := hy; clear hy) | skip); (first | (have hy := (hc _ _ (by omega)).trans r1; have r1 := hy; clear hy) | (have hy := (hc _ _ (by omega)).trans (cell_past (by omega) r1); have r1 := hy; clear hy) | skip); (first | (have hy := (hc _ _ (by omega)).trans r2; have r2 := hy; clear hy) | (have hy := (hc _ _ (by omega)).trans (cell_past (by omega) r2); have r2 := hy; clear hy) | skip); (first | (have hy := (hc _ _ (by omega)).trans r3; have r3 := hy; clear hy) | (have hy := (hc _ _ (by omega)).trans (cell_past (by omega) r3); have r3 := hy; clear hy) | skip); (try have s0 := fun X => cell_past (X := X) (by omega : w.heap.size < w1.heap.size) r0); (try have s1 := fun X => cell_past (X := X) (by omega : w.heap.size < w1.heap.size) r1); (try have s2 := fun X => cell_past (X := X) (by omega : w.heap.size + 1 < w1.heap.size) r2); (try have s3 := fun X => cell_past (X := X) (by omega : w.heap.size + 1 < w1.heap.size) r3)))
    go_returns
    exact ⟨rfl, hw⟩
set_option maxHeartbeats 4000000 in
theorem rdiff_ok (p m q n D : BitVec 32) (h1 : vld p m = true) (h2 : vld q n = true) (hD : D = (p ^^^ q) ||| (m ^^^ n)) (w : World) : Gives 31 #[sn p.toNat m.toNat, sn q.toNat n.toNat] w (.int .u32 D.toNat) := by
  unfold Gives
  have hbit := fun k hk => (congrArg (fun z => z.getLsbD k) hD).trans (diff_bit h1 h2 k hk)
  have hend : mix D 0#32 24 = D := mix_all fun j hj h24 => by
    rw [hD, diff_bit h1 h2 j hj]
    obtain ⟨a1, a2⟩ := vld_high h1 j hj h24
    obtain ⟨b1, b2⟩ := vld_high h2 j hj h24
    simp [getV, a1, a2, b1, b2]
  have HB := Lib.hid hbit; have HE := Lib.hid hend; clear hbit hend hD
  have H1 := Lib.hid h1; have H2 := Lib.hid h2; clear h1 h2
  go_enter Tryd.func31, Tryd.ntmps31
  go_wp2_with (first | (go_at_call 18; with_reducible refine Gives.then (Gives.eq (rvalid_any p m _) rfl (by rw [H1.out])) ?_; intro w1 hb; have hw := chain (B := w.heap.size) (a := w) (by go_grown) (by go_size) hb; (first | have h0 := chain (h0.trans (by go_grown)) (by go_size) hb | have h0 := hb); obtain ⟨hc, hf, hz⟩ := bcell hb; obtain ⟨hc0, hf0, hz0⟩ := bcell h0; clear hb; (try simp only [World.size_alloc, World.size_setCell, World.size_drew] at hc hf hz hc0 hf0 hz0); (first | (have hy := (hc _ _ (by omega)).trans r0; have r0 := hy; clear hy) | (have hy := (hc _ _ (by omega)).trans (cell_past (by omega) r0); have r0 := hy; clear hy) | skip); (first | (have hy := (hc _ _ (by omega)).trans r1; have r1 := hy; clear hy) | (have hy := (hc _ _ (by omega)).trans (cell_past (by omega) r1); have r1 := hy; clear hy) | skip); (first | (have hy := (hc _ _ (by omega)).trans r2; have r2 := hy; clear hy) | (have hy := (hc _ _ (by omega)).trans (cell_past (by omega) r2); have r2 := hy; clear hy) | skip); (first | (have hy := (hc _ _ (by omega)).trans r3; have r3 := hy; clear hy) | (have hy := (hc _ _ (by omega)).trans (cell_past (by omega) r3); have r3 := hy; clear hy) | skip); (try have s0 := fun X => cell_past (X := X) (by omega : w.heap.size < w1.heap.size) r0); (try have s1 := fun X => cell_past (X := X) (by omega : w.heap.size < w1.heap.size) r1); (try have s2 := fun X => cell_past (X := X) (by omega : w.heap.size + 1 < w1.heap.size) r2); (try have s3 := fun X => cell_past (X := X) (by omega : w.heap.size + 1 < w1.heap.size) r3)) | (go_at_call 18; with_reducible refine Gives.then (Gives.eq (rvalid_any q n _) rfl (by rw [H2.out])) ?_; intro w1 hb; have hw := chain (B := w.heap.size) (a := w) (by go_grown) (by go_size) hb; (first | have h0 := chain (h0.trans (by go_grown)) (by go_size) hb | have h0 := hb); obtain ⟨hc, hf, hz⟩ := bcell hb; obtain ⟨hc0, hf0, hz0⟩ := bcell h0; clear hb; (try simp only [World.size_alloc, World.size_setCell, World.size_drew] at hc hf hz hc0 hf0 hz0); (first | (have hy := (hc _ _ (by omega)).trans r0; have r0 := hy; clear hy) | (have hy := (hc _ _ (by omega)).trans (cell_past (by omega) r0); have r0 := hy; clear hy) | skip); (first | (have hy := (hc _ _ (by omega)).trans r1; have r1 := hy; clear hy) | (have hy := (hc _ _ (by omega)).trans (cell_past (by omega) r1); have r1 := hy; clear hy) | skip); (first | (have hy := (hc _ _ (by omega)).trans r2; have r2 := hy; clear hy) | (have hy := (hc _ _ (by omega)).trans (cell_past (by omega) r2); have r2 := hy; clear hy) | skip); (first | (have hy := (hc _ _ (by omega)).trans r3; have r3 := hy; clear hy) | (have hy := (hc _ _ (by omega)).trans (cell_past (by omega) r3); have r3 := hy; clear hy) | skip); (try have s0 := fun X => cell_past (X := X) (by omega : w.heap.size < w1.heap.size) r0); (try have s1 := fun X => cell_past (X := X) (by omega : w.heap.size < w1.heap.size) r1); (try have s2 := fun X => cell_past (X := X) (by omega : w.heap.size + 1 < w1.heap.size) r2); (try have s3 := fun X => cell_past (X := X) (by omega : w.heap.size + 1 < w1.heap.size) r3)))
  first | refine wp_gen ?_ | refine calls_gen ?_
  intro W1 hW1
  have hw1 : Below w.heap.size w W1 := by rw [hW1]; go_grown
  have hz1 : w.heap.size + 1 + 1 ≤ W1.heap.size := by rw [hW1]; go_size
  have g0 : W1.cell? ⟨w.heap.size, 0, none⟩ = some (.int .u32 p.toNat) := by rw [hW1]; first | go_cell | (go_simp; done) | (simp [hc, hf, hc0, hf0]; done) | (refine cell_past (by omega) ?_; rw [hc0 _ _ (by omega)]; first | go_cell | (go_simp; done)) | (refine frozen_past (by omega) ?_; rw [hf0 _ _ (by omega)]; first | (go_simp; done) | (simp; done)) | (refine keep_set ?_ (by (try simp only []); omega); first | assumption | (refine keep_set ?_ (by (try simp only []); omega); assumption))
  have g1 : W1.cell? ⟨w.heap.size, 1, none⟩ = some (.int .u32 m.toNat) := by rw [hW1]; first | go_cell | (go_simp; done) | (simp [hc, hf, hc0, hf0]; done) | (refine cell_past (by omega) ?_; rw [hc0 _ _ (by omega)]; first | go_cell | (go_simp; done)) | (refine frozen_past (by omega) ?_; rw [hf0 _ _ (by omega)]; first | (go_simp; done) | (simp; done)) | (refine keep_set ?_ (by (try simp only []); omega); first | assumption | (refine keep_set ?_ (by (try simp only []); omega); assumption))
  have g2 : W1.cell? ⟨w.heap.size + 1, 0, none⟩ = some (.int .u32 q.toNat) := by rw [hW1]; first | go_cell | (go_simp; done) | (simp [hc, hf, hc0, hf0]; done) | (refine cell_past (by omega) ?_; rw [hc0 _ _ (by omega)]; first | go_cell | (go_simp; done)) | (refine frozen_past (by omega) ?_; rw [hf0 _ _ (by omega)]; first | (go_simp; done) | (simp; done)) | (refine keep_set ?_ (by (try simp only []); omega); first | assumption | (refine keep_set ?_ (by (try simp only []); omega); assumption))
  have g3 : W1.cell? ⟨w.heap.size + 1, 1, none⟩ = some (.int .u32 n.toNat) := by rw [hW1]; first | go_cell | (go_simp; done) | (simp [hc, hf, hc0, hf0]; done) | (refine cell_past (by omega) ?_; rw [hc0 _ _ (by omega)]; first | go_cell | (go_simp; done)) | (refine frozen_past (by omega) ?_; rw [hf0 _ _ (by omega)]; first | (go_simp; done) | (simp; done)) | (refine keep_set ?_ (by (try simp only []); omega); first | assumption | (refine keep_set ?_ (by (try simp only []); omega); assumption))
  clear hW1
  clear hc hf hz hc0 hf0 hz0 h0 hw
  go_loopw [6, 5] (fun i o wr => ∃ k : Nat, k ≤ 24 ∧ i = .int .i64 (k : Int) ∧ o = .int .u32 (mix D 0#32 k).toNat ∧ wr.cell? ⟨w.heap.size, 0, none⟩ = some (.int .u32 p.toNat) ∧ wr.cell? ⟨w.heap.size, 1, none⟩ = some (.int .u32 m.toNat) ∧ wr.cell? ⟨w.heap.size + 1, 0, none⟩ = some (.int .u32 q.toNat) ∧ wr.cell? ⟨w.heap.size + 1, 1, none⟩ = some (.int .u32 n.toNat) ∧ Below w.heap.size w wr ∧ w.heap.size + 2 ≤ wr.heap.size) (fun i _ _ => 24 - (intOf i).toNat)
  case atStart => exact ⟨0, by omega, rfl, by rw [mix_zero]; rfl, g0, g1, g2, g3, hw1, by omega⟩
  case round =>
    clear g0 g1 g2 g3 hw1 hz1
    obtain ⟨k, hk, rfl, rfl, r0, r1, r2, r3, hw, hsz⟩ := hrel
    by_cases hlt : k < 24
    · have hg1 := rgv p m k hlt
      have hg2 := rgv q n k hlt
      rw [gV_of H1.out] at hg1
      rw [gV_of H2.out] at hg2
      have hb := HB.out k (by omega)
      generalize getV p m k = a at *
      generalize getV q n k = b at *
      have hbk := pow_bit k (by omega)
      have HBB := Lib.hid hb; clear hb
      by_cases hab : a = b
      · go_wp2_with fail
        refine wp_gen ?_
        intro W1 hW1
        have hw1 : Below w.heap.size w W1 := by rw [hW1]; go_grown
        have hz1 : wr.heap.size ≤ W1.heap.size := by rw [hW1]; go_size
        have c0 : W1.cell? ⟨w.heap.size, 0, none⟩ = some (.int .u32 p.toNat) := by rw [hW1]; first | assumption | go_cell | (go_simp; done) | exact cell_past (by first | assumption | omega) (by assumption)
        have c1 : W1.cell? ⟨w.heap.size, 1, none⟩ = some (.int .u32 m.toNat) := by rw [hW1]; first | assumption | go_cell | (go_simp; done) | exact cell_past (by first | assumption | omega) (by assumption)
        have c2 : W1.cell? ⟨w.heap.size + 1, 0, none⟩ = some (.int .u32 q.toNat) := by rw [hW1]; first | assumption | go_cell | (go_simp; done) | exact cell_past (by first | assumption | omega) (by assumption)
        have c3 : W1.cell? ⟨w.heap.size + 1, 1, none⟩ = some (.int .u32 n.toNat) := by rw [hW1]; first | assumption | go_cell | (go_simp; done) | exact cell_past (by first | assumption | omega) (by assumption)
        clear hW1
        have k0 := cell_regrown c0
        have k1 := cell_regrown c1
        have k2 := cell_regrown c2
        have k3 := cell_regrown c3
        refine wp_region_quiet_below (by kernel_rfl) (by kernel_rfl) ?_
        try simp only [List.append]
        repeat (go_big_quiet_step (first | (go_at_call 20; with_reducible exact Calls.regrown_of (hg1 _)) | (go_at_call 20; with_reducible exact Calls.regrown_of (hg2 _))))
        refine wpQuiet_nil ?_
        intro w2 hw2
        have hb : Below W1.heap.size W1 w2 := by obtain ⟨q, rfl⟩ := hw2; exact below_regrown _ _ _
        clear hw2
        clear k0 k1 k2 k3
        have hw := chain hw1 (by omega) hb
        obtain ⟨hc, hf, hz⟩ := bcell hb
        clear hb
        try have r0 : w2.cell? ⟨w.heap.size, 0, none⟩ = some (.int .u32 p.toNat) := (hc _ _ (by omega)).trans c0
        try have r1 : w2.cell? ⟨w.heap.size, 1, none⟩ = some (.int .u32 m.toNat) := (hc _ _ (by omega)).trans c1
        try have r2 : w2.cell? ⟨w.heap.size + 1, 0, none⟩ = some (.int .u32 q.toNat) := (hc _ _ (by omega)).trans c2
        try have r3 : w2.cell? ⟨w.heap.size + 1, 1, none⟩ = some (.int .u32 n.toNat) := (hc _ _ (by omega)).trans c3
        go_wp2_with fail
        go_roundw
        case rel => exact ⟨k + 1, by omega, by go_num, by rw [mix_keep D 0#32 k (by rw [HBB.out, hab]; simp)], r0, r1, r2, r3, hw, by omega⟩
        case measure => simp [intOf]; omega
      · have hne : (a == b) = false := by simpa using hab
        have hne2 : (a != b) = true := by simpa using hab
        have hmb := mix_bit D 0#32 k (by omega) (by rw [HBB.out]; simpa using hab) rfl
        have hor := b_or (mix D 0#32 k) (bit k)
        rw [hmb] at hor
        clear hmb
        obtain ⟨M1, hM1⟩ : ∃ M1, mix D 0#32 (k + 1) = M1 := ⟨_, rfl⟩
        rw [hM1] at hor
        have HM := Lib.hid hM1; clear hM1
        go_wp2_with fail
        refine wp_gen ?_
        intro W1 hW1
        have hw1 : Below w.heap.size w W1 := by rw [hW1]; go_grown
        have hz1 : wr.heap.size ≤ W1.heap.size := by rw [hW1]; go_size
        have c0 : W1.cell? ⟨w.heap.size, 0, none⟩ = some (.int .u32 p.toNat) := by rw [hW1]; first | assumption | go_cell | (go_simp; done) | exact cell_past (by first | assumption | omega) (by assumption)
        have c1 : W1.cell? ⟨w.heap.size, 1, none⟩ = some (.int .u32 m.toNat) := by rw [hW1]; first | assumption | go_cell | (go_simp; done) | exact cell_past (by first | assumption | omega) (by assumption)
        have c2 : W1.cell? ⟨w.heap.size + 1, 0, none⟩ = some (.int .u32 q.toNat) := by rw [hW1]; first | assumption | go_cell | (go_simp; done) | exact cell_past (by first | assumption | omega) (by assumption)
        have c3 : W1.cell? ⟨w.heap.size + 1, 1, none⟩ = some (.int .u32 n.toNat) := by rw [hW1]; first | assumption | go_cell | (go_simp; done) | exact cell_past (by first | assumption | omega) (by assumption)
        clear hW1
        have k0 := cell_regrown c0
        have k1 := cell_regrown c1
        have k2 := cell_regrown c2
        have k3 := cell_regrown c3
        refine wp_region_quiet_below (by kernel_rfl) (by kernel_rfl) ?_
        try simp only [List.append]
        repeat (go_big_quiet_step (first | (go_at_call 20; with_reducible exact Calls.regrown_of (hg1 _)) | (go_at_call 20; with_reducible exact Calls.regrown_of (hg2 _))))
        refine wpQuiet_nil ?_
        intro w2 hw2
        have hb : Below W1.heap.size W1 w2 := by obtain ⟨q, rfl⟩ := hw2; exact below_regrown _ _ _
        clear hw2
        clear k0 k1 k2 k3
        have hw := chain hw1 (by omega) hb
        obtain ⟨hc, hf, hz⟩ := bcell hb
        clear hb
        try have r0 : w2.cell? ⟨w.heap.size, 0, none⟩ = some (.int .u32 p.toNat) := (hc _ _ (by omega)).trans c0
        try have r1 : w2.cell? ⟨w.heap.size, 1, none⟩ = some (.int .u32 m.toNat) := (hc _ _ (by omega)).trans c1
        try have r2 : w2.cell? ⟨w.heap.size + 1, 0, none⟩ = some (.int .u32 q.toNat) := (hc _ _ (by omega)).trans c2
        try have r3 : w2.cell? ⟨w.heap.size + 1, 1, none⟩ = some (.int .u32 n.toNat) := (hc _ _ (by omega)).trans c3
        go_wp2_with fail
        go_roundw
        case rel => exact ⟨k + 1, by omega, by go_num, by rw [HM.out], r0, r1, r2, r3, hw, by omega⟩
        case measure => simp [intOf]; omega
    · obtain rfl : k = 24 := by omega
      rw [HE.out]
      go_wp2_with fail
      go_returns
      exact ⟨rfl, hw⟩
set_option maxHeartbeats 4000000 in
theorem rsat_bad (p m q n : BitVec 32) (hv : (vld p m && vld q n) = false) (w : World) : Gives 25 #[sn p.toNat m.toNat, sn q.toNat n.toNat] w (.bool false) := by
  unfold Gives
  rcases h1 : vld p m with _ | _
  · have H1 := Lib.hid h1; clear h1 hv
    go_enter Tryd.func25, Tryd.ntmps25
    go_wp2_with (go_at_call 18; with_reducible refine Gives.then (Gives.eq (rvalid_any p m _) rfl (by rw [H1.out])) ?_; intro w1 hb; have hw := chain (B := w.heap.size) (a := w) (by go_grown) (by go_size) hb; (first | have h0 := chain (h0.trans (by go_grown)) (by go_size) hb | have h0 := hb); obtain ⟨hc, hf, hz⟩ := bcell hb; obtain ⟨hc0, hf0, hz0⟩ := bcell h0; clear hb; (try simp only [World.size_alloc, World.size_setCell, World.size_drew] at hc hf hz hc0 hf0 hz0); (first | (have hy := (hc _ _ (by omega)).trans r0; have r0 := hy; clear hy) | (have hy := (hc _ _ (by omega)).trans (cell_past (by omega) r0); have r0 := hy; clear hy) | skip); (first | (have hy := (hc _ _ (by omega)).trans r1; have r1 := hy; clear hy) | (have hy := (hc _ _ (by omega)).trans (cell_past (by omega) r1); have r1 := hy; clear hy) | skip); (first | (have hy := (hc _ _ (by omega)).trans r2; have r2 := hy; clear hy) | (have hy := (hc _ _ (by omega)).trans (cell_past (by omega) r2); have r2 := hy; clear hy) | skip); (first | (have hy := (hc _ _ (by omega)).trans r3; have r3 := hy; clear hy) | (have hy := (hc _ _ (by omega)).trans (cell_past (by omega) r3); have r3 := hy; clear hy) | skip); (try have s0 := fun X => cell_past (X := X) (by omega : w.heap.size < w1.heap.size) r0); (try have s1 := fun X => cell_past (X := X) (by omega : w.heap.size < w1.heap.size) r1); (try have s2 := fun X => cell_past (X := X) (by omega : w.heap.size + 1 < w1.heap.size) r2); (try have s3 := fun X => cell_past (X := X) (by omega : w.heap.size + 1 < w1.heap.size) r3))
    go_returns
    exact ⟨rfl, hw⟩
  · rw [h1, Bool.true_and] at hv
    have H1 := Lib.hid h1; have H2 := Lib.hid hv; clear h1 hv
    go_enter Tryd.func25, Tryd.ntmps25
    go_wp2_with (first | (go_at_call 18; with_reducible refine Gives.then (Gives.eq (rvalid_any p m _) rfl (by rw [H1.out])) ?_; intro w1 hb; have hw := chain (B := w.heap.size) (a := w) (by go_grown) (by go_size) hb; (first | have h0 := chain (h0.trans (by go_grown)) (by go_size) hb | have h0 := hb); obtain ⟨hc, hf, hz⟩ := bcell hb; obtain ⟨hc0, hf0, hz0⟩ := bcell h0; clear hb; (try simp only [World.size_alloc, World.size_setCell, World.size_drew] at hc hf hz hc0 hf0 hz0); (first | (have hy := (hc _ _ (by omega)).trans r0; have r0 := hy; clear hy) | (have hy := (hc _ _ (by omega)).trans (cell_past (by omega) r0); have r0 := hy; clear hy) | skip); (first | (have hy := (hc _ _ (by omega)).trans r1; have r1 := hy; clear hy) | (have hy := (hc _ _ (by omega)).trans (cell_past (by omega) r1); have r1 := hy; clear hy) | skip); (first | (have hy := (hc _ _ (by omega)).trans r2; have r2 := hy; clear hy) | (have hy := (hc _ _ (by omega)).trans (cell_past (by omega) r2); have r2 := hy; clear hy) | skip); (first | (have hy := (hc _ _ (by omega)).trans r3; have r3 := hy; clear hy) | (have hy := (hc _ _ (by omega)).trans (cell_past (by omega) r3); have r3 := hy; clear hy) | skip); (try have s0 := fun X => cell_past (X := X) (by omega : w.heap.size < w1.heap.size) r0); (try have s1 := fun X => cell_past (X := X) (by omega : w.heap.size < w1.heap.size) r1); (try have s2 := fun X => cell_past (X := X) (by omega : w.heap.size + 1 < w1.heap.size) r2); (try have s3 := fun X => cell_past (X := X) (by omega : w.heap.size + 1 < w1.heap.size) r3)) | (go_at_call 18; with_reducible refine Gives.then (Gives.eq (rvalid_any q n _) rfl (by rw [H2.out])) ?_; intro w1 hb; have hw := chain (B := w.heap.size) (a := w) (by go_grown) (by go_size) hb; (first | have h0 := chain (h0.trans (by go_grown)) (by go_size) hb | have h0 := hb); obtain ⟨hc, hf, hz⟩ := bcell hb; obtain ⟨hc0, hf0, hz0⟩ := bcell h0; clear hb; (try simp only [World.size_alloc, World.size_setCell, World.size_drew] at hc hf hz hc0 hf0 hz0); (first | (have hy := (hc _ _ (by omega)).trans r0; have r0 := hy; clear hy) | (have hy := (hc _ _ (by omega)).trans (cell_past (by omega) r0); have r0 := hy; clear hy) | skip); (first | (have hy := (hc _ _ (by omega)).trans r1; have r1 := hy; clear hy) | (have hy := (hc _ _ (by omega)).trans (cell_past (by omega) r1); have r1 := hy; clear hy) | skip); (first | (have hy := (hc _ _ (by omega)).trans r2; have r2 := hy; clear hy) | (have hy := (hc _ _ (by omega)).trans (cell_past (by omega) r2); have r2 := hy; clear hy) | skip); (first | (have hy := (hc _ _ (by omega)).trans r3; have r3 := hy; clear hy) | (have hy := (hc _ _ (by omega)).trans (cell_past (by omega) r3); have r3 := hy; clear hy) | skip); (try have s0 := fun X => cell_past (X := X) (by omega : w.heap.size < w1.heap.size) r0); (try have s1 := fun X => cell_past (X := X) (by omega : w.heap.size < w1.heap.size) r1); (try have s2 := fun X => cell_past (X := X) (by omega : w.heap.size + 1 < w1.heap.size) r2); (try have s3 := fun X => cell_past (X := X) (by omega : w.heap.size + 1 < w1.heap.size) r3)))
    go_returns
    exact ⟨rfl, hw⟩
theorem sat_yes {p m q n : BitVec 32} (h1 : vld p m = true) (h2 : vld q n = true) (h : ∀ j, j < 24 → getV q n j = 0 ∨ getV p m j = getV q n j) : ((p &&& q == q) && (m &&& n == n)) = true := by
  rw [Bool.and_eq_true, beq_iff_eq, beq_iff_eq]
  have key : ∀ j, j < 32 → (p.getLsbD j && q.getLsbD j) = q.getLsbD j ∧ (m.getLsbD j && n.getLsbD j) = n.getLsbD j := fun j hj => by
    rcases Nat.lt_or_ge j 24 with h24 | h24
    · obtain ⟨a1, a2⟩ := getV_bits h1 j hj
      obtain ⟨b1, b2⟩ := getV_bits h2 j hj
      rw [a1, a2, b1, b2]
      rcases h j h24 with e | e
      · simp [e]
      · simp [e]
    · obtain ⟨b1, b2⟩ := vld_high h2 j hj h24
      simp [b1, b2]
  exact ⟨bv_ext fun j hj => by rw [BitVec.getLsbD_and]; exact (key j hj).1, bv_ext fun j hj => by rw [BitVec.getLsbD_and]; exact (key j hj).2⟩
theorem sat_no {p m q n : BitVec 32} (h1 : vld p m = true) (h2 : vld q n = true) (j : Nat) (hj : j < 24) (h : getV q n j ≠ 0) (h' : getV p m j ≠ getV q n j) : ((p &&& q == q) && (m &&& n == n)) = false := by
  rw [Bool.eq_false_iff]
  intro hs
  rw [Bool.and_eq_true, beq_iff_eq, beq_iff_eq] at hs
  have e1 := congrArg (fun z => z.getLsbD j) hs.1
  have e2 := congrArg (fun z => z.getLsbD j) hs.2
  obtain ⟨a1, a2⟩ := getV_bits h1 j (by omega)
  obtain ⟨b1, b2⟩ := getV_bits h2 j (by omega)
  simp only [BitVec.getLsbD_and, a1, a2, b1, b2] at e1 e2
  revert e1 e2 h h'
  rcases getV_three p m j with e | e | e <;> rcases getV_three q n j with f | f | f <;> simp [e, f]
theorem sat_more {g1 g2 : Nat → Int} {k : Nat} (h : ∀ j, j < k → g2 j = 0 ∨ g1 j = g2 j) (hk : g2 k = 0 ∨ g1 k = g2 k) : ∀ j, j < k + 1 → g2 j = 0 ∨ g1 j = g2 j := fun j hj => by
  rcases Nat.lt_or_ge j k with h1 | h1
  · exact h j h1
  · obtain rfl : j = k := by omega
    exact hk
set_option maxHeartbeats 4000000 in
theorem rsat_ok (p m q n : BitVec 32) (S : Bool) (h1 : vld p m = true) (h2 : vld q n = true) (hS : ((p &&& q == q) && (m &&& n == n)) = S) (w : World) : Gives 25 #[sn p.toNat m.toNat, sn q.toNat n.toNat] w (.bool S) := by
  unfold Gives
  have hyes := sat_yes (p := p) (m := m) (q := q) (n := n) h1 h2
  have hno := sat_no (p := p) (m := m) (q := q) (n := n) h1 h2
  rw [hS] at hyes hno
  have HY := Lib.hid hyes; have HN := Lib.hid hno; clear hyes hno hS
  have H1 := Lib.hid h1; have H2 := Lib.hid h2; clear h1 h2
  go_enter Tryd.func25, Tryd.ntmps25
  go_wp2_with (first | (go_at_call 18; with_reducible refine Gives.then (Gives.eq (rvalid_any p m _) rfl (by rw [H1.out])) ?_; intro w1 hb; have hw := chain (B := w.heap.size) (a := w) (by go_grown) (by go_size) hb; (first | have h0 := chain (h0.trans (by go_grown)) (by go_size) hb | have h0 := hb); obtain ⟨hc, hf, hz⟩ := bcell hb; obtain ⟨hc0, hf0, hz0⟩ := bcell h0; clear hb; (try simp only [World.size_alloc, World.size_setCell, World.size_drew] at hc hf hz hc0 hf0 hz0); (first | (have hy := (hc _ _ (by omega)).trans r0; have r0 := hy; clear hy) | (have hy := (hc _ _ (by omega)).trans (cell_past (by omega) r0); have r0 := hy; clear hy) | skip); (first | (have hy := (hc _ _ (by omega)).trans r1; have r1 := hy; clear hy) | (have hy := (hc _ _ (by omega)).trans (cell_past (by omega) r1); have r1 := hy; clear hy) | skip); (first | (have hy := (hc _ _ (by omega)).trans r2; have r2 := hy; clear hy) | (have hy := (hc _ _ (by omega)).trans (cell_past (by omega) r2); have r2 := hy; clear hy) | skip); (first | (have hy := (hc _ _ (by omega)).trans r3; have r3 := hy; clear hy) | (have hy := (hc _ _ (by omega)).trans (cell_past (by omega) r3); have r3 := hy; clear hy) | skip); (try have s0 := fun X => cell_past (X := X) (by omega : w.heap.size < w1.heap.size) r0); (try have s1 := fun X => cell_past (X := X) (by omega : w.heap.size < w1.heap.size) r1); (try have s2 := fun X => cell_past (X := X) (by omega : w.heap.size + 1 < w1.heap.size) r2); (try have s3 := fun X => cell_past (X := X) (by omega : w.heap.size + 1 < w1.heap.size) r3)) | (go_at_call 18; with_reducible refine Gives.then (Gives.eq (rvalid_any q n _) rfl (by rw [H2.out])) ?_; intro w1 hb; have hw := chain (B := w.heap.size) (a := w) (by go_grown) (by go_size) hb; (first | have h0 := chain (h0.trans (by go_grown)) (by go_size) hb | have h0 := hb); obtain ⟨hc, hf, hz⟩ := bcell hb; obtain ⟨hc0, hf0, hz0⟩ := bcell h0; clear hb; (try simp only [World.size_alloc, World.size_setCell, World.size_drew] at hc hf hz hc0 hf0 hz0); (first | (have hy := (hc _ _ (by omega)).trans r0; have r0 := hy; clear hy) | (have hy := (hc _ _ (by omega)).trans (cell_past (by omega) r0); have r0 := hy; clear hy) | skip); (first | (have hy := (hc _ _ (by omega)).trans r1; have r1 := hy; clear hy) | (have hy := (hc _ _ (by omega)).trans (cell_past (by omega) r1); have r1 := hy; clear hy) | skip); (first | (have hy := (hc _ _ (by omega)).trans r2; have r2 := hy; clear hy) | (have hy := (hc _ _ (by omega)).trans (cell_past (by omega) r2); have r2 := hy; clear hy) | skip); (first | (have hy := (hc _ _ (by omega)).trans r3; have r3 := hy; clear hy) | (have hy := (hc _ _ (by omega)).trans (cell_past (by omega) r3); have r3 := hy; clear hy) | skip); (try have s0 := fun X => cell_past (X := X) (by omega : w.heap.size < w1.heap.size) r0); (try have s1 := fun X => cell_past (X := X) (by omega : w.heap.size < w1.heap.size) r1); (try have s2 := fun X => cell_past (X := X) (by omega : w.heap.size + 1 < w1.heap.size) r2); (try have s3 := fun X => cell_past (X := X) (by omega : w.heap.size + 1 < w1.heap.size) r3)))
  first | refine wp_gen ?_ | refine calls_gen ?_
  intro W1 hW1
  have hw1 : Below w.heap.size w W1 := by rw [hW1]; go_grown
  have hz1 : w.heap.size + 1 + 1 ≤ W1.heap.size := by rw [hW1]; go_size
  have g0 : W1.cell? ⟨w.heap.size, 0, none⟩ = some (.int .u32 p.toNat) := by rw [hW1]; first | go_cell | (go_simp; done) | (simp [hc, hf, hc0, hf0]; done) | (refine cell_past (by omega) ?_; rw [hc0 _ _ (by omega)]; first | go_cell | (go_simp; done)) | (refine frozen_past (by omega) ?_; rw [hf0 _ _ (by omega)]; first | (go_simp; done) | (simp; done)) | (refine keep_set ?_ (by (try simp only []); omega); first | assumption | (refine keep_set ?_ (by (try simp only []); omega); assumption))
  have g1 : W1.cell? ⟨w.heap.size, 1, none⟩ = some (.int .u32 m.toNat) := by rw [hW1]; first | go_cell | (go_simp; done) | (simp [hc, hf, hc0, hf0]; done) | (refine cell_past (by omega) ?_; rw [hc0 _ _ (by omega)]; first | go_cell | (go_simp; done)) | (refine frozen_past (by omega) ?_; rw [hf0 _ _ (by omega)]; first | (go_simp; done) | (simp; done)) | (refine keep_set ?_ (by (try simp only []); omega); first | assumption | (refine keep_set ?_ (by (try simp only []); omega); assumption))
  have g2 : W1.cell? ⟨w.heap.size + 1, 0, none⟩ = some (.int .u32 q.toNat) := by rw [hW1]; first | go_cell | (go_simp; done) | (simp [hc, hf, hc0, hf0]; done) | (refine cell_past (by omega) ?_; rw [hc0 _ _ (by omega)]; first | go_cell | (go_simp; done)) | (refine frozen_past (by omega) ?_; rw [hf0 _ _ (by omega)]; first | (go_simp; done) | (simp; done)) | (refine keep_set ?_ (by (try simp only []); omega); first | assumption | (refine keep_set ?_ (by (try simp only []); omega); assumption))
  have g3 : W1.cell? ⟨w.heap.size + 1, 1, none⟩ = some (.int .u32 n.toNat) := by rw [hW1]; first | go_cell | (go_simp; done) | (simp [hc, hf, hc0, hf0]; done) | (refine cell_past (by omega) ?_; rw [hc0 _ _ (by omega)]; first | go_cell | (go_simp; done)) | (refine frozen_past (by omega) ?_; rw [hf0 _ _ (by omega)]; first | (go_simp; done) | (simp; done)) | (refine keep_set ?_ (by (try simp only []); omega); first | assumption | (refine keep_set ?_ (by (try simp only []); omega); assumption))
  clear hW1
  clear hc hf hz hw
  go_loopw [5] (fun i wr => ∃ k : Nat, k ≤ 24 ∧ i = .int .i64 (k : Int) ∧ (∀ j, j < k → getV q n j = 0 ∨ getV p m j = getV q n j) ∧ wr.cell? ⟨w.heap.size, 0, none⟩ = some (.int .u32 p.toNat) ∧ wr.cell? ⟨w.heap.size, 1, none⟩ = some (.int .u32 m.toNat) ∧ wr.cell? ⟨w.heap.size + 1, 0, none⟩ = some (.int .u32 q.toNat) ∧ wr.cell? ⟨w.heap.size + 1, 1, none⟩ = some (.int .u32 n.toNat) ∧ Below w.heap.size w wr ∧ w.heap.size + 2 ≤ wr.heap.size) (fun i _ => 24 - (intOf i).toNat)
  case atStart => exact ⟨0, by omega, rfl, fun j hj => absurd hj (by omega), g0, g1, g2, g3, hw1, by omega⟩
  case round =>
    clear g0 g1 g2 g3 hw1 hz1
    obtain ⟨k, hk, rfl, hall, r0, r1, r2, r3, hw, hsz⟩ := hrel
    by_cases hlt : k < 24
    · have hg1 := rgv p m k hlt
      have hg2 := rgv q n k hlt
      rw [gV_of H1.out] at hg1
      rw [gV_of H2.out] at hg2
      have hmore := sat_more hall
      have hn := HN.out k hlt
      generalize ha : getV p m k = a at *
      generalize hb : getV q n k = b at *
      have HM := Lib.hid hmore; have HNN := Lib.hid hn; clear hall hmore hn ha hb
      by_cases hb0 : b = 0
      · subst hb0
        go_wp2_with fail
        (go_at_call 20; with_reducible refine Gives.then (hg2 _) ?_; intro w1 hb; have hw := chain (B := w.heap.size) (a := w) (by go_grown) (by go_size) hb; obtain ⟨hc, hf, hz⟩ := bcell hb; clear hb; (try simp only [World.size_alloc, World.size_setCell, World.size_drew] at hc hf hz); (first | (have hy := (hc _ _ (by omega)).trans r0; have r0 := hy; clear hy) | (have hy := (hc _ _ (by omega)).trans (cell_past (by omega) r0); have r0 := hy; clear hy) | skip); (first | (have hy := (hc _ _ (by omega)).trans r1; have r1 := hy; clear hy) | (have hy := (hc _ _ (by omega)).trans (cell_past (by omega) r1); have r1 := hy; clear hy) | skip); (first | (have hy := (hc _ _ (by omega)).trans r2; have r2 := hy; clear hy) | (have hy := (hc _ _ (by omega)).trans (cell_past (by omega) r2); have r2 := hy; clear hy) | skip); (first | (have hy := (hc _ _ (by omega)).trans r3; have r3 := hy; clear hy) | (have hy := (hc _ _ (by omega)).trans (cell_past (by omega) r3); have r3 := hy; clear hy) | skip); (try have s0 := fun X => cell_past (X := X) (by omega : w.heap.size < w1.heap.size) r0); (try have s1 := fun X => cell_past (X := X) (by omega : w.heap.size < w1.heap.size) r1); (try have s2 := fun X => cell_past (X := X) (by omega : w.heap.size + 1 < w1.heap.size) r2); (try have s3 := fun X => cell_past (X := X) (by omega : w.heap.size + 1 < w1.heap.size) r3))
        go_wp2_with fail
        go_roundw
        case rel => exact ⟨k + 1, by omega, by go_num, HM.out (by simp), r0, r1, r2, r3, hw, by omega⟩
        case measure => simp [intOf]; omega
      · have hb1 : (b == 0) = false := by simpa using hb0
        have hb2 : (b != 0) = true := by simpa using hb0
        by_cases hab : a = b
        · subst hab
          go_wp2_with fail
          (go_at_call 20; with_reducible refine Gives.then (hg2 _) ?_; intro w1 hb; have hw := chain (B := w.heap.size) (a := w) (by go_grown) (by go_size) hb; obtain ⟨hc, hf, hz⟩ := bcell hb; clear hb; (try simp only [World.size_alloc, World.size_setCell, World.size_drew] at hc hf hz); (first | (have hy := (hc _ _ (by omega)).trans r0; have r0 := hy; clear hy) | (have hy := (hc _ _ (by omega)).trans (cell_past (by omega) r0); have r0 := hy; clear hy) | skip); (first | (have hy := (hc _ _ (by omega)).trans r1; have r1 := hy; clear hy) | (have hy := (hc _ _ (by omega)).trans (cell_past (by omega) r1); have r1 := hy; clear hy) | skip); (first | (have hy := (hc _ _ (by omega)).trans r2; have r2 := hy; clear hy) | (have hy := (hc _ _ (by omega)).trans (cell_past (by omega) r2); have r2 := hy; clear hy) | skip); (first | (have hy := (hc _ _ (by omega)).trans r3; have r3 := hy; clear hy) | (have hy := (hc _ _ (by omega)).trans (cell_past (by omega) r3); have r3 := hy; clear hy) | skip); (try have s0 := fun X => cell_past (X := X) (by omega : w.heap.size < w1.heap.size) r0); (try have s1 := fun X => cell_past (X := X) (by omega : w.heap.size < w1.heap.size) r1); (try have s2 := fun X => cell_past (X := X) (by omega : w.heap.size + 1 < w1.heap.size) r2); (try have s3 := fun X => cell_past (X := X) (by omega : w.heap.size + 1 < w1.heap.size) r3))
          go_wp2_with fail
          (go_at_call 20; with_reducible refine Gives.then (hg1 _) ?_; intro w1 hb; have hw := chain (B := w.heap.size) (a := w) (by go_grown) (by go_size) hb; obtain ⟨hc, hf, hz⟩ := bcell hb; clear hb; (try simp only [World.size_alloc, World.size_setCell, World.size_drew] at hc hf hz); (first | (have hy := (hc _ _ (by omega)).trans r0; have r0 := hy; clear hy) | (have hy := (hc _ _ (by omega)).trans (cell_past (by omega) r0); have r0 := hy; clear hy) | skip); (first | (have hy := (hc _ _ (by omega)).trans r1; have r1 := hy; clear hy) | (have hy := (hc _ _ (by omega)).trans (cell_past (by omega) r1); have r1 := hy; clear hy) | skip); (first | (have hy := (hc _ _ (by omega)).trans r2; have r2 := hy; clear hy) | (have hy := (hc _ _ (by omega)).trans (cell_past (by omega) r2); have r2 := hy; clear hy) | skip); (first | (have hy := (hc _ _ (by omega)).trans r3; have r3 := hy; clear hy) | (have hy := (hc _ _ (by omega)).trans (cell_past (by omega) r3); have r3 := hy; clear hy) | skip); (try have s0 := fun X => cell_past (X := X) (by omega : w.heap.size < w1.heap.size) r0); (try have s1 := fun X => cell_past (X := X) (by omega : w.heap.size < w1.heap.size) r1); (try have s2 := fun X => cell_past (X := X) (by omega : w.heap.size + 1 < w1.heap.size) r2); (try have s3 := fun X => cell_past (X := X) (by omega : w.heap.size + 1 < w1.heap.size) r3))
          go_wp2_with fail
          go_roundw
          case rel => exact ⟨k + 1, by omega, by go_num, HM.out (by simp), r0, r1, r2, r3, hw, by omega⟩
          case measure => simp [intOf]; omega
        · have ha1 : (a == b) = false := by simpa using hab
          have ha2 : (a != b) = true := by simpa using hab
          go_wp2_with fail
          (go_at_call 20; with_reducible refine Gives.then (hg2 _) ?_; intro w1 hb; have hw := chain (B := w.heap.size) (a := w) (by go_grown) (by go_size) hb; obtain ⟨hc, hf, hz⟩ := bcell hb; clear hb; (try simp only [World.size_alloc, World.size_setCell, World.size_drew] at hc hf hz); (first | (have hy := (hc _ _ (by omega)).trans r0; have r0 := hy; clear hy) | (have hy := (hc _ _ (by omega)).trans (cell_past (by omega) r0); have r0 := hy; clear hy) | skip); (first | (have hy := (hc _ _ (by omega)).trans r1; have r1 := hy; clear hy) | (have hy := (hc _ _ (by omega)).trans (cell_past (by omega) r1); have r1 := hy; clear hy) | skip); (first | (have hy := (hc _ _ (by omega)).trans r2; have r2 := hy; clear hy) | (have hy := (hc _ _ (by omega)).trans (cell_past (by omega) r2); have r2 := hy; clear hy) | skip); (first | (have hy := (hc _ _ (by omega)).trans r3; have r3 := hy; clear hy) | (have hy := (hc _ _ (by omega)).trans (cell_past (by omega) r3); have r3 := hy; clear hy) | skip); (try have s0 := fun X => cell_past (X := X) (by omega : w.heap.size < w1.heap.size) r0); (try have s1 := fun X => cell_past (X := X) (by omega : w.heap.size < w1.heap.size) r1); (try have s2 := fun X => cell_past (X := X) (by omega : w.heap.size + 1 < w1.heap.size) r2); (try have s3 := fun X => cell_past (X := X) (by omega : w.heap.size + 1 < w1.heap.size) r3))
          go_wp2_with fail
          (go_at_call 20; with_reducible refine Gives.then (hg1 _) ?_; intro w1 hb; have hw := chain (B := w.heap.size) (a := w) (by go_grown) (by go_size) hb; obtain ⟨hc, hf, hz⟩ := bcell hb; clear hb; (try simp only [World.size_alloc, World.size_setCell, World.size_drew] at hc hf hz); (first | (have hy := (hc _ _ (by omega)).trans r0; have r0 := hy; clear hy) | (have hy := (hc _ _ (by omega)).trans (cell_past (by omega) r0); have r0 := hy; clear hy) | skip); (first | (have hy := (hc _ _ (by omega)).trans r1; have r1 := hy; clear hy) | (have hy := (hc _ _ (by omega)).trans (cell_past (by omega) r1); have r1 := hy; clear hy) | skip); (first | (have hy := (hc _ _ (by omega)).trans r2; have r2 := hy; clear hy) | (have hy := (hc _ _ (by omega)).trans (cell_past (by omega) r2); have r2 := hy; clear hy) | skip); (first | (have hy := (hc _ _ (by omega)).trans r3; have r3 := hy; clear hy) | (have hy := (hc _ _ (by omega)).trans (cell_past (by omega) r3); have r3 := hy; clear hy) | skip); (try have s0 := fun X => cell_past (X := X) (by omega : w.heap.size < w1.heap.size) r0); (try have s1 := fun X => cell_past (X := X) (by omega : w.heap.size < w1.heap.size) r1); (try have s2 := fun X => cell_past (X := X) (by omega : w.heap.size + 1 < w1.heap.size) r2); (try have s3 := fun X => cell_past (X := X) (by omega : w.heap.size + 1 < w1.heap.size) r3))
          go_wp2_with fail
          go_returns
          exact ⟨by (rw [HNN.out hb0 hab]; try rfl), hw⟩
    · obtain rfl : k = 24 := by omega
      have hfin := HY.out hall
      have HF := Lib.hid hfin; clear hfin hall
      go_wp2_with fail
      go_returns
      exact ⟨by (rw [HF.out]; try rfl), hw⟩
end Go.Proofs.YtdbbmhefndjedaaDoor
