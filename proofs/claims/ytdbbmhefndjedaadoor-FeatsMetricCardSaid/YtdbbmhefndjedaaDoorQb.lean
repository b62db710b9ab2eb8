/-
  The specification's Dist: what it returns.
-/
import Derived.Test.YtdbbmhefndjedaaDoorQa
namespace Go.Proofs.YtdbbmhefndjedaaDoor
open Go.RowKit Go.Sort
attribute [local go_sem ↓] snd_eql snd_neq
set_option maxHeartbeats 4000000 in
theorem rdist_badS (p m q n : BitVec 32) (c1 c2 : Value) (hv : (vld p m && vld q n) = false) (w : World) : Gives 33 #[sn p.toNat m.toNat, sn q.toNat n.toNat, .agg #[c1, c2]] w (.tuple #[.int .i64 0, .int .i64 14]) := by
  unfold Gives
  rcases h1 : vld p m with _ | _
  · have H1 := Lib.hid h1; clear h1 hv
    go_enter Tryd.func33, Tryd.ntmps33
    go_wp2_with (go_at_call 18; with_reducible refine Gives.then (Gives.eq (rvalid_any p m _) rfl (by rw [H1.out])) ?_; intro w1 hb; have hw := chain (B := w.heap.size) (a := w) (by go_grown) (by go_size) hb; (first | have h0 := chain (h0.trans (by go_grown)) (by go_size) hb | have h0 := hb); obtain ⟨hc, hf, hz⟩ := bcell hb; obtain ⟨hc0, hf0, hz0⟩ := bcell h0; clear hb; (try simp only [World.size_alloc, World.size_setCell, World.size_drew] at hc hf hz hc0 hf0 hz0))
    go_ret2
    exact ⟨rfl, hw⟩
  · rw [h1, Bool.true_and] at hv
    have H1 := Lib.hid h1; have H2 := Lib.hid hv; clear h1 hv
    go_enter Tryd.func33, Tryd.ntmps33
    go_wp2_with (first | (go_at_call 18; with_reducible refine Gives.then (Gives.eq (rvalid_any p m _) rfl (by rw [H1.out])) ?_; intro w1 hb; have hw := chain (B := w.heap.size) (a := w) (by go_grown) (by go_size) hb; (first | have h0 := chain (h0.trans (by go_grown)) (by go_size) hb | have h0 := hb); obtain ⟨hc, hf, hz⟩ := bcell hb; obtain ⟨hc0, hf0, hz0⟩ := bcell h0; clear hb; (try simp only [World.size_alloc, World.size_setCell, World.size_drew] at hc hf hz hc0 hf0 hz0)) | (go_at_call 18; with_reducible refine Gives.then (Gives.eq (rvalid_any q n _) rfl (by rw [H2.out])) ?_; intro w1 hb; have hw := chain (B := w.heap.size) (a := w) (by go_grown) (by go_size) hb; (first | have h0 := chain (h0.trans (by go_grown)) (by go_size) hb | have h0 := hb); obtain ⟨hc, hf, hz⟩ := bcell hb; obtain ⟨hc0, hf0, hz0⟩ := bcell h0; clear hb; (try simp only [World.size_alloc, World.size_setCell, World.size_drew] at hc hf hz hc0 hf0 hz0)))
    go_ret2
    exact ⟨rfl, hw⟩
set_option maxHeartbeats 4000000 in
theorem rdist_badC (p m q n : BitVec 32) (sl : Value) (gap : Int) (zs : List Int) (hm : zs.length ≤ 9223372036854775807) (hv : (vld p m && vld q n) = true) (hk : okCosts zs gap = false) (w : World) (hs : Wts w sl zs) : Gives 33 #[sn p.toNat m.toNat, sn q.toNat n.toNat, .agg #[sl, .int .i64 gap]] w (.tuple #[.int .i64 0, .int .i64 2]) := by
  unfold Gives
  rw [Bool.and_eq_true] at hv
  obtain ⟨h1, h2⟩ := hv
  have hck := fun (W : World) (hb : Below w.heap.size w W) => rcheck_any sl gap zs hm W (hs.below hb)
  rw [hk, show costErr false = 2 from rfl] at hck
  have HCK := Lib.hid hck; have H1 := Lib.hid h1; have H2 := Lib.hid h2; clear hck hs hk h1 h2
  go_enter Tryd.func33, Tryd.ntmps33
  go_wp2_with (first | (go_at_call 18; with_reducible refine Gives.then (Gives.eq (rvalid_any p m _) rfl (by rw [H1.out])) ?_; intro w1 hb; have hw := chain (B := w.heap.size) (a := w) (by go_grown) (by go_size) hb; (first | have h0 := chain (h0.trans (by go_grown)) (by go_size) hb | have h0 := hb); obtain ⟨hc, hf, hz⟩ := bcell hb; obtain ⟨hc0, hf0, hz0⟩ := bcell h0; clear hb; (try simp only [World.size_alloc, World.size_setCell, World.size_drew] at hc hf hz hc0 hf0 hz0)) | (go_at_call 18; with_reducible refine Gives.then (Gives.eq (rvalid_any q n _) rfl (by rw [H2.out])) ?_; intro w1 hb; have hw := chain (B := w.heap.size) (a := w) (by go_grown) (by go_size) hb; (first | have h0 := chain (h0.trans (by go_grown)) (by go_size) hb | have h0 := hb); obtain ⟨hc, hf, hz⟩ := bcell hb; obtain ⟨hc0, hf0, hz0⟩ := bcell h0; clear hb; (try simp only [World.size_alloc, World.size_setCell, World.size_drew] at hc hf hz hc0 hf0 hz0)) | (go_at_call 35; with_reducible refine Gives.then (HCK.out _ hw) ?_; intro w1 hb; have hw := chain (B := w.heap.size) (a := w) (by go_grown) (by go_size) hb; (first | have h0 := chain (h0.trans (by go_grown)) (by go_size) hb | have h0 := hb); obtain ⟨hc, hf, hz⟩ := bcell hb; obtain ⟨hc0, hf0, hz0⟩ := bcell h0; clear hb; (try simp only [World.size_alloc, World.size_setCell, World.size_drew] at hc hf hz hc0 hf0 hz0)))
  go_ret2
  exact ⟨rfl, hw⟩
theorem weights_get {zs : List Int} {gap : Int} (h : okCosts zs gap = true) (i : Nat) : 0 ≤ zs.getD i 0 ∧ zs.getD i 0 ≤ 1073741824 := okCosts_get h i
theorem okCosts_len {zs : List Int} {gap : Int} (h : okCosts zs gap = true) : zs.length ≤ 24 := by
  unfold okCosts at h; simp only [Bool.and_eq_true, decide_eq_true_eq] at h; exact h.1.1
set_option maxHeartbeats 4000000 in
theorem rdist_ok (p m q n D : BitVec 32) (sl : Value) (gap : Int) (zs : List Int) (hv : (vld p m && vld q n) = true) (hk : okCosts zs gap = true) (hD : D = (p ^^^ q) ||| (m ^^^ n)) (w : World) (hs : Wts w sl zs) : Gives 33 #[sn p.toNat m.toNat, sn q.toNat n.toNat, .agg #[sl, .int .i64 gap]] w (.tuple #[.int .i64 (rsum D zs zs.length), .int .i64 0]) := by
  unfold Gives
  rw [Bool.and_eq_true] at hv
  obtain ⟨h1, h2⟩ := hv
  have hl := okCosts_len hk
  have hck := fun (W : World) (hb : Below w.heap.size w W) => rcheck_any sl gap zs (by omega) W (hs.below hb)
  rw [hk, show costErr true = 0 from rfl] at hck
  have hbit := fun k hk => (congrArg (fun z => z.getLsbD k) hD).trans (diff_bit h1 h2 k hk)
  have hbd := rsum_bd (zs := zs) D 1073741824 (okCosts_get hk)
  have hgt := okCosts_get hk
  have HCK := Lib.hid hck; have H1 := Lib.hid h1; have H2 := Lib.hid h2; have HB := Lib.hid hbit; have HD := Lib.hid hbd; have HG := Lib.hid hgt; clear hck hk h1 h2 hbit hD hbd hgt
  rcases hs with ⟨rfl, rfl⟩ | ⟨b, off, cap, rfl, lb, h3⟩
  · go_enter Tryd.func33, Tryd.ntmps33
    go_wp2_with (first | (go_at_call 18; with_reducible refine Gives.then (Gives.eq (rvalid_any p m _) rfl (by rw [H1.out])) ?_; intro w1 hb; have hw := chain (B := w.heap.size) (a := w) (by go_grown) (by go_size) hb; (first | have h0 := chain (h0.trans (by go_grown)) (by go_size) hb | have h0 := hb); obtain ⟨hc, hf, hz⟩ := bcell hb; obtain ⟨hc0, hf0, hz0⟩ := bcell h0; clear hb; (try simp only [World.size_alloc, World.size_setCell, World.size_drew] at hc hf hz hc0 hf0 hz0)) | (go_at_call 18; with_reducible refine Gives.then (Gives.eq (rvalid_any q n _) rfl (by rw [H2.out])) ?_; intro w1 hb; have hw := chain (B := w.heap.size) (a := w) (by go_grown) (by go_size) hb; (first | have h0 := chain (h0.trans (by go_grown)) (by go_size) hb | have h0 := hb); obtain ⟨hc, hf, hz⟩ := bcell hb; obtain ⟨hc0, hf0, hz0⟩ := bcell h0; clear hb; (try simp only [World.size_alloc, World.size_setCell, World.size_drew] at hc hf hz hc0 hf0 hz0)) | (go_at_call 35; with_reducible refine Gives.then (HCK.out _ hw) ?_; intro w1 hb; have hw := chain (B := w.heap.size) (a := w) (by go_grown) (by go_size) hb; (first | have h0 := chain (h0.trans (by go_grown)) (by go_size) hb | have h0 := hb); obtain ⟨hc, hf, hz⟩ := bcell hb; obtain ⟨hc0, hf0, hz0⟩ := bcell h0; clear hb; (try simp only [World.size_alloc, World.size_setCell, World.size_drew] at hc hf hz hc0 hf0 hz0)))
    go_rounds 1
    go_ret2
    exact ⟨rfl, hw⟩
  · have H3 := Lib.hid h3; clear h3
    go_enter Tryd.func33, Tryd.ntmps33
    go_wp2_with (first | (go_at_call 18; with_reducible refine Gives.then (Gives.eq (rvalid_any p m _) rfl (by rw [H1.out])) ?_; intro w1 hb; have hw := chain (B := w.heap.size) (a := w) (by go_grown) (by go_size) hb; (first | have h0 := chain (h0.trans (by go_grown)) (by go_size) hb | have h0 := hb); obtain ⟨hc, hf, hz⟩ := bcell hb; obtain ⟨hc0, hf0, hz0⟩ := bcell h0; clear hb; (try simp only [World.size_alloc, World.size_setCell, World.size_drew] at hc hf hz hc0 hf0 hz0)) | (go_at_call 18; with_reducible refine Gives.then (Gives.eq (rvalid_any q n _) rfl (by rw [H2.out])) ?_; intro w1 hb; have hw := chain (B := w.heap.size) (a := w) (by go_grown) (by go_size) hb; (first | have h0 := chain (h0.trans (by go_grown)) (by go_size) hb | have h0 := hb); obtain ⟨hc, hf, hz⟩ := bcell hb; obtain ⟨hc0, hf0, hz0⟩ := bcell h0; clear hb; (try simp only [World.size_alloc, World.size_setCell, World.size_drew] at hc hf hz hc0 hf0 hz0)) | (go_at_call 35; with_reducible refine Gives.then (HCK.out _ hw) ?_; intro w1 hb; have hw := chain (B := w.heap.size) (a := w) (by go_grown) (by go_size) hb; (first | have h0 := chain (h0.trans (by go_grown)) (by go_size) hb | have h0 := hb); obtain ⟨hc, hf, hz⟩ := bcell hb; obtain ⟨hc0, hf0, hz0⟩ := bcell h0; clear hb; (try simp only [World.size_alloc, World.size_setCell, World.size_drew] at hc hf hz hc0 hf0 hz0)))
    first | refine wp_gen ?_ | refine calls_gen ?_
    intro W1 hW1
    have hw1 : Below w.heap.size w W1 := by rw [hW1]; go_grown
    have hz1 : w.heap.size + 1 + 1 + 1 ≤ W1.heap.size := by rw [hW1]; go_size
    have g0 : W1.cell? ⟨w.heap.size, 0, none⟩ = some (.int .u32 p.toNat) := by rw [hW1]; first | go_cell | (go_simp; done) | (simp [hc, hf, hc0, hf0]; done) | (refine cell_past (by omega) ?_; rw [hc0 _ _ (by omega)]; first | go_cell | (go_simp; done)) | (refine frozen_past (by omega) ?_; rw [hf0 _ _ (by omega)]; first | (go_simp; done) | (simp; done)) | (refine keep_set ?_ (by (try simp only []); omega); first | assumption | (refine keep_set ?_ (by (try simp only []); omega); assumption))
    have g1 : W1.cell? ⟨w.heap.size, 1, none⟩ = some (.int .u32 m.toNat) := by rw [hW1]; first | go_cell | (go_simp; done) | (simp [hc, hf, hc0, hf0]; done) | (refine cell_past (by omega) ?_; rw [hc0 _ _ (by omega)]; first | go_cell | (go_simp; done)) | (refine frozen_past (by omega) ?_; rw [hf0 _ _ (by omega)]; first | (go_simp; done) | (simp; done)) | (refine keep_set ?_ (by (try simp only []); omega); first | assumption | (refine keep_set ?_ (by (try simp only []); omega); assumption))
    have g2 : W1.cell? ⟨w.heap.size + 1, 0, none⟩ = some (.int .u32 q.toNat) := by rw [hW1]; first | go_cell | (go_simp; done) | (simp [hc, hf, hc0, hf0]; done) | (refine cell_past (by omega) ?_; rw [hc0 _ _ (by omega)]; first | go_cell | (go_simp; done)) | (refine frozen_past (by omega) ?_; rw [hf0 _ _ (by omega)]; first | (go_simp; done) | (simp; done)) | (refine keep_set ?_ (by (try simp only []); omega); first | assumption | (refine keep_set ?_ (by (try simp only []); omega); assumption))
    have g3 : W1.cell? ⟨w.heap.size + 1, 1, none⟩ = some (.int .u32 n.toNat) := by rw [hW1]; first | go_cell | (go_simp; done) | (simp [hc, hf, hc0, hf0]; done) | (refine cell_past (by omega) ?_; rw [hc0 _ _ (by omega)]; first | go_cell | (go_simp; done)) | (refine frozen_past (by omega) ?_; rw [hf0 _ _ (by omega)]; first | (go_simp; done) | (simp; done)) | (refine keep_set ?_ (by (try simp only []); omega); first | assumption | (refine keep_set ?_ (by (try simp only []); omega); assumption))
    have g4 : W1.cell? ⟨w.heap.size + 1 + 1, 0, none⟩ = some (.slice (some ⟨b, off, none⟩) zs.length cap) := by rw [hW1]; first | go_cell | (go_simp; done) | (simp [hc, hf, hc0, hf0]; done) | (refine cell_past (by omega) ?_; rw [hc0 _ _ (by omega)]; first | go_cell | (go_simp; done)) | (refine frozen_past (by omega) ?_; rw [hf0 _ _ (by omega)]; first | (go_simp; done) | (simp; done)) | (refine keep_set ?_ (by (try simp only []); omega); first | assumption | (refine keep_set ?_ (by (try simp only []); omega); assumption))
    have g5 : W1.cell? ⟨w.heap.size + 1 + 1, 1, none⟩ = some (.int .i64 gap) := by rw [hW1]; first | go_cell | (go_simp; done) | (simp [hc, hf, hc0, hf0]; done) | (refine cell_past (by omega) ?_; rw [hc0 _ _ (by omega)]; first | go_cell | (go_simp; done)) | (refine frozen_past (by omega) ?_; rw [hf0 _ _ (by omega)]; first | (go_simp; done) | (simp; done)) | (refine keep_set ?_ (by (try simp only []); omega); first | assumption | (refine keep_set ?_ (by (try simp only []); omega); assumption))
    clear hW1
    clear hc hf hz hc0 hf0 hz0 h0 hw
    go_loopw [9, 8] (fun i s wr => ∃ k : Nat, k ≤ zs.length ∧ i = .int .i64 (k : Int) ∧ s = .int .i64 (rsum D zs k) ∧ wr.cell? ⟨w.heap.size, 0, none⟩ = some (.int .u32 p.toNat) ∧ wr.cell? ⟨w.heap.size, 1, none⟩ = some (.int .u32 m.toNat) ∧ wr.cell? ⟨w.heap.size + 1, 0, none⟩ = some (.int .u32 q.toNat) ∧ wr.cell? ⟨w.heap.size + 1, 1, none⟩ = some (.int .u32 n.toNat) ∧ wr.cell? ⟨w.heap.size + 1 + 1, 0, none⟩ = some (.slice (some ⟨b, off, none⟩) zs.length cap) ∧ wr.cell? ⟨w.heap.size + 1 + 1, 1, none⟩ = some (.int .i64 gap) ∧ Below w.heap.size w wr ∧ w.heap.size + 3 ≤ wr.heap.size) (fun i _ _ => zs.length - (intOf i).toNat)
    case atStart => exact ⟨0, by omega, rfl, rfl, g0, g1, g2, g3, g4, g5, hw1, by omega⟩
    case round =>
      clear g0 g1 g2 g3 g4 g5 hw1 hz1
      obtain ⟨k, hk, rfl, rfl, r0, r1, r2, r3, r4, r5, hw, hsz⟩ := hrel
      by_cases hlt : k < zs.length
      · have hg1 := rgv p m k (by omega)
        have hg2 := rgv q n k (by omega)
        rw [gV_of H1.out] at hg1
        rw [gV_of H2.out] at hg2
        have hb := HB.out k (by omega)
        have r6 : wr.cell? ⟨b, off + k, none⟩ = some (.int .i64 (zs.getD k 0)) := (hw.cell (p := ⟨b, off + k, none⟩) lb).trans (H3.out k hlt)
        have hs0 : rsum D zs (k + 1) = rsum D zs k + if D.getLsbD k then zs.getD k 0 else 0 := rfl
        have hd1 := HD.out k
        have hd2 := HG.out k
        generalize getV p m k = x at *
        generalize getV q n k = y at *
        have HBB := Lib.hid hb; clear hb
        generalize hT : rsum D zs k = T at *
        generalize hZ : zs.getD k 0 = z at *
        have lb' : b < wr.heap.size := by omega
        obtain ⟨d0, d1⟩ := hd1
        obtain ⟨e0, e1⟩ := hd2
        have d1 : T ≤ 24 * 1073741824 := by omega
        have HS0 := Lib.hid hs0; clear hs0 hT hZ
        by_cases hab : x = y
        · go_wp2_with fail
          refine wp_gen ?_
          intro W1 hW1
          have hw1 : Below w.heap.size w W1 := by rw [hW1]; go_grown
          have hz1 : wr.heap.size ≤ W1.heap.size := by rw [hW1]; go_size
          have c0 : W1.cell? ⟨w.heap.size, 0, none⟩ = some (.int .u32 p.toNat) := by rw [hW1]; first | assumption | go_cell | (go_simp; done) | exact cell_past (by first | assumption | omega) (by assumption)
          have c1 : W1.cell? ⟨w.heap.size, 1, none⟩ = some (.int .u32 m.toNat) := by rw [hW1]; first | assumption | go_cell | (go_simp; done) | exact cell_past (by first | assumption | omega) (by assumption)
          have c2 : W1.cell? ⟨w.heap.size + 1, 0, none⟩ = some (.int .u32 q.toNat) := by rw [hW1]; first | assumption | go_cell | (go_simp; done) | exact cell_past (by first | assumption | omega) (by assumption)
          have c3 : W1.cell? ⟨w.heap.size + 1, 1, none⟩ = some (.int .u32 n.toNat) := by rw [hW1]; first | assumption | go_cell | (go_simp; done) | exact cell_past (by first | assumption | omega) (by assumption)
          have c4 : W1.cell? ⟨w.heap.size + 1 + 1, 0, none⟩ = some (.slice (some ⟨b, off, none⟩) zs.length cap) := by rw [hW1]; first | assumption | go_cell | (go_simp; done) | exact cell_past (by first | assumption | omega) (by assumption)
          have c5 : W1.cell? ⟨w.heap.size + 1 + 1, 1, none⟩ = some (.int .i64 gap) := by rw [hW1]; first | assumption | go_cell | (go_simp; done) | exact cell_past (by first | assumption | omega) (by assumption)
          clear hW1
          have k0 := cell_regrown c0
          have k1 := cell_regrown c1
          have k2 := cell_regrown c2
          have k3 := cell_regrown c3
          have k4 := cell_regrown c4
          have k5 := cell_regrown c5
          refine wp_region_quiet_below (by kernel_rfl) (by kernel_rfl) ?_
          try simp only [List.append]
          repeat (go_big_quiet_step (first | (go_at_call 20; with_reducible exact Calls.regrown_of (hg1 _)) | (go_at_call 20; with_reducible exact Calls.regrown_of (hg2 _))))
          refine wpQuiet_nil ?_
          intro w2 hw2
          have hb : Below W1.heap.size W1 w2 := by obtain ⟨q, rfl⟩ := hw2; exact below_regrown _ _ _
          clear hw2
          clear k0 k1 k2 k3 k4 k5
          have hw := chain hw1 (by omega) hb
          obtain ⟨hc, hf, hz⟩ := bcell hb
          clear hb
          try have r0 : w2.cell? ⟨w.heap.size, 0, none⟩ = some (.int .u32 p.toNat) := (hc _ _ (by omega)).trans c0
          try have r1 : w2.cell? ⟨w.heap.size, 1, none⟩ = some (.int .u32 m.toNat) := (hc _ _ (by omega)).trans c1
          try have r2 : w2.cell? ⟨w.heap.size + 1, 0, none⟩ = some (.int .u32 q.toNat) := (hc _ _ (by omega)).trans c2
          try have r3 : w2.cell? ⟨w.heap.size + 1, 1, none⟩ = some (.int .u32 n.toNat) := (hc _ _ (by omega)).trans c3
          try have r4 : w2.cell? ⟨w.heap.size + 1 + 1, 0, none⟩ = some (.slice (some ⟨b, off, none⟩) zs.length cap) := (hc _ _ (by omega)).trans c4
          try have r5 : w2.cell? ⟨w.heap.size + 1 + 1, 1, none⟩ = some (.int .i64 gap) := (hc _ _ (by omega)).trans c5
          go_wp2_with fail
          go_roundw
          case rel => exact ⟨k + 1, by omega, by go_num, by rw [HS0.out, HBB.out]; simp [hab], r0, r1, r2, r3, r4, r5, hw, by omega⟩
          case measure => simp [intOf]; omega
        · have hne : (x == y) = false := by simpa using hab
          have hne2 : (x != y) = true := by simpa using hab
          go_wp2_with fail
          refine wp_gen ?_
          intro W1 hW1
          have hw1 : Below w.heap.size w W1 := by rw [hW1]; go_grown
          have hz1 : wr.heap.size ≤ W1.heap.size := by rw [hW1]; go_size
          have c0 : W1.cell? ⟨w.heap.size, 0, none⟩ = some (.int .u32 p.toNat) := by rw [hW1]; first | assumption | go_cell | (go_simp; done) | exact cell_past (by first | assumption | omega) (by assumption)
          have c1 : W1.cell? ⟨w.heap.size, 1, none⟩ = some (.int .u32 m.toNat) := by rw [hW1]; first | assumption | go_cell | (go_simp; done) | exact cell_past (by first | assumption | omega) (by assumption)
          have c2 : W1.cell? ⟨w.heap.size + 1, 0, none⟩ = some (.int .u32 q.toNat) := by rw [hW1]; first | assumption | go_cell | (go_simp; done) | exact cell_past (by first | assumption | omega) (by assumption)
          have c3 : W1.cell? ⟨w.heap.size + 1, 1, none⟩ = some (.int .u32 n.toNat) := by rw [hW1]; first | assumption | go_cell | (go_simp; done) | exact cell_past (by first | assumption | omega) (by assumption)
          have c4 : W1.cell? ⟨w.heap.size + 1 + 1, 0, none⟩ = some (.slice (some ⟨b, off, none⟩) zs.length cap) := by rw [hW1]; first | assumption | go_cell | (go_simp; done) | exact cell_past (by first | assumption | omega) (by assumption)
          have c5 : W1.cell? ⟨w.heap.size + 1 + 1, 1, none⟩ = some (.int .i64 gap) := by rw [hW1]; first | assumption | go_cell | (go_simp; done) | exact cell_past (by first | assumption | omega) (by assumption)
          have c6 : W1.cell? ⟨b, off + k, none⟩ = some (.int .i64 z) := by rw [hW1]; first | assumption | go_cell | (go_simp; done) | exact cell_past (by first | assumption | omega) (by assumption)
          clear hW1
          have k0 := cell_regrown c0
          have k1 := cell_regrown c1
          have k2 := cell_regrown c2
          have k3 := cell_regrown c3
          have k4 := cell_regrown c4
          have k5 := cell_regrown c5
          have k6 := cell_regrown c6
          refine wp_region_quiet_below (by kernel_rfl) (by kernel_rfl) ?_
          try simp only [List.append]
          repeat (go_big_quiet_step (first | (go_at_call 20; with_reducible exact Calls.regrown_of (hg1 _)) | (go_at_call 20; with_reducible exact Calls.regrown_of (hg2 _))))
          refine wpQuiet_nil ?_
          intro w2 hw2
          have hb : Below W1.heap.size W1 w2 := by obtain ⟨q, rfl⟩ := hw2; exact below_regrown _ _ _
          clear hw2
          clear k0 k1 k2 k3 k4 k5 k6
          have hw := chain hw1 (by omega) hb
          obtain ⟨hc, hf, hz⟩ := bcell hb
          clear hb
          try have r0 : w2.cell? ⟨w.heap.size, 0, none⟩ = some (.int .u32 p.toNat) := (hc _ _ (by omega)).trans c0
          try have r1 : w2.cell? ⟨w.heap.size, 1, none⟩ = some (.int .u32 m.toNat) := (hc _ _ (by omega)).trans c1
          try have r2 : w2.cell? ⟨w.heap.size + 1, 0, none⟩ = some (.int .u32 q.toNat) := (hc _ _ (by omega)).trans c2
          try have r3 : w2.cell? ⟨w.heap.size + 1, 1, none⟩ = some (.int .u32 n.toNat) := (hc _ _ (by omega)).trans c3
          try have r4 : w2.cell? ⟨w.heap.size + 1 + 1, 0, none⟩ = some (.slice (some ⟨b, off, none⟩) zs.length cap) := (hc _ _ (by omega)).trans c4
          try have r5 : w2.cell? ⟨w.heap.size + 1 + 1, 1, none⟩ = some (.int .i64 gap) := (hc _ _ (by omega)).trans c5
          try have r6 : w2.cell? ⟨b, off + k, none⟩ = some (.int .i64 z) := (hc _ _ (by omega)).trans c6
          go_wp2_with fail
          go_roundw
          case rel => exact ⟨k + 1, by omega, by go_num, by rw [HS0.out, HBB.out]; simp [hab]; try (rw [IntWalk.i64_in _ ⟨by omega, by omega⟩]), r0, r1, r2, r3, r4, r5, hw, by omega⟩
          case measure => simp [intOf]; omega
      · have hkl : k = zs.length := by omega
        have HKL := Lib.hid hkl; clear hkl
        go_wp2_with fail
        go_ret2
        exact ⟨by (rw [HKL.out]; try rfl), hw⟩
end Go.Proofs.YtdbbmhefndjedaaDoor
