/-
  The specification's Unify: what it returns.
-/
import Derived.Test.YtacfopopaieliaaDoorPc
namespace Go.Proofs.YtacfopopaieliaaDoor
open Go.RowKit Go.Sort
attribute [local go_sem ↓] snd_eql snd_neq
theorem vld_mono {p m q n : BitVec 32} (h : vld (p ||| q) (m ||| n) = true) : vld p m = true ∧ vld q n = true := by
  have hb := vld_bits.1 h
  constructor
  · rw [vld_bits]; intro j hj; have := hb j hj; rw [BitVec.getLsbD_or, BitVec.getLsbD_or] at this
    revert this; cases p.getLsbD j <;> cases m.getLsbD j <;> cases q.getLsbD j <;> cases n.getLsbD j <;> simp
  · rw [vld_bits]; intro j hj; have := hb j hj; rw [BitVec.getLsbD_or, BitVec.getLsbD_or] at this
    revert this; cases p.getLsbD j <;> cases m.getLsbD j <;> cases q.getLsbD j <;> cases n.getLsbD j <;> simp
/-- No two values of a feature. -/
def noC (a b : Int) : Prop := a = 0 ∨ b = 0 ∨ a = b
theorem uni_no {p m q n : BitVec 32} (h1 : vld p m = true) (h2 : vld q n = true) (k : Nat) (hk : k < 24) (h : ¬ noC (getV p m k) (getV q n k)) : vld (p ||| q) (m ||| n) = false := by
  rw [Bool.eq_false_iff]
  intro hv
  have hb := (vld_bits.1 hv k (by omega)).1
  obtain ⟨a1, a2⟩ := getV_bits h1 k (by omega)
  obtain ⟨b1, b2⟩ := getV_bits h2 k (by omega)
  rw [BitVec.getLsbD_or, BitVec.getLsbD_or, a1, a2, b1, b2] at hb
  revert hb h
  unfold noC
  rcases getV_three p m k with e | e | e <;> rcases getV_three q n k with f | f | f <;> simp [e, f]
theorem uni_yes {p m q n : BitVec 32} (h1 : vld p m = true) (h2 : vld q n = true) (h : ∀ k, k < 24 → noC (getV p m k) (getV q n k)) : vld (p ||| q) (m ||| n) = true := by
  rw [vld_bits]
  intro j hj
  have hp := vld_bits.1 h1 j hj
  have hq := vld_bits.1 h2 j hj
  rw [BitVec.getLsbD_or, BitVec.getLsbD_or]
  rcases Nat.lt_or_ge j 24 with h24 | h24
  · obtain ⟨a1, a2⟩ := getV_bits h1 j hj
    obtain ⟨b1, b2⟩ := getV_bits h2 j hj
    have hn := h j h24
    rw [all_get j h24]
    rw [a1, a2, b1, b2]
    revert hn
    unfold noC
    rcases getV_three p m j with e | e | e <;> rcases getV_three q n j with f | f | f <;> simp [e, f]
  · obtain ⟨a1, a2⟩ := vld_high h1 j hj h24
    obtain ⟨b1, b2⟩ := vld_high h2 j hj h24
    simp [a1, a2, b1, b2]
theorem uni_more {g1 g2 : Nat → Int} {k : Nat} (h : ∀ j, j < k → noC (g1 j) (g2 j)) (hk : noC (g1 k) (g2 k)) : ∀ j, j < k + 1 → noC (g1 j) (g2 j) := fun j hj => by
  rcases Nat.lt_or_ge j k with h1 | h1
  · exact h j h1
  · obtain rfl : j = k := by omega
    exact hk
set_option maxHeartbeats 4000000 in
theorem runify_badS (p m q n : BitVec 32) (hv : (vld p m && vld q n) = false) (w : World) : Gives 23 #[sn p.toNat m.toNat, sn q.toNat n.toNat] w (.tuple #[sn 0 0, .bool false]) := by
  unfold Gives
  rcases h1 : vld p m with _ | _
  · have H1 := Lib.hid h1; clear h1 hv
    go_enter Tryd.func23, Tryd.ntmps23
    go_wp2_with (go_at_call 18; with_reducible refine Gives.then (Gives.eq (rvalid_any p m _) rfl (by rw [H1.out])) ?_; intro w1 hb; have hw := chain (B := w.heap.size) (a := w) (by go_grown) (by go_size) hb; (first | have h0 := chain (h0.trans (by go_grown)) (by go_size) hb | have h0 := hb); obtain ⟨hc, hf, hz⟩ := bcell hb; obtain ⟨hc0, hf0, hz0⟩ := bcell h0; clear hb; (try simp only [World.size_alloc, World.size_setCell, World.size_drew] at hc hf hz hc0 hf0 hz0); (first | (have hy := (hc _ _ (by omega)).trans r0; have r0 := hy; clear hy) | (have hy := (hc _ _ (by omega)).trans (cell_past (by omega) r0); have r0 := hy; clear hy) | skip); (first | (have hy := (hc _ _ (by omega)).trans r1; have r1 := hy; clear hy) | (have hy := (hc _ _ (by omega)).trans (cell_past (by omega) r1); have r1 := hy; clear hy) | skip); (first | (have hy := (hc _ _ (by omega)).trans r2; have r2 := hy; clear hy) | (have hy := (hc _ _ (by omega)).trans (cell_past (by omega) r2); have r2 := hy; clear hy) | skip); (first | (have hy := (hc _ _ (by omega)).trans r3; have r3 := hy; clear hy) | (have hy := (hc _ _ (by omega)).trans (cell_past (by omega) r3); have r3 := hy; clear hy) | skip); (first | (have hy := (hc _ _ (by omega)).trans r4; have r4 := hy; clear hy) | (have hy := (hc _ _ (by omega)).trans (cell_past (by omega) r4); have r4 := hy; clear hy) | skip); (first | (have hy := (hc _ _ (by omega)).trans r5; have r5 := hy; clear hy) | (have hy := (hc _ _ (by omega)).trans (cell_past (by omega) r5); have r5 := hy; clear hy) | skip); (first | (have hy := (hc _ _ (by omega)).trans r6; have r6 := hy; clear hy) | (have hy := (hc _ _ (by omega)).trans (cell_past (by omega) r6); have r6 := hy; clear hy) | skip); (first | (have hy := (hc _ _ (by omega)).trans r7; have r7 := hy; clear hy) | (have hy := (hc _ _ (by omega)).trans (cell_past (by omega) r7); have r7 := hy; clear hy) | skip); (try have s0 := fun X => cell_past (X := X) (by omega : w.heap.size < w1.heap.size) r0); (try have s1 := fun X => cell_past (X := X) (by omega : w.heap.size < w1.heap.size) r1); (try have s2 := fun X => cell_past (X := X) (by omega : w.heap.size + 1 < w1.heap.size) r2); (try have s3 := fun X => cell_past (X := X) (by omega : w.heap.size + 1 < w1.heap.size) r3); (try (have hy := (hf _ _ (by omega)).trans q0; have q0 := hy; clear hy)); (try (have hy := (hf _ _ (by omega)).trans q1; have q1 := hy; clear hy)); (try (have hy := (hf _ _ (by omega)).trans q2; have q2 := hy; clear hy)); (try (have hy := (hf _ _ (by omega)).trans q3; have q3 := hy; clear hy)))
    refine bodyPost_ret (v := .tuple #[sn 0 0, .bool false]) (by simp [results, Tryd.results23, go_sem, hc, hz, hc0, hz0]) rfl ⟨rfl, by go_grown⟩
  · rw [h1, Bool.true_and] at hv
    have H1 := Lib.hid h1; have H2 := Lib.hid hv; clear h1 hv
    go_enter Tryd.func23, Tryd.ntmps23
    go_wp2_with (first | (go_at_call 18; with_reducible refine Gives.then (Gives.eq (rvalid_any p m _) rfl (by rw [H1.out])) ?_; intro w1 hb; have hw := chain (B := w.heap.size) (a := w) (by go_grown) (by go_size) hb; (first | have h0 := chain (h0.trans (by go_grown)) (by go_size) hb | have h0 := hb); obtain ⟨hc, hf, hz⟩ := bcell hb; obtain ⟨hc0, hf0, hz0⟩ := bcell h0; clear hb; (try simp only [World.size_alloc, World.size_setCell, World.size_drew] at hc hf hz hc0 hf0 hz0); (first | (have hy := (hc _ _ (by omega)).trans r0; have r0 := hy; clear hy) | (have hy := (hc _ _ (by omega)).trans (cell_past (by omega) r0); have r0 := hy; clear hy) | skip); (first | (have hy := (hc _ _ (by omega)).trans r1; have r1 := hy; clear hy) | (have hy := (hc _ _ (by omega)).trans (cell_past (by omega) r1); have r1 := hy; clear hy) | skip); (first | (have hy := (hc _ _ (by omega)).trans r2; have r2 := hy; clear hy) | (have hy := (hc _ _ (by omega)).trans (cell_past (by omega) r2); have r2 := hy; clear hy) | skip); (first | (have hy := (hc _ _ (by omega)).trans r3; have r3 := hy; clear hy) | (have hy := (hc _ _ (by omega)).trans (cell_past (by omega) r3); have r3 := hy; clear hy) | skip); (first | (have hy := (hc _ _ (by omega)).trans r4; have r4 := hy; clear hy) | (have hy := (hc _ _ (by omega)).trans (cell_past (by omega) r4); have r4 := hy; clear hy) | skip); (first | (have hy := (hc _ _ (by omega)).trans r5; have r5 := hy; clear hy) | (have hy := (hc _ _ (by omega)).trans (cell_past (by omega) r5); have r5 := hy; clear hy) | skip); (first | (have hy := (hc _ _ (by omega)).trans r6; have r6 := hy; clear hy) | (have hy := (hc _ _ (by omega)).trans (cell_past (by omega) r6); have r6 := hy; clear hy) | skip); (first | (have hy := (hc _ _ (by omega)).trans r7; have r7 := hy; clear hy) | (have hy := (hc _ _ (by omega)).trans (cell_past (by omega) r7); have r7 := hy; clear hy) | skip); (try have s0 := fun X => cell_past (X := X) (by omega : w.heap.size < w1.heap.size) r0); (try have s1 := fun X => cell_past (X := X) (by omega : w.heap.size < w1.heap.size) r1); (try have s2 := fun X => cell_past (X := X) (by omega : w.heap.size + 1 < w1.heap.size) r2); (try have s3 := fun X => cell_past (X := X) (by omega : w.heap.size + 1 < w1.heap.size) r3); (try (have hy := (hf _ _ (by omega)).trans q0; have q0 := hy; clear hy)); (try (have hy := (hf _ _ (by omega)).trans q1; have q1 := hy; clear hy)); (try (have hy := (hf _ _ (by omega)).trans q2; have q2 := hy; clear hy)); (try (have hy := (hf _ _ (by omega)).trans q3; have q3 := hy; clear hy))) | (go_at_call 18; with_reducible refine Gives.then (Gives.eq (rvalid_any q n _) rfl (by rw [H2.out])) ?_; intro w1 hb; have hw := chain (B := w.heap.size) (a := w) (by go_grown) (by go_size) hb; (first | have h0 := chain (h0.trans (by go_grown)) (by go_size) hb | have h0 := hb); obtain ⟨hc, hf, hz⟩ := bcell hb; obtain ⟨hc0, hf0, hz0⟩ := bcell h0; clear hb; (try simp only [World.size_alloc, World.size_setCell, World.size_drew] at hc hf hz hc0 hf0 hz0); (first | (have hy := (hc _ _ (by omega)).trans r0; have r0 := hy; clear hy) | (have hy := (hc _ _ (by omega)).trans (cell_past (by omega) r0); have r0 := hy; clear hy) | skip); (first | (have hy := (hc _ _ (by omega)).trans r1; have r1 := hy; clear hy) | (have hy := (hc _ _ (by omega)).trans (cell_past (by omega) r1); have r1 := hy; clear hy) | skip); (first | (have hy := (hc _ _ (by omega)).trans r2; have r2 := hy; clear hy) | (have hy := (hc _ _ (by omega)).trans (cell_past (by omega) r2); have r2 := hy; clear hy) | skip); (first | (have hy := (hc _ _ (by omega)).trans r3; have r3 := hy; clear hy) | (have hy := (hc _ _ (by omega)).trans (cell_past (by omega) r3); have r3 := hy; clear hy) | skip); (first | (have hy := (hc _ _ (by omega)).trans r4; have r4 := hy; clear hy) | (have hy := (hc _ _ (by omega)).trans (cell_past (by omega) r4); have r4 := hy; clear hy) | skip); (first | (have hy := (hc _ _ (by omega)).trans r5; have r5 := hy; clear hy) | (have hy := (hc _ _ (by omega)).trans (cell_past (by omega) r5); have r5 := hy; clear hy) | skip); (first | (have hy := (hc _ _ (by omega)).trans r6; have r6 := hy; clear hy) | (have hy := (hc _ _ (by omega)).trans (cell_past (by omega) r6); have r6 := hy; clear hy) | skip); (first | (have hy := (hc _ _ (by omega)).trans r7; have r7 := hy; clear hy) | (have hy := (hc _ _ (by omega)).trans (cell_past (by omega) r7); have r7 := hy; clear hy) | skip); (try have s0 := fun X => cell_past (X := X) (by omega : w.heap.size < w1.heap.size) r0); (try have s1 := fun X => cell_past (X := X) (by omega : w.heap.size < w1.heap.size) r1); (try have s2 := fun X => cell_past (X := X) (by omega : w.heap.size + 1 < w1.heap.size) r2); (try have s3 := fun X => cell_past (X := X) (by omega : w.heap.size + 1 < w1.heap.size) r3); (try (have hy := (hf _ _ (by omega)).trans q0; have q0 := hy; clear hy)); (try (have hy := (hf _ _ (by omega)).trans q1; have q1 := hy; clear hy)); (try (have hy := (hf _ _ (by omega)).trans q2; have q2 := hy; clear hy)); (try (have hy := (hf _ _ (by omega)).trans q3; have q3 := hy; clear hy))))
    refine bodyPost_ret (v := .tuple #[sn 0 0, .bool false]) (by simp [results, Tryd.results23, go_sem, hc, hz, hc0, hz0]) rfl ⟨rfl, by go_grown⟩
set_option maxHeartbeats 4000000 in
theorem runify_of (p m q n : BitVec 32) (V : Bool) (h1 : vld p m = true) (h2 : vld q n = true) (hV : vld (p ||| q) (m ||| n) = V) (w : World) : Gives 23 #[sn p.toNat m.toNat, sn q.toNat n.toNat] w (if V then .tuple #[sn (p ||| q).toNat (m ||| n).toNat, .bool true] else .tuple #[sn 0 0, .bool false]) := by
  unfold Gives
  have hno := uni_no h1 h2
  have hyes := uni_yes h1 h2
  rw [hV] at hno hyes
  have hend : mix (p ||| q) p 24 = p ||| q ∧ mix (m ||| n) m 24 = m ||| n := ⟨mix_all fun j hj h24 => by rw [BitVec.getLsbD_or, (vld_high h2 j hj h24).1, Bool.or_false], mix_all fun j hj h24 => by rw [BitVec.getLsbD_or, (vld_high h2 j hj h24).2, Bool.or_false]⟩
  have hbits := fun k (hk : k < 24) => And.intro (getV_bits h1 k (by omega)) (getV_bits h2 k (by omega))
  have HE := Lib.hid hend; have HN := Lib.hid hno; have HY := Lib.hid hyes; have HB := Lib.hid hbits; clear hend hno hyes hbits hV
  have H1 := Lib.hid h1; have H2 := Lib.hid h2; clear h1 h2
  go_enter Tryd.func23, Tryd.ntmps23
  go_wp2_with (first | (go_at_call 18; with_reducible refine Gives.then (Gives.eq (rvalid_any p m _) rfl (by rw [H1.out])) ?_; intro w1 hb; have hw := chain (B := w.heap.size) (a := w) (by go_grown) (by go_size) hb; (first | have h0 := chain (h0.trans (by go_grown)) (by go_size) hb | have h0 := hb); obtain ⟨hc, hf, hz⟩ := bcell hb; obtain ⟨hc0, hf0, hz0⟩ := bcell h0; clear hb; (try simp only [World.size_alloc, World.size_setCell, World.size_drew] at hc hf hz hc0 hf0 hz0); (first | (have hy := (hc _ _ (by omega)).trans r0; have r0 := hy; clear hy) | (have hy := (hc _ _ (by omega)).trans (cell_past (by omega) r0); have r0 := hy; clear hy) | skip); (first | (have hy := (hc _ _ (by omega)).trans r1; have r1 := hy; clear hy) | (have hy := (hc _ _ (by omega)).trans (cell_past (by omega) r1); have r1 := hy; clear hy) | skip); (first | (have hy := (hc _ _ (by omega)).trans r2; have r2 := hy; clear hy) | (have hy := (hc _ _ (by omega)).trans (cell_past (by omega) r2); have r2 := hy; clear hy) | skip); (first | (have hy := (hc _ _ (by omega)).trans r3; have r3 := hy; clear hy) | (have hy := (hc _ _ (by omega)).trans (cell_past (by omega) r3); have r3 := hy; clear hy) | skip); (first | (have hy := (hc _ _ (by omega)).trans r4; have r4 := hy; clear hy) | (have hy := (hc _ _ (by omega)).trans (cell_past (by omega) r4); have r4 := hy; clear hy) | skip); (first | (have hy := (hc _ _ (by omega)).trans r5; have r5 := hy; clear hy) | (have hy := (hc _ _ (by omega)).trans (cell_past (by omega) r5); have r5 := hy; clear hy) | skip); (first | (have hy := (hc _ _ (by omega)).trans r6; have r6 := hy; clear hy) | (have hy := (hc _ _ (by omega)).trans (cell_past (by omega) r6); have r6 := hy; clear hy) | skip); (first | (have hy := (hc _ _ (by omega)).trans r7; have r7 := hy; clear hy) | (have hy := (hc _ _ (by omega)).trans (cell_past (by omega) r7); have r7 := hy; clear hy) | skip); (try have s0 := fun X => cell_past (X := X) (by omega : w.heap.size < w1.heap.size) r0); (try have s1 := fun X => cell_past (X := X) (by omega : w.heap.size < w1.heap.size) r1); (try have s2 := fun X => cell_past (X := X) (by omega : w.heap.size + 1 < w1.heap.size) r2); (try have s3 := fun X => cell_past (X := X) (by omega : w.heap.size + 1 < w1.heap.size) r3); (try (have hy := (hf _ _ (by omega)).trans q0; have q0 := hy; clear hy)); (try (have hy := (hf _ _ (by omega)).trans q1; have q1 := hy; clear hy)); (try (have hy := (hf _ _ (by omega)).trans q2; have q2 := hy; clear hy)); (try (have hy := (hf _ _ (by omega)).trans q3; have q3 := hy; clear hy))) | (go_at_call 18; with_reducible refine Gives.then (Gives.eq (rvalid_any q n _) rfl (by rw [H2.out])) ?_; intro w1 hb; have hw := chain (B := w.heap.size) (a := w) (by go_grown) (by go_size) hb; (first | have h0 := chain (h0.trans (by go_grown)) (by go_size) hb | have h0 := hb); obtain ⟨hc, hf, hz⟩ := bcell hb; obtain ⟨hc0, hf0, hz0⟩ := bcell h0; clear hb; (try simp only [World.size_alloc, World.size_setCell, World.size_drew] at hc hf hz hc0 hf0 hz0); (first | (have hy := (hc _ _ (by omega)).trans r0; have r0 := hy; clear hy) | (have hy := (hc _ _ (by omega)).trans (cell_past (by omega) r0); have r0 := hy; clear hy) | skip); (first | (have hy := (hc _ _ (by omega)).trans r1; have r1 := hy; clear hy) | (have hy := (hc _ _ (by omega)).trans (cell_past (by omega) r1); have r1 := hy; clear hy) | skip); (first | (have hy := (hc _ _ (by omega)).trans r2; have r2 := hy; clear hy) | (have hy := (hc _ _ (by omega)).trans (cell_past (by omega) r2); have r2 := hy; clear hy) | skip); (first | (have hy := (hc _ _ (by omega)).trans r3; have r3 := hy; clear hy) | (have hy := (hc _ _ (by omega)).trans (cell_past (by omega) r3); have r3 := hy; clear hy) | skip); (first | (have hy := (hc _ _ (by omega)).trans r4; have r4 := hy; clear hy) | (have hy := (hc _ _ (by omega)).trans (cell_past (by omega) r4); have r4 := hy; clear hy) | skip); (first | (have hy := (hc _ _ (by omega)).trans r5; have r5 := hy; clear hy) | (have hy := (hc _ _ (by omega)).trans (cell_past (by omega) r5); have r5 := hy; clear hy) | skip); (first | (have hy := (hc _ _ (by omega)).trans r6; have r6 := hy; clear hy) | (have hy := (hc _ _ (by omega)).trans (cell_past (by omega) r6); have r6 := hy; clear hy) | skip); (first | (have hy := (hc _ _ (by omega)).trans r7; have r7 := hy; clear hy) | (have hy := (hc _ _ (by omega)).trans (cell_past (by omega) r7); have r7 := hy; clear hy) | skip); (try have s0 := fun X => cell_past (X := X) (by omega : w.heap.size < w1.heap.size) r0); (try have s1 := fun X => cell_past (X := X) (by omega : w.heap.size < w1.heap.size) r1); (try have s2 := fun X => cell_past (X := X) (by omega : w.heap.size + 1 < w1.heap.size) r2); (try have s3 := fun X => cell_past (X := X) (by omega : w.heap.size + 1 < w1.heap.size) r3); (try (have hy := (hf _ _ (by omega)).trans q0; have q0 := hy; clear hy)); (try (have hy := (hf _ _ (by omega)).trans q1; have q1 := hy; clear hy)); (try (have hy := (hf _ _ (by omega)).trans q2; have q2 := hy; clear hy)); (try (have hy := (hf _ _ (by omega)).trans q3; have q3 := hy; clear hy))))
  first | refine wp_gen ?_ | refine calls_gen ?_
  intro W1 hW1
  have hw1 : Below w.heap.size w W1 := by rw [hW1]; go_grown
  have hz1 : w1.heap.size + 1 ≤ W1.heap.size := by rw [hW1]; go_size
  have g0 : W1.cell? ⟨w.heap.size, 0, none⟩ = some (.int .u32 p.toNat) := by rw [hW1]; first | go_cell | (go_simp; done) | (simp [hc, hf, hc0, hf0]; done) | (refine cell_past (by omega) ?_; rw [hc0 _ _ (by omega)]; first | go_cell | (go_simp; done)) | (refine frozen_past (by omega) ?_; rw [hf0 _ _ (by omega)]; first | (go_simp; done) | (simp; done)) | (refine keep_set ?_ (by (try simp only []); omega); first | assumption | (refine keep_set ?_ (by (try simp only []); omega); assumption))
  have g1 : W1.cell? ⟨w.heap.size, 1, none⟩ = some (.int .u32 m.toNat) := by rw [hW1]; first | go_cell | (go_simp; done) | (simp [hc, hf, hc0, hf0]; done) | (refine cell_past (by omega) ?_; rw [hc0 _ _ (by omega)]; first | go_cell | (go_simp; done)) | (refine frozen_past (by omega) ?_; rw [hf0 _ _ (by omega)]; first | (go_simp; done) | (simp; done)) | (refine keep_set ?_ (by (try simp only []); omega); first | assumption | (refine keep_set ?_ (by (try simp only []); omega); assumption))
  have g2 : W1.cell? ⟨w.heap.size + 1, 0, none⟩ = some (.int .u32 q.toNat) := by rw [hW1]; first | go_cell | (go_simp; done) | (simp [hc, hf, hc0, hf0]; done) | (refine cell_past (by omega) ?_; rw [hc0 _ _ (by omega)]; first | go_cell | (go_simp; done)) | (refine frozen_past (by omega) ?_; rw [hf0 _ _ (by omega)]; first | (go_simp; done) | (simp; done)) | (refine keep_set ?_ (by (try simp only []); omega); first | assumption | (refine keep_set ?_ (by (try simp only []); omega); assumption))
  have g3 : W1.cell? ⟨w.heap.size + 1, 1, none⟩ = some (.int .u32 n.toNat) := by rw [hW1]; first | go_cell | (go_simp; done) | (simp [hc, hf, hc0, hf0]; done) | (refine cell_past (by omega) ?_; rw [hc0 _ _ (by omega)]; first | go_cell | (go_simp; done)) | (refine frozen_past (by omega) ?_; rw [hf0 _ _ (by omega)]; first | (go_simp; done) | (simp; done)) | (refine keep_set ?_ (by (try simp only []); omega); first | assumption | (refine keep_set ?_ (by (try simp only []); omega); assumption))
  have g4 : W1.cell? ⟨w1.heap.size, 0, none⟩ = some (.int .u32 p.toNat) := by rw [hW1]; first | go_cell | (go_simp; done) | (simp [hc, hf, hc0, hf0]; done) | (refine cell_past (by omega) ?_; rw [hc0 _ _ (by omega)]; first | go_cell | (go_simp; done)) | (refine frozen_past (by omega) ?_; rw [hf0 _ _ (by omega)]; first | (go_simp; done) | (simp; done)) | (refine keep_set ?_ (by (try simp only []); omega); first | assumption | (refine keep_set ?_ (by (try simp only []); omega); assumption))
  have g5 : W1.cell? ⟨w1.heap.size, 1, none⟩ = some (.int .u32 m.toNat) := by rw [hW1]; first | go_cell | (go_simp; done) | (simp [hc, hf, hc0, hf0]; done) | (refine cell_past (by omega) ?_; rw [hc0 _ _ (by omega)]; first | go_cell | (go_simp; done)) | (refine frozen_past (by omega) ?_; rw [hf0 _ _ (by omega)]; first | (go_simp; done) | (simp; done)) | (refine keep_set ?_ (by (try simp only []); omega); first | assumption | (refine keep_set ?_ (by (try simp only []); omega); assumption))
  have g6 : W1.cell? ⟨w.heap.size + 1 + 1, 0, none⟩ = some (.int .u32 0) := by rw [hW1]; first | go_cell | (go_simp; done) | (simp [hc, hf, hc0, hf0]; done) | (refine cell_past (by omega) ?_; rw [hc0 _ _ (by omega)]; first | go_cell | (go_simp; done)) | (refine frozen_past (by omega) ?_; rw [hf0 _ _ (by omega)]; first | (go_simp; done) | (simp; done)) | (refine keep_set ?_ (by (try simp only []); omega); first | assumption | (refine keep_set ?_ (by (try simp only []); omega); assumption))
  have g7 : W1.cell? ⟨w.heap.size + 1 + 1, 1, none⟩ = some (.int .u32 0) := by rw [hW1]; first | go_cell | (go_simp; done) | (simp [hc, hf, hc0, hf0]; done) | (refine cell_past (by omega) ?_; rw [hc0 _ _ (by omega)]; first | go_cell | (go_simp; done)) | (refine frozen_past (by omega) ?_; rw [hf0 _ _ (by omega)]; first | (go_simp; done) | (simp; done)) | (refine keep_set ?_ (by (try simp only []); omega); first | assumption | (refine keep_set ?_ (by (try simp only []); omega); assumption))
  have z0 : W1.frozen? ⟨w1.heap.size, 0, none⟩ = false := by rw [hW1]; first | go_cell | (go_simp; done) | (simp [hc, hf, hc0, hf0]; done) | (refine cell_past (by omega) ?_; rw [hc0 _ _ (by omega)]; first | go_cell | (go_simp; done)) | (refine frozen_past (by omega) ?_; rw [hf0 _ _ (by omega)]; first | (go_simp; done) | (simp; done)) | (refine keep_set ?_ (by (try simp only []); omega); first | assumption | (refine keep_set ?_ (by (try simp only []); omega); assumption))
  have z1 : W1.frozen? ⟨w1.heap.size, 1, none⟩ = false := by rw [hW1]; first | go_cell | (go_simp; done) | (simp [hc, hf, hc0, hf0]; done) | (refine cell_past (by omega) ?_; rw [hc0 _ _ (by omega)]; first | go_cell | (go_simp; done)) | (refine frozen_past (by omega) ?_; rw [hf0 _ _ (by omega)]; first | (go_simp; done) | (simp; done)) | (refine keep_set ?_ (by (try simp only []); omega); first | assumption | (refine keep_set ?_ (by (try simp only []); omega); assumption))
  have z2 : W1.frozen? ⟨w.heap.size + 1 + 1, 0, none⟩ = false := by rw [hW1]; first | go_cell | (go_simp; done) | (simp [hc, hf, hc0, hf0]; done) | (refine cell_past (by omega) ?_; rw [hc0 _ _ (by omega)]; first | go_cell | (go_simp; done)) | (refine frozen_past (by omega) ?_; rw [hf0 _ _ (by omega)]; first | (go_simp; done) | (simp; done)) | (refine keep_set ?_ (by (try simp only []); omega); first | assumption | (refine keep_set ?_ (by (try simp only []); omega); assumption))
  have z3 : W1.frozen? ⟨w.heap.size + 1 + 1, 1, none⟩ = false := by rw [hW1]; first | go_cell | (go_simp; done) | (simp [hc, hf, hc0, hf0]; done) | (refine cell_past (by omega) ?_; rw [hc0 _ _ (by omega)]; first | go_cell | (go_simp; done)) | (refine frozen_past (by omega) ?_; rw [hf0 _ _ (by omega)]; first | (go_simp; done) | (simp; done)) | (refine keep_set ?_ (by (try simp only []); omega); first | assumption | (refine keep_set ?_ (by (try simp only []); omega); assumption))
  clear hW1
  have hb3 : w.heap.size + 1 + 1 + 1 ≤ w1.heap.size := by omega
  clear hc hf hz hw hc0 hf0 hz0 h0
  generalize w1.heap.size = bq at *
  go_loopw [7] (fun i wr => ∃ k : Nat, k ≤ 24 ∧ i = .int .i64 (k : Int) ∧ (∀ j, j < k → noC (getV p m j) (getV q n j)) ∧ Two wr w.heap.size p.toNat m.toNat ∧ Two wr (w.heap.size + 1) q.toNat n.toNat ∧ Two wr bq (mix (p ||| q) p k).toNat (mix (m ||| n) m k).toNat ∧ Thaw wr bq ∧ Two wr (w.heap.size + 1 + 1) 0 0 ∧ Thaw wr (w.heap.size + 1 + 1) ∧ Below w.heap.size w wr ∧ bq + 1 ≤ wr.heap.size) (fun i _ => 24 - (intOf i).toNat)
  case atStart => exact ⟨0, by omega, rfl, fun j hj => absurd hj (by omega), ⟨g0, g1⟩, ⟨g2, g3⟩, by rw [mix_zero, mix_zero]; exact ⟨g4, g5⟩, ⟨z0, z1⟩, ⟨g6, g7⟩, ⟨z2, z3⟩, hw1, by omega⟩
  case round =>
    clear g0 g1 g2 g3 g4 g5 g6 g7 z0 z1 z2 z3 hw1 hz1
    obtain ⟨k, hk, rfl, hall, ⟨r0, r1⟩, ⟨r2, r3⟩, ⟨r4, r5⟩, ⟨q0, q1⟩, ⟨r6, r7⟩, ⟨q2, q3⟩, hw, hsz⟩ := hrel
    by_cases hlt : k < 24
    · have hg1 := rgv p m k hlt
      have hg2 := rgv q n k hlt
      rw [gV_of H1.out] at hg1
      rw [gV_of H2.out] at hg2
      obtain ⟨⟨a1, a2⟩, b1, b2⟩ := HB.out k hlt
      have hput := rput_any (mix (p ||| q) p k) (mix (m ||| n) m k) k (getV q n k) hlt
      have hmore := uni_more hall
      have hn := HN.out k hlt
      have ha3 := getV_three p m k
      have hb3' := getV_three q n k
      generalize getV p m k = a at *
      generalize getV q n k = b at *
      have HM := Lib.hid hmore; have HNN := Lib.hid hn; clear hall hmore hn
      by_cases hb0 : b = 0
      · subst hb0
        clear hput
        have e1 : mix (p ||| q) p (k + 1) = mix (p ||| q) p k := mix_keep _ _ k (by rw [BitVec.getLsbD_or, b1]; simp)
        have e2 : mix (m ||| n) m (k + 1) = mix (m ||| n) m k := mix_keep _ _ k (by rw [BitVec.getLsbD_or, b2]; simp)
        have E1 := Lib.hid e1; have E2 := Lib.hid e2
        clear e1 e2
        obtain ⟨F0, hF0⟩ : ∃ F0, mix (p ||| q) p k = F0 := ⟨_, rfl⟩
        obtain ⟨M0, hM0⟩ : ∃ M0, mix (m ||| n) m k = M0 := ⟨_, rfl⟩
        rw [hF0] at r4
        rw [hM0] at r5
        have HF0 := Lib.hid hF0; have HM0 := Lib.hid hM0; clear hF0 hM0
        clear a1 a2 b1 b2 hb3'
        by_cases ha0 : a = 0
        · subst ha0
          go_wp2_with fail
          refine wp_gen ?_
          intro W1 hW1
          have hw1 : Below w.heap.size w W1 := by rw [hW1]; go_grown
          have hz1 : wr.heap.size ≤ W1.heap.size := by rw [hW1]; go_size
          have c0 : W1.cell? ⟨w.heap.size, 0, none⟩ = some (.int .u32 p.toNat) := by rw [hW1]; first | go_cell | (go_simp; done) | exact cell_past (by first | assumption | omega) (by assumption)
          have c1 : W1.cell? ⟨w.heap.size, 1, none⟩ = some (.int .u32 m.toNat) := by rw [hW1]; first | go_cell | (go_simp; done) | exact cell_past (by first | assumption | omega) (by assumption)
          have c2 : W1.cell? ⟨w.heap.size + 1, 0, none⟩ = some (.int .u32 q.toNat) := by rw [hW1]; first | go_cell | (go_simp; done) | exact cell_past (by first | assumption | omega) (by assumption)
          have c3 : W1.cell? ⟨w.heap.size + 1, 1, none⟩ = some (.int .u32 n.toNat) := by rw [hW1]; first | go_cell | (go_simp; done) | exact cell_past (by first | assumption | omega) (by assumption)
          have c4 : W1.cell? ⟨bq, 0, none⟩ = some (.int .u32 F0.toNat) := by rw [hW1]; first | go_cell | (go_simp; done) | exact cell_past (by first | assumption | omega) (by assumption)
          have c5 : W1.cell? ⟨bq, 1, none⟩ = some (.int .u32 M0.toNat) := by rw [hW1]; first | go_cell | (go_simp; done) | exact cell_past (by first | assumption | omega) (by assumption)
          have c6 : W1.cell? ⟨w.heap.size + 1 + 1, 0, none⟩ = some (.int .u32 0) := by rw [hW1]; first | go_cell | (go_simp; done) | exact cell_past (by first | assumption | omega) (by assumption)
          have c7 : W1.cell? ⟨w.heap.size + 1 + 1, 1, none⟩ = some (.int .u32 0) := by rw [hW1]; first | go_cell | (go_simp; done) | exact cell_past (by first | assumption | omega) (by assumption)
          have y0 : W1.frozen? ⟨bq, 0, none⟩ = false := by rw [hW1]; first | assumption | (go_simp; done) | (simp [*]; done)
          have y1 : W1.frozen? ⟨bq, 1, none⟩ = false := by rw [hW1]; first | assumption | (go_simp; done) | (simp [*]; done)
          have y2 : W1.frozen? ⟨w.heap.size + 1 + 1, 0, none⟩ = false := by rw [hW1]; first | assumption | (go_simp; done) | (simp [*]; done)
          have y3 : W1.frozen? ⟨w.heap.size + 1 + 1, 1, none⟩ = false := by rw [hW1]; first | assumption | (go_simp; done) | (simp [*]; done)
          clear hW1
          have k0 := cell_regrown c0
          have k1 := cell_regrown c1
          have k2 := cell_regrown c2
          have k3 := cell_regrown c3
          have k4 := cell_regrown c4
          have k5 := cell_regrown c5
          have k6 := cell_regrown c6
          have k7 := cell_regrown c7
          refine wp_region_quiet_below (by kernel_rfl) (by kernel_rfl) ?_
          try simp only [List.append]
          repeat (go_big_quiet_step (first | (go_at_call 20; with_reducible exact Calls.regrown_of (hg1 _)) | (go_at_call 20; with_reducible exact Calls.regrown_of (hg2 _))))
          refine wpQuiet_nil ?_
          intro w2 hw2
          have hb : Below W1.heap.size W1 w2 := by obtain ⟨q, rfl⟩ := hw2; exact below_regrown _ _ _
          clear hw2
          clear k0 k1 k2 k3 k4 k5 k6 k7
          have hw := chain hw1 (by omega) hb
          obtain ⟨hc, hf, hz⟩ := bcell hb
          clear hb
          try have r0 : w2.cell? ⟨w.heap.size, 0, none⟩ = some (.int .u32 p.toNat) := (hc _ _ (by omega)).trans c0
          try have r1 : w2.cell? ⟨w.heap.size, 1, none⟩ = some (.int .u32 m.toNat) := (hc _ _ (by omega)).trans c1
          try have r2 : w2.cell? ⟨w.heap.size + 1, 0, none⟩ = some (.int .u32 q.toNat) := (hc _ _ (by omega)).trans c2
          try have r3 : w2.cell? ⟨w.heap.size + 1, 1, none⟩ = some (.int .u32 n.toNat) := (hc _ _ (by omega)).trans c3
          try have r4 : w2.cell? ⟨bq, 0, none⟩ = some (.int .u32 F0.toNat) := (hc _ _ (by omega)).trans c4
          try have r5 : w2.cell? ⟨bq, 1, none⟩ = some (.int .u32 M0.toNat) := (hc _ _ (by omega)).trans c5
          try have r6 : w2.cell? ⟨w.heap.size + 1 + 1, 0, none⟩ = some (.int .u32 0) := (hc _ _ (by omega)).trans c6
          try have r7 : w2.cell? ⟨w.heap.size + 1 + 1, 1, none⟩ = some (.int .u32 0) := (hc _ _ (by omega)).trans c7
          have q0 : w2.frozen? ⟨bq, 0, none⟩ = false := (hf _ _ (by omega)).trans y0
          have q1 : w2.frozen? ⟨bq, 1, none⟩ = false := (hf _ _ (by omega)).trans y1
          have q2 : w2.frozen? ⟨w.heap.size + 1 + 1, 0, none⟩ = false := (hf _ _ (by omega)).trans y2
          have q3 : w2.frozen? ⟨w.heap.size + 1 + 1, 1, none⟩ = false := (hf _ _ (by omega)).trans y3
          go_wp2_with fail
          go_roundw
          case rel => exact ⟨k + 1, by omega, by go_num, HM.out (by simp [noC]), ⟨r0, r1⟩, ⟨r2, r3⟩, by rw [E1.out, E2.out, HF0.out, HM0.out]; exact ⟨r4, r5⟩, ⟨q0, q1⟩, ⟨r6, r7⟩, ⟨q2, q3⟩, hw, by omega⟩
          case measure => simp [intOf]; omega
        · have f1 : (a == 0) = false := by simpa using ha0
          have f2 : (a != 0) = true := by simpa using ha0
          clear ha0
          go_wp2_with fail
          refine wp_gen ?_
          intro W1 hW1
          have hw1 : Below w.heap.size w W1 := by rw [hW1]; go_grown
          have hz1 : wr.heap.size ≤ W1.heap.size := by rw [hW1]; go_size
          have c0 : W1.cell? ⟨w.heap.size, 0, none⟩ = some (.int .u32 p.toNat) := by rw [hW1]; first | go_cell | (go_simp; done) | exact cell_past (by first | assumption | omega) (by assumption)
          have c1 : W1.cell? ⟨w.heap.size, 1, none⟩ = some (.int .u32 m.toNat) := by rw [hW1]; first | go_cell | (go_simp; done) | exact cell_past (by first | assumption | omega) (by assumption)
          have c2 : W1.cell? ⟨w.heap.size + 1, 0, none⟩ = some (.int .u32 q.toNat) := by rw [hW1]; first | go_cell | (go_simp; done) | exact cell_past (by first | assumption | omega) (by assumption)
          have c3 : W1.cell? ⟨w.heap.size + 1, 1, none⟩ = some (.int .u32 n.toNat) := by rw [hW1]; first | go_cell | (go_simp; done) | exact cell_past (by first | assumption | omega) (by assumption)
          have c4 : W1.cell? ⟨bq, 0, none⟩ = some (.int .u32 F0.toNat) := by rw [hW1]; first | go_cell | (go_simp; done) | exact cell_past (by first | assumption | omega) (by assumption)
          have c5 : W1.cell? ⟨bq, 1, none⟩ = some (.int .u32 M0.toNat) := by rw [hW1]; first | go_cell | (go_simp; done) | exact cell_past (by first | assumption | omega) (by assumption)
          have c6 : W1.cell? ⟨w.heap.size + 1 + 1, 0, none⟩ = some (.int .u32 0) := by rw [hW1]; first | go_cell | (go_simp; done) | exact cell_past (by first | assumption | omega) (by assumption)
          have c7 : W1.cell? ⟨w.heap.size + 1 + 1, 1, none⟩ = some (.int .u32 0) := by rw [hW1]; first | go_cell | (go_simp; done) | exact cell_past (by first | assumption | omega) (by assumption)
          have y0 : W1.frozen? ⟨bq, 0, none⟩ = false := by rw [hW1]; first | assumption | (go_simp; done) | (simp [*]; done)
          have y1 : W1.frozen? ⟨bq, 1, none⟩ = false := by rw [hW1]; first | assumption | (go_simp; done) | (simp [*]; done)
          have y2 : W1.frozen? ⟨w.heap.size + 1 + 1, 0, none⟩ = false := by rw [hW1]; first | assumption | (go_simp; done) | (simp [*]; done)
          have y3 : W1.frozen? ⟨w.heap.size + 1 + 1, 1, none⟩ = false := by rw [hW1]; first | assumption | (go_simp; done) | (simp [*]; done)
          clear hW1
          have k0 := cell_regrown c0
          have k1 := cell_regrown c1
          have k2 := cell_regrown c2
          have k3 := cell_regrown c3
          have k4 := cell_regrown c4
          have k5 := cell_regrown c5
          have k6 := cell_regrown c6
          have k7 := cell_regrown c7
          refine wp_region_quiet_below (by kernel_rfl) (by kernel_rfl) ?_
          try simp only [List.append]
          repeat (go_big_quiet_step (first | (go_at_call 20; with_reducible exact Calls.regrown_of (hg1 _)) | (go_at_call 20; with_reducible exact Calls.regrown_of (hg2 _))))
          refine wpQuiet_nil ?_
          intro w2 hw2
          have hb : Below W1.heap.size W1 w2 := by obtain ⟨q, rfl⟩ := hw2; exact below_regrown _ _ _
          clear hw2
          clear k0 k1 k2 k3 k4 k5 k6 k7
          have hw := chain hw1 (by omega) hb
          obtain ⟨hc, hf, hz⟩ := bcell hb
          clear hb
          try have r0 : w2.cell? ⟨w.heap.size, 0, none⟩ = some (.int .u32 p.toNat) := (hc _ _ (by omega)).trans c0
          try have r1 : w2.cell? ⟨w.heap.size, 1, none⟩ = some (.int .u32 m.toNat) := (hc _ _ (by omega)).trans c1
          try have r2 : w2.cell? ⟨w.heap.size + 1, 0, none⟩ = some (.int .u32 q.toNat) := (hc _ _ (by omega)).trans c2
          try have r3 : w2.cell? ⟨w.heap.size + 1, 1, none⟩ = some (.int .u32 n.toNat) := (hc _ _ (by omega)).trans c3
          try have r4 : w2.cell? ⟨bq, 0, none⟩ = some (.int .u32 F0.toNat) := (hc _ _ (by omega)).trans c4
          try have r5 : w2.cell? ⟨bq, 1, none⟩ = some (.int .u32 M0.toNat) := (hc _ _ (by omega)).trans c5
          try have r6 : w2.cell? ⟨w.heap.size + 1 + 1, 0, none⟩ = some (.int .u32 0) := (hc _ _ (by omega)).trans c6
          try have r7 : w2.cell? ⟨w.heap.size + 1 + 1, 1, none⟩ = some (.int .u32 0) := (hc _ _ (by omega)).trans c7
          have q0 : w2.frozen? ⟨bq, 0, none⟩ = false := (hf _ _ (by omega)).trans y0
          have q1 : w2.frozen? ⟨bq, 1, none⟩ = false := (hf _ _ (by omega)).trans y1
          have q2 : w2.frozen? ⟨w.heap.size + 1 + 1, 0, none⟩ = false := (hf _ _ (by omega)).trans y2
          have q3 : w2.frozen? ⟨w.heap.size + 1 + 1, 1, none⟩ = false := (hf _ _ (by omega)).trans y3
          go_wp2_with fail
          go_roundw
          case rel => exact ⟨k + 1, by omega, by go_num, HM.out (by simp [noC]), ⟨r0, r1⟩, ⟨r2, r3⟩, by rw [E1.out, E2.out, HF0.out, HM0.out]; exact ⟨r4, r5⟩, ⟨q0, q1⟩, ⟨r6, r7⟩, ⟨q2, q3⟩, hw, by omega⟩
          case measure => simp [intOf]; omega
      · have f1 : (b == 0) = false := by simpa using hb0
        have f2 : (b != 0) = true := by simpa using hb0
        by_cases hcf : noC a b
        · have hab : a = 0 ∨ a = b := by unfold noC at hcf; rcases hcf with h | h | h; exact .inl h; exact absurd h hb0; exact .inr h
          clear hcf
          have e1 : withP (mix (p ||| q) p k) k b = mix (p ||| q) p (k + 1) := mix_putP _ _ k b (by omega) (by rw [BitVec.getLsbD_or, a1, b1]; rcases hab with h | h <;> simp [h])
          have e2 : withM (mix (m ||| n) m k) k b = mix (m ||| n) m (k + 1) := mix_putM _ _ k b (by omega) (by rw [BitVec.getLsbD_or, a2, b2]; rcases hab with h | h <;> simp [h])
          rw [e1, e2] at hput
          clear e1 e2
          obtain ⟨F1, hF1⟩ : ∃ F1, mix (p ||| q) p (k + 1) = F1 := ⟨_, rfl⟩
          obtain ⟨M1, hM1⟩ : ∃ M1, mix (m ||| n) m (k + 1) = M1 := ⟨_, rfl⟩
          rw [hF1, hM1] at hput
          have HF1 := Lib.hid hF1; have HM1 := Lib.hid hM1; clear hF1 hM1
          generalize mix (p ||| q) p k = F0 at *
          generalize mix (m ||| n) m k = M0 at *
          clear a1 a2 b1 b2 ha3 hb3'
          rcases hab with hab | hab
          · subst hab
            go_wp2_with fail
            refine wp_gen ?_
            intro W1 hW1
            have hw1 : Below w.heap.size w W1 := by rw [hW1]; go_grown
            have hz1 : wr.heap.size ≤ W1.heap.size := by rw [hW1]; go_size
            have c0 : W1.cell? ⟨w.heap.size, 0, none⟩ = some (.int .u32 p.toNat) := by rw [hW1]; first | go_cell | (go_simp; done) | exact cell_past (by first | assumption | omega) (by assumption)
            have c1 : W1.cell? ⟨w.heap.size, 1, none⟩ = some (.int .u32 m.toNat) := by rw [hW1]; first | go_cell | (go_simp; done) | exact cell_past (by first | assumption | omega) (by assumption)
            have c2 : W1.cell? ⟨w.heap.size + 1, 0, none⟩ = some (.int .u32 q.toNat) := by rw [hW1]; first | go_cell | (go_simp; done) | exact cell_past (by first | assumption | omega) (by assumption)
            have c3 : W1.cell? ⟨w.heap.size + 1, 1, none⟩ = some (.int .u32 n.toNat) := by rw [hW1]; first | go_cell | (go_simp; done) | exact cell_past (by first | assumption | omega) (by assumption)
            have c4 : W1.cell? ⟨bq, 0, none⟩ = some (.int .u32 F0.toNat) := by rw [hW1]; first | go_cell | (go_simp; done) | exact cell_past (by first | assumption | omega) (by assumption)
            have c5 : W1.cell? ⟨bq, 1, none⟩ = some (.int .u32 M0.toNat) := by rw [hW1]; first | go_cell | (go_simp; done) | exact cell_past (by first | assumption | omega) (by assumption)
            have c6 : W1.cell? ⟨w.heap.size + 1 + 1, 0, none⟩ = some (.int .u32 0) := by rw [hW1]; first | go_cell | (go_simp; done) | exact cell_past (by first | assumption | omega) (by assumption)
            have c7 : W1.cell? ⟨w.heap.size + 1 + 1, 1, none⟩ = some (.int .u32 0) := by rw [hW1]; first | go_cell | (go_simp; done) | exact cell_past (by first | assumption | omega) (by assumption)
            have y0 : W1.frozen? ⟨bq, 0, none⟩ = false := by rw [hW1]; first | assumption | (go_simp; done) | (simp [*]; done)
            have y1 : W1.frozen? ⟨bq, 1, none⟩ = false := by rw [hW1]; first | assumption | (go_simp; done) | (simp [*]; done)
            have y2 : W1.frozen? ⟨w.heap.size + 1 + 1, 0, none⟩ = false := by rw [hW1]; first | assumption | (go_simp; done) | (simp [*]; done)
            have y3 : W1.frozen? ⟨w.heap.size + 1 + 1, 1, none⟩ = false := by rw [hW1]; first | assumption | (go_simp; done) | (simp [*]; done)
            clear hW1
            have k0 := cell_regrown c0
            have k1 := cell_regrown c1
            have k2 := cell_regrown c2
            have k3 := cell_regrown c3
            have k4 := cell_regrown c4
            have k5 := cell_regrown c5
            have k6 := cell_regrown c6
            have k7 := cell_regrown c7
            refine wp_region_quiet_below (by kernel_rfl) (by kernel_rfl) ?_
            try simp only [List.append]
            repeat (go_big_quiet_step (first | (go_at_call 20; with_reducible exact Calls.regrown_of (hg1 _)) | (go_at_call 20; with_reducible exact Calls.regrown_of (hg2 _))))
            refine wpQuiet_nil ?_
            intro w2 hw2
            have hb : Below W1.heap.size W1 w2 := by obtain ⟨q, rfl⟩ := hw2; exact below_regrown _ _ _
            clear hw2
            clear k0 k1 k2 k3 k4 k5 k6 k7
            have hw := chain hw1 (by omega) hb
            obtain ⟨hc, hf, hz⟩ := bcell hb
            clear hb
            try have r0 : w2.cell? ⟨w.heap.size, 0, none⟩ = some (.int .u32 p.toNat) := (hc _ _ (by omega)).trans c0
            try have r1 : w2.cell? ⟨w.heap.size, 1, none⟩ = some (.int .u32 m.toNat) := (hc _ _ (by omega)).trans c1
            try have r2 : w2.cell? ⟨w.heap.size + 1, 0, none⟩ = some (.int .u32 q.toNat) := (hc _ _ (by omega)).trans c2
            try have r3 : w2.cell? ⟨w.heap.size + 1, 1, none⟩ = some (.int .u32 n.toNat) := (hc _ _ (by omega)).trans c3
            try have r4 : w2.cell? ⟨bq, 0, none⟩ = some (.int .u32 F0.toNat) := (hc _ _ (by omega)).trans c4
            try have r5 : w2.cell? ⟨bq, 1, none⟩ = some (.int .u32 M0.toNat) := (hc _ _ (by omega)).trans c5
            try have r6 : w2.cell? ⟨w.heap.size + 1 + 1, 0, none⟩ = some (.int .u32 0) := (hc _ _ (by omega)).trans c6
            try have r7 : w2.cell? ⟨w.heap.size + 1 + 1, 1, none⟩ = some (.int .u32 0) := (hc _ _ (by omega)).trans c7
            have q0 : w2.frozen? ⟨bq, 0, none⟩ = false := (hf _ _ (by omega)).trans y0
            have q1 : w2.frozen? ⟨bq, 1, none⟩ = false := (hf _ _ (by omega)).trans y1
            have q2 : w2.frozen? ⟨w.heap.size + 1 + 1, 0, none⟩ = false := (hf _ _ (by omega)).trans y2
            have q3 : w2.frozen? ⟨w.heap.size + 1 + 1, 1, none⟩ = false := (hf _ _ (by omega)).trans y3
            go_wp2_with fail
            (go_at_call 48; with_reducible refine Gives.then (hput _) ?_; intro w1 hb; have hw := chain (B := w.heap.size) (a := w) (by go_grown) (by go_size) hb; obtain ⟨hc, hf, hz⟩ := bcell hb; clear hb; (try simp only [World.size_alloc, World.size_setCell, World.size_drew] at hc hf hz); (first | (have hy := (hc _ _ (by omega)).trans r0; have r0 := hy; clear hy) | (have hy := (hc _ _ (by omega)).trans (cell_past (by omega) r0); have r0 := hy; clear hy) | skip); (first | (have hy := (hc _ _ (by omega)).trans r1; have r1 := hy; clear hy) | (have hy := (hc _ _ (by omega)).trans (cell_past (by omega) r1); have r1 := hy; clear hy) | skip); (first | (have hy := (hc _ _ (by omega)).trans r2; have r2 := hy; clear hy) | (have hy := (hc _ _ (by omega)).trans (cell_past (by omega) r2); have r2 := hy; clear hy) | skip); (first | (have hy := (hc _ _ (by omega)).trans r3; have r3 := hy; clear hy) | (have hy := (hc _ _ (by omega)).trans (cell_past (by omega) r3); have r3 := hy; clear hy) | skip); (first | (have hy := (hc _ _ (by omega)).trans r4; have r4 := hy; clear hy) | (have hy := (hc _ _ (by omega)).trans (cell_past (by omega) r4); have r4 := hy; clear hy) | skip); (first | (have hy := (hc _ _ (by omega)).trans r5; have r5 := hy; clear hy) | (have hy := (hc _ _ (by omega)).trans (cell_past (by omega) r5); have r5 := hy; clear hy) | skip); (first | (have hy := (hc _ _ (by omega)).trans r6; have r6 := hy; clear hy) | (have hy := (hc _ _ (by omega)).trans (cell_past (by omega) r6); have r6 := hy; clear hy) | skip); (first | (have hy := (hc _ _ (by omega)).trans r7; have r7 := hy; clear hy) | (have hy := (hc _ _ (by omega)).trans (cell_past (by omega) r7); have r7 := hy; clear hy) | skip); (try have s0 := fun X => cell_past (X := X) (by omega : w.heap.size < w1.heap.size) r0); (try have s1 := fun X => cell_past (X := X) (by omega : w.heap.size < w1.heap.size) r1); (try have s2 := fun X => cell_past (X := X) (by omega : w.heap.size + 1 < w1.heap.size) r2); (try have s3 := fun X => cell_past (X := X) (by omega : w.heap.size + 1 < w1.heap.size) r3); (try (have hy := (hf _ _ (by omega)).trans q0; have q0 := hy; clear hy)); (try (have hy := (hf _ _ (by omega)).trans q1; have q1 := hy; clear hy)); (try (have hy := (hf _ _ (by omega)).trans q2; have q2 := hy; clear hy)); (try (have hy := (hf _ _ (by omega)).trans q3; have q3 := hy; clear hy)))
            go_wp2_with fail
            go_roundw
            case rel => exact ⟨k + 1, by omega, by go_num, HM.out (by simp [noC]), Two.other ⟨r0, r1⟩ (by omega), Two.other ⟨r2, r3⟩ (by omega), by rw [HF1.out, HM1.out]; exact Two.same ⟨r4, r5⟩, Thaw.set ⟨q0, q1⟩, Two.other ⟨r6, r7⟩ (by omega), Thaw.set ⟨q2, q3⟩, below_set2 hw (by omega), size_set2 (by omega)⟩
            case measure => simp [intOf]; omega
          · subst hab
            go_wp2_with fail
            refine wp_gen ?_
            intro W1 hW1
            have hw1 : Below w.heap.size w W1 := by rw [hW1]; go_grown
            have hz1 : wr.heap.size ≤ W1.heap.size := by rw [hW1]; go_size
            have c0 : W1.cell? ⟨w.heap.size, 0, none⟩ = some (.int .u32 p.toNat) := by rw [hW1]; first | go_cell | (go_simp; done) | exact cell_past (by first | assumption | omega) (by assumption)
            have c1 : W1.cell? ⟨w.heap.size, 1, none⟩ = some (.int .u32 m.toNat) := by rw [hW1]; first | go_cell | (go_simp; done) | exact cell_past (by first | assumption | omega) (by assumption)
            have c2 : W1.cell? ⟨w.heap.size + 1, 0, none⟩ = some (.int .u32 q.toNat) := by rw [hW1]; first | go_cell | (go_simp; done) | exact cell_past (by first | assumption | omega) (by assumption)
            have c3 : W1.cell? ⟨w.heap.size + 1, 1, none⟩ = some (.int .u32 n.toNat) := by rw [hW1]; first | go_cell | (go_simp; done) | exact cell_past (by first | assumption | omega) (by assumption)
            have c4 : W1.cell? ⟨bq, 0, none⟩ = some (.int .u32 F0.toNat) := by rw [hW1]; first | go_cell | (go_simp; done) | exact cell_past (by first | assumption | omega) (by assumption)
            have c5 : W1.cell? ⟨bq, 1, none⟩ = some (.int .u32 M0.toNat) := by rw [hW1]; first | go_cell | (go_simp; done) | exact cell_past (by first | assumption | omega) (by assumption)
            have c6 : W1.cell? ⟨w.heap.size + 1 + 1, 0, none⟩ = some (.int .u32 0) := by rw [hW1]; first | go_cell | (go_simp; done) | exact cell_past (by first | assumption | omega) (by assumption)
            have c7 : W1.cell? ⟨w.heap.size + 1 + 1, 1, none⟩ = some (.int .u32 0) := by rw [hW1]; first | go_cell | (go_simp; done) | exact cell_past (by first | assumption | omega) (by assumption)
            have y0 : W1.frozen? ⟨bq, 0, none⟩ = false := by rw [hW1]; first | assumption | (go_simp; done) | (simp [*]; done)
            have y1 : W1.frozen? ⟨bq, 1, none⟩ = false := by rw [hW1]; first | assumption | (go_simp; done) | (simp [*]; done)
            have y2 : W1.frozen? ⟨w.heap.size + 1 + 1, 0, none⟩ = false := by rw [hW1]; first | assumption | (go_simp; done) | (simp [*]; done)
            have y3 : W1.frozen? ⟨w.heap.size + 1 + 1, 1, none⟩ = false := by rw [hW1]; first | assumption | (go_simp; done) | (simp [*]; done)
            clear hW1
            have k0 := cell_regrown c0
            have k1 := cell_regrown c1
            have k2 := cell_regrown c2
            have k3 := cell_regrown c3
            have k4 := cell_regrown c4
            have k5 := cell_regrown c5
            have k6 := cell_regrown c6
            have k7 := cell_regrown c7
            refine wp_region_quiet_below (by kernel_rfl) (by kernel_rfl) ?_
            try simp only [List.append]
            repeat (go_big_quiet_step (first | (go_at_call 20; with_reducible exact Calls.regrown_of (hg1 _)) | (go_at_call 20; with_reducible exact Calls.regrown_of (hg2 _))))
            refine wpQuiet_nil ?_
            intro w2 hw2
            have hb : Below W1.heap.size W1 w2 := by obtain ⟨q, rfl⟩ := hw2; exact below_regrown _ _ _
            clear hw2
            clear k0 k1 k2 k3 k4 k5 k6 k7
            have hw := chain hw1 (by omega) hb
            obtain ⟨hc, hf, hz⟩ := bcell hb
            clear hb
            try have r0 : w2.cell? ⟨w.heap.size, 0, none⟩ = some (.int .u32 p.toNat) := (hc _ _ (by omega)).trans c0
            try have r1 : w2.cell? ⟨w.heap.size, 1, none⟩ = some (.int .u32 m.toNat) := (hc _ _ (by omega)).trans c1
            try have r2 : w2.cell? ⟨w.heap.size + 1, 0, none⟩ = some (.int .u32 q.toNat) := (hc _ _ (by omega)).trans c2
            try have r3 : w2.cell? ⟨w.heap.size + 1, 1, none⟩ = some (.int .u32 n.toNat) := (hc _ _ (by omega)).trans c3
            try have r4 : w2.cell? ⟨bq, 0, none⟩ = some (.int .u32 F0.toNat) := (hc _ _ (by omega)).trans c4
            try have r5 : w2.cell? ⟨bq, 1, none⟩ = some (.int .u32 M0.toNat) := (hc _ _ (by omega)).trans c5
            try have r6 : w2.cell? ⟨w.heap.size + 1 + 1, 0, none⟩ = some (.int .u32 0) := (hc _ _ (by omega)).trans c6
            try have r7 : w2.cell? ⟨w.heap.size + 1 + 1, 1, none⟩ = some (.int .u32 0) := (hc _ _ (by omega)).trans c7
            have q0 : w2.frozen? ⟨bq, 0, none⟩ = false := (hf _ _ (by omega)).trans y0
            have q1 : w2.frozen? ⟨bq, 1, none⟩ = false := (hf _ _ (by omega)).trans y1
            have q2 : w2.frozen? ⟨w.heap.size + 1 + 1, 0, none⟩ = false := (hf _ _ (by omega)).trans y2
            have q3 : w2.frozen? ⟨w.heap.size + 1 + 1, 1, none⟩ = false := (hf _ _ (by omega)).trans y3
            go_wp2_with fail
            (go_at_call 48; with_reducible refine Gives.then (hput _) ?_; intro w1 hb; have hw := chain (B := w.heap.size) (a := w) (by go_grown) (by go_size) hb; obtain ⟨hc, hf, hz⟩ := bcell hb; clear hb; (try simp only [World.size_alloc, World.size_setCell, World.size_drew] at hc hf hz); (first | (have hy := (hc _ _ (by omega)).trans r0; have r0 := hy; clear hy) | (have hy := (hc _ _ (by omega)).trans (cell_past (by omega) r0); have r0 := hy; clear hy) | skip); (first | (have hy := (hc _ _ (by omega)).trans r1; have r1 := hy; clear hy) | (have hy := (hc _ _ (by omega)).trans (cell_past (by omega) r1); have r1 := hy; clear hy) | skip); (first | (have hy := (hc _ _ (by omega)).trans r2; have r2 := hy; clear hy) | (have hy := (hc _ _ (by omega)).trans (cell_past (by omega) r2); have r2 := hy; clear hy) | skip); (first | (have hy := (hc _ _ (by omega)).trans r3; have r3 := hy; clear hy) | (have hy := (hc _ _ (by omega)).trans (cell_past (by omega) r3); have r3 := hy; clear hy) | skip); (first | (have hy := (hc _ _ (by omega)).trans r4; have r4 := hy; clear hy) | (have hy := (hc _ _ (by omega)).trans (cell_past (by omega) r4); have r4 := hy; clear hy) | skip); (first | (have hy := (hc _ _ (by omega)).trans r5; have r5 := hy; clear hy) | (have hy := (hc _ _ (by omega)).trans (cell_past (by omega) r5); have r5 := hy; clear hy) | skip); (first | (have hy := (hc _ _ (by omega)).trans r6; have r6 := hy; clear hy) | (have hy := (hc _ _ (by omega)).trans (cell_past (by omega) r6); have r6 := hy; clear hy) | skip); (first | (have hy := (hc _ _ (by omega)).trans r7; have r7 := hy; clear hy) | (have hy := (hc _ _ (by omega)).trans (cell_past (by omega) r7); have r7 := hy; clear hy) | skip); (try have s0 := fun X => cell_past (X := X) (by omega : w.heap.size < w1.heap.size) r0); (try have s1 := fun X => cell_past (X := X) (by omega : w.heap.size < w1.heap.size) r1); (try have s2 := fun X => cell_past (X := X) (by omega : w.heap.size + 1 < w1.heap.size) r2); (try have s3 := fun X => cell_past (X := X) (by omega : w.heap.size + 1 < w1.heap.size) r3); (try (have hy := (hf _ _ (by omega)).trans q0; have q0 := hy; clear hy)); (try (have hy := (hf _ _ (by omega)).trans q1; have q1 := hy; clear hy)); (try (have hy := (hf _ _ (by omega)).trans q2; have q2 := hy; clear hy)); (try (have hy := (hf _ _ (by omega)).trans q3; have q3 := hy; clear hy)))
            go_wp2_with fail
            go_roundw
            case rel => exact ⟨k + 1, by omega, by go_num, HM.out (by simp [noC]), Two.other ⟨r0, r1⟩ (by omega), Two.other ⟨r2, r3⟩ (by omega), by rw [HF1.out, HM1.out]; exact Two.same ⟨r4, r5⟩, Thaw.set ⟨q0, q1⟩, Two.other ⟨r6, r7⟩ (by omega), Thaw.set ⟨q2, q3⟩, below_set2 hw (by omega), size_set2 (by omega)⟩
            case measure => simp [intOf]; omega
        · have hV0 := HNN.out hcf
          subst hV0
          have hab : a ≠ b := fun h => hcf (.inr (.inr h))
          have ha0 : a ≠ 0 := fun h => hcf (.inl h)
          have f3 : (a == 0) = false := by simpa using ha0
          have f4 : (a != 0) = true := by simpa using ha0
          have f5 : (a == b) = false := by simpa using hab
          have f6 : (a != b) = true := by simpa using hab
          clear hcf hab ha0 hput a1 a2 b1 b2 ha3 hb3'
          generalize mix (p ||| q) p k = F0 at *
          generalize mix (m ||| n) m k = M0 at *
          go_wp2_with fail
          refine wp_gen ?_
          intro W1 hW1
          have hw1 : Below w.heap.size w W1 := by rw [hW1]; go_grown
          have hz1 : wr.heap.size ≤ W1.heap.size := by rw [hW1]; go_size
          have c0 : W1.cell? ⟨w.heap.size, 0, none⟩ = some (.int .u32 p.toNat) := by rw [hW1]; first | go_cell | (go_simp; done) | exact cell_past (by first | assumption | omega) (by assumption)
          have c1 : W1.cell? ⟨w.heap.size, 1, none⟩ = some (.int .u32 m.toNat) := by rw [hW1]; first | go_cell | (go_simp; done) | exact cell_past (by first | assumption | omega) (by assumption)
          have c2 : W1.cell? ⟨w.heap.size + 1, 0, none⟩ = some (.int .u32 q.toNat) := by rw [hW1]; first | go_cell | (go_simp; done) | exact cell_past (by first | assumption | omega) (by assumption)
          have c3 : W1.cell? ⟨w.heap.size + 1, 1, none⟩ = some (.int .u32 n.toNat) := by rw [hW1]; first | go_cell | (go_simp; done) | exact cell_past (by first | assumption | omega) (by assumption)
          have c4 : W1.cell? ⟨bq, 0, none⟩ = some (.int .u32 F0.toNat) := by rw [hW1]; first | go_cell | (go_simp; done) | exact cell_past (by first | assumption | omega) (by assumption)
          have c5 : W1.cell? ⟨bq, 1, none⟩ = some (.int .u32 M0.toNat) := by rw [hW1]; first | go_cell | (go_simp; done) | exact cell_past (by first | assumption | omega) (by assumption)
          have c6 : W1.cell? ⟨w.heap.size + 1 + 1, 0, none⟩ = some (.int .u32 0) := by rw [hW1]; first | go_cell | (go_simp; done) | exact cell_past (by first | assumption | omega) (by assumption)
          have c7 : W1.cell? ⟨w.heap.size + 1 + 1, 1, none⟩ = some (.int .u32 0) := by rw [hW1]; first | go_cell | (go_simp; done) | exact cell_past (by first | assumption | omega) (by assumption)
          have y0 : W1.frozen? ⟨bq, 0, none⟩ = false := by rw [hW1]; first | assumption | (go_simp; done) | (simp [*]; done)
          have y1 : W1.frozen? ⟨bq, 1, none⟩ = false := by rw [hW1]; first | assumption | (go_simp; done) | (simp [*]; done)
          have y2 : W1.frozen? ⟨w.heap.size + 1 + 1, 0, none⟩ = false := by rw [hW1]; first | assumption | (go_simp; done) | (simp [*]; done)
          have y3 : W1.frozen? ⟨w.heap.size + 1 + 1, 1, none⟩ = false := by rw [hW1]; first | assumption | (go_simp; done) | (simp [*]; done)
          clear hW1
          have k0 := cell_regrown c0
          have k1 := cell_regrown c1
          have k2 := cell_regrown c2
          have k3 := cell_regrown c3
          have k4 := cell_regrown c4
          have k5 := cell_regrown c5
          have k6 := cell_regrown c6
          have k7 := cell_regrown c7
          refine wp_region_quiet_below (by kernel_rfl) (by kernel_rfl) ?_
          try simp only [List.append]
          repeat (go_big_quiet_step (first | (go_at_call 20; with_reducible exact Calls.regrown_of (hg1 _)) | (go_at_call 20; with_reducible exact Calls.regrown_of (hg2 _))))
          refine wpQuiet_nil ?_
          intro w2 hw2
          have hb : Below W1.heap.size W1 w2 := by obtain ⟨q, rfl⟩ := hw2; exact below_regrown _ _ _
          clear hw2
          clear k0 k1 k2 k3 k4 k5 k6 k7
          have hw := chain hw1 (by omega) hb
          obtain ⟨hc, hf, hz⟩ := bcell hb
          clear hb
          try have r0 : w2.cell? ⟨w.heap.size, 0, none⟩ = some (.int .u32 p.toNat) := (hc _ _ (by omega)).trans c0
          try have r1 : w2.cell? ⟨w.heap.size, 1, none⟩ = some (.int .u32 m.toNat) := (hc _ _ (by omega)).trans c1
          try have r2 : w2.cell? ⟨w.heap.size + 1, 0, none⟩ = some (.int .u32 q.toNat) := (hc _ _ (by omega)).trans c2
          try have r3 : w2.cell? ⟨w.heap.size + 1, 1, none⟩ = some (.int .u32 n.toNat) := (hc _ _ (by omega)).trans c3
          try have r4 : w2.cell? ⟨bq, 0, none⟩ = some (.int .u32 F0.toNat) := (hc _ _ (by omega)).trans c4
          try have r5 : w2.cell? ⟨bq, 1, none⟩ = some (.int .u32 M0.toNat) := (hc _ _ (by omega)).trans c5
          try have r6 : w2.cell? ⟨w.heap.size + 1 + 1, 0, none⟩ = some (.int .u32 0) := (hc _ _ (by omega)).trans c6
          try have r7 : w2.cell? ⟨w.heap.size + 1 + 1, 1, none⟩ = some (.int .u32 0) := (hc _ _ (by omega)).trans c7
          have q0 : w2.frozen? ⟨bq, 0, none⟩ = false := (hf _ _ (by omega)).trans y0
          have q1 : w2.frozen? ⟨bq, 1, none⟩ = false := (hf _ _ (by omega)).trans y1
          have q2 : w2.frozen? ⟨w.heap.size + 1 + 1, 0, none⟩ = false := (hf _ _ (by omega)).trans y2
          have q3 : w2.frozen? ⟨w.heap.size + 1 + 1, 1, none⟩ = false := (hf _ _ (by omega)).trans y3
          go_wp2_with fail
          refine bodyPost_ret (v := .tuple #[sn 0 0, .bool false]) (by simp [results, Tryd.results23, go_sem, *]) rfl ⟨by first | rfl | simp, by first | exact below_set2 hw (by omega) | go_grown⟩
    · obtain rfl : k = 24 := by omega
      rw [HE.out.1] at r4
      rw [HE.out.2] at r5
      have hV1 := HY.out hall
      subst hV1
      clear hall
      go_wp2_with fail
      refine bodyPost_ret (v := .tuple #[sn (p ||| q).toNat (m ||| n).toNat, .bool true]) (by simp [results, Tryd.results23, go_sem, *]) rfl ⟨by first | rfl | simp, below_set2 hw (by omega)⟩
end Go.Proofs.YtacfopopaieliaaDoor
