/-
  The specification's Take: what it returns.
-/
import Derived.Test.YtacfopopaieliaaDoorPd
namespace Go.Proofs.YtacfopopaieliaaDoor
open Go.RowKit Go.Sort
attribute [local go_sem ↓] snd_eql snd_neq
theorem in_24 (c : BitVec 32) : (c &&& 4278190080#32 = 0#32) ↔ c.toNat ≤ 16777215 := by
  have hm : ∀ j, j < 32 → (4278190080#32).getLsbD j = decide (24 ≤ j) := fun j hj => (by decide : ∀ k : Fin 32, (4278190080#32).getLsbD k.val = decide (24 ≤ k.val)) ⟨j, hj⟩
  constructor
  · intro h
    have : c.toNat < 2 ^ 24 := Nat.lt_pow_two_of_testBit _ fun i hi => by
      rcases Nat.lt_or_ge i 32 with h32 | h32
      · have e := congrArg (fun z => z.getLsbD i) h
        simp only [BitVec.getLsbD_and, hm i h32, decide_eq_true hi, Bool.and_true, BitVec.getLsbD_zero] at e
        exact e
      · exact Nat.testBit_lt_two_pow (Nat.lt_of_lt_of_le c.isLt (Nat.pow_le_pow_right (by omega) h32))
    omega
  · intro h
    apply bv_ext
    intro j hj
    rw [BitVec.getLsbD_and, hm j hj, BitVec.getLsbD_zero]
    by_cases h24 : 24 ≤ j
    · have : c.getLsbD j = false := Nat.testBit_lt_two_pow (Nat.lt_of_lt_of_le (show c.toNat < 2 ^ 24 by omega) (Nat.pow_le_pow_right (by omega) h24))
      rw [this]; simp
    · simp [h24]
set_option maxHeartbeats 4000000 in
theorem rtake_badS (p m q n c : BitVec 32) (hv : (vld p m && vld q n) = false) (w : World) : Gives 39 #[sn p.toNat m.toNat, sn q.toNat n.toNat, .int .u32 c.toNat] w (.tuple #[sn 0 0, .int .i64 14]) := by
  unfold Gives
  rcases h1 : vld p m with _ | _
  · have H1 := Lib.hid h1; clear h1 hv
    go_enter Tryd.func39, Tryd.ntmps39
    go_wp2_with (go_at_call 18; with_reducible refine Gives.then (Gives.eq (rvalid_any p m _) rfl (by rw [H1.out])) ?_; intro w1 hb; have hw := chain (B := w.heap.size) (a := w) (by go_grown) (by go_size) hb; (first | have h0 := chain (h0.trans (by go_grown)) (by go_size) hb | have h0 := hb); obtain ⟨hc, hf, hz⟩ := bcell hb; obtain ⟨hc0, hf0, hz0⟩ := bcell h0; clear hb; (try simp only [World.size_alloc, World.size_setCell, World.size_drew] at hc hf hz hc0 hf0 hz0); (first | (have hy := (hc _ _ (by omega)).trans r0; have r0 := hy; clear hy) | (have hy := (hc _ _ (by omega)).trans (cell_past (by omega) r0); have r0 := hy; clear hy) | skip); (first | (have hy := (hc _ _ (by omega)).trans r1; have r1 := hy; clear hy) | (have hy := (hc _ _ (by omega)).trans (cell_past (by omega) r1); have r1 := hy; clear hy) | skip); (first | (have hy := (hc _ _ (by omega)).trans r2; have r2 := hy; clear hy) | (have hy := (hc _ _ (by omega)).trans (cell_past (by omega) r2); have r2 := hy; clear hy) | skip); (first | (have hy := (hc _ _ (by omega)).trans r3; have r3 := hy; clear hy) | (have hy := (hc _ _ (by omega)).trans (cell_past (by omega) r3); have r3 := hy; clear hy) | skip); (first | (have hy := (hc _ _ (by omega)).trans r4; have r4 := hy; clear hy) | (have hy := (hc _ _ (by omega)).trans (cell_past (by omega) r4); have r4 := hy; clear hy) | skip); (first | (have hy := (hc _ _ (by omega)).trans r5; have r5 := hy; clear hy) | (have hy := (hc _ _ (by omega)).trans (cell_past (by omega) r5); have r5 := hy; clear hy) | skip); (first | (have hy := (hc _ _ (by omega)).trans r6; have r6 := hy; clear hy) | (have hy := (hc _ _ (by omega)).trans (cell_past (by omega) r6); have r6 := hy; clear hy) | skip); (first | (have hy := (hc _ _ (by omega)).trans r7; have r7 := hy; clear hy) | (have hy := (hc _ _ (by omega)).trans (cell_past (by omega) r7); have r7 := hy; clear hy) | skip); (try have s0 := fun X => cell_past (X := X) (by omega : w.heap.size < w1.heap.size) r0); (try have s1 := fun X => cell_past (X := X) (by omega : w.heap.size < w1.heap.size) r1); (try have s2 := fun X => cell_past (X := X) (by omega : w.heap.size + 1 < w1.heap.size) r2); (try have s3 := fun X => cell_past (X := X) (by omega : w.heap.size + 1 < w1.heap.size) r3); (try (have hy := (hf _ _ (by omega)).trans q0; have q0 := hy; clear hy)); (try (have hy := (hf _ _ (by omega)).trans q1; have q1 := hy; clear hy)); (try (have hy := (hf _ _ (by omega)).trans q2; have q2 := hy; clear hy)); (try (have hy := (hf _ _ (by omega)).trans q3; have q3 := hy; clear hy)))
    refine bodyPost_ret (v := .tuple #[sn 0 0, .int .i64 14]) (by simp [results, Tryd.results39, go_sem, hc, hz, hc0, hz0]) rfl ⟨rfl, by go_grown⟩
  · rw [h1, Bool.true_and] at hv
    have H1 := Lib.hid h1; have H2 := Lib.hid hv; clear h1 hv
    go_enter Tryd.func39, Tryd.ntmps39
    go_wp2_with (first | (go_at_call 18; with_reducible refine Gives.then (Gives.eq (rvalid_any p m _) rfl (by rw [H1.out])) ?_; intro w1 hb; have hw := chain (B := w.heap.size) (a := w) (by go_grown) (by go_size) hb; (first | have h0 := chain (h0.trans (by go_grown)) (by go_size) hb | have h0 := hb); obtain ⟨hc, hf, hz⟩ := bcell hb; obtain ⟨hc0, hf0, hz0⟩ := bcell h0; clear hb; (try simp only [World.size_alloc, World.size_setCell, World.size_drew] at hc hf hz hc0 hf0 hz0); (first | (have hy := (hc _ _ (by omega)).trans r0; have r0 := hy; clear hy) | (have hy := (hc _ _ (by omega)).trans (cell_past (by omega) r0); have r0 := hy; clear hy) | skip); (first | (have hy := (hc _ _ (by omega)).trans r1; have r1 := hy; clear hy) | (have hy := (hc _ _ (by omega)).trans (cell_past (by omega) r1); have r1 := hy; clear hy) | skip); (first | (have hy := (hc _ _ (by omega)).trans r2; have r2 := hy; clear hy) | (have hy := (hc _ _ (by omega)).trans (cell_past (by omega) r2); have r2 := hy; clear hy) | skip); (first | (have hy := (hc _ _ (by omega)).trans r3; have r3 := hy; clear hy) | (have hy := (hc _ _ (by omega)).trans (cell_past (by omega) r3); have r3 := hy; clear hy) | skip); (first | (have hy := (hc _ _ (by omega)).trans r4; have r4 := hy; clear hy) | (have hy := (hc _ _ (by omega)).trans (cell_past (by omega) r4); have r4 := hy; clear hy) | skip); (first | (have hy := (hc _ _ (by omega)).trans r5; have r5 := hy; clear hy) | (have hy := (hc _ _ (by omega)).trans (cell_past (by omega) r5); have r5 := hy; clear hy) | skip); (first | (have hy := (hc _ _ (by omega)).trans r6; have r6 := hy; clear hy) | (have hy := (hc _ _ (by omega)).trans (cell_past (by omega) r6); have r6 := hy; clear hy) | skip); (first | (have hy := (hc _ _ (by omega)).trans r7; have r7 := hy; clear hy) | (have hy := (hc _ _ (by omega)).trans (cell_past (by omega) r7); have r7 := hy; clear hy) | skip); (try have s0 := fun X => cell_past (X := X) (by omega : w.heap.size < w1.heap.size) r0); (try have s1 := fun X => cell_past (X := X) (by omega : w.heap.size < w1.heap.size) r1); (try have s2 := fun X => cell_past (X := X) (by omega : w.heap.size + 1 < w1.heap.size) r2); (try have s3 := fun X => cell_past (X := X) (by omega : w.heap.size + 1 < w1.heap.size) r3); (try (have hy := (hf _ _ (by omega)).trans q0; have q0 := hy; clear hy)); (try (have hy := (hf _ _ (by omega)).trans q1; have q1 := hy; clear hy)); (try (have hy := (hf _ _ (by omega)).trans q2; have q2 := hy; clear hy)); (try (have hy := (hf _ _ (by omega)).trans q3; have q3 := hy; clear hy))) | (go_at_call 18; with_reducible refine Gives.then (Gives.eq (rvalid_any q n _) rfl (by rw [H2.out])) ?_; intro w1 hb; have hw := chain (B := w.heap.size) (a := w) (by go_grown) (by go_size) hb; (first | have h0 := chain (h0.trans (by go_grown)) (by go_size) hb | have h0 := hb); obtain ⟨hc, hf, hz⟩ := bcell hb; obtain ⟨hc0, hf0, hz0⟩ := bcell h0; clear hb; (try simp only [World.size_alloc, World.size_setCell, World.size_drew] at hc hf hz hc0 hf0 hz0); (first | (have hy := (hc _ _ (by omega)).trans r0; have r0 := hy; clear hy) | (have hy := (hc _ _ (by omega)).trans (cell_past (by omega) r0); have r0 := hy; clear hy) | skip); (first | (have hy := (hc _ _ (by omega)).trans r1; have r1 := hy; clear hy) | (have hy := (hc _ _ (by omega)).trans (cell_past (by omega) r1); have r1 := hy; clear hy) | skip); (first | (have hy := (hc _ _ (by omega)).trans r2; have r2 := hy; clear hy) | (have hy := (hc _ _ (by omega)).trans (cell_past (by omega) r2); have r2 := hy; clear hy) | skip); (first | (have hy := (hc _ _ (by omega)).trans r3; have r3 := hy; clear hy) | (have hy := (hc _ _ (by omega)).trans (cell_past (by omega) r3); have r3 := hy; clear hy) | skip); (first | (have hy := (hc _ _ (by omega)).trans r4; have r4 := hy; clear hy) | (have hy := (hc _ _ (by omega)).trans (cell_past (by omega) r4); have r4 := hy; clear hy) | skip); (first | (have hy := (hc _ _ (by omega)).trans r5; have r5 := hy; clear hy) | (have hy := (hc _ _ (by omega)).trans (cell_past (by omega) r5); have r5 := hy; clear hy) | skip); (first | (have hy := (hc _ _ (by omega)).trans r6; have r6 := hy; clear hy) | (have hy := (hc _ _ (by omega)).trans (cell_past (by omega) r6); have r6 := hy; clear hy) | skip); (first | (have hy := (hc _ _ (by omega)).trans r7; have r7 := hy; clear hy) | (have hy := (hc _ _ (by omega)).trans (cell_past (by omega) r7); have r7 := hy; clear hy) | skip); (try have s0 := fun X => cell_past (X := X) (by omega : w.heap.size < w1.heap.size) r0); (try have s1 := fun X => cell_past (X := X) (by omega : w.heap.size < w1.heap.size) r1); (try have s2 := fun X => cell_past (X := X) (by omega : w.heap.size + 1 < w1.heap.size) r2); (try have s3 := fun X => cell_past (X := X) (by omega : w.heap.size + 1 < w1.heap.size) r3); (try (have hy := (hf _ _ (by omega)).trans q0; have q0 := hy; clear hy)); (try (have hy := (hf _ _ (by omega)).trans q1; have q1 := hy; clear hy)); (try (have hy := (hf _ _ (by omega)).trans q2; have q2 := hy; clear hy)); (try (have hy := (hf _ _ (by omega)).trans q3; have q3 := hy; clear hy))))
    refine bodyPost_ret (v := .tuple #[sn 0 0, .int .i64 14]) (by simp [results, Tryd.results39, go_sem, hc, hz, hc0, hz0]) rfl ⟨rfl, by go_grown⟩
set_option maxHeartbeats 4000000 in
theorem rtake_badA (p m q n c : BitVec 32) (h1 : vld p m = true) (h2 : vld q n = true) (hc : ¬ c.toNat ≤ 16777215) (w : World) : Gives 39 #[sn p.toNat m.toNat, sn q.toNat n.toNat, .int .u32 c.toNat] w (.tuple #[sn 0 0, .int .i64 2]) := by
  unfold Gives
  have hcc : 16777215 < c.toNat := by omega
  have H1 := Lib.hid h1; have H2 := Lib.hid h2; clear h1 h2 hc
  go_enter Tryd.func39, Tryd.ntmps39
  go_wp2_with (first | (go_at_call 18; with_reducible refine Gives.then (Gives.eq (rvalid_any p m _) rfl (by rw [H1.out])) ?_; intro w1 hb; have hw := chain (B := w.heap.size) (a := w) (by go_grown) (by go_size) hb; (first | have h0 := chain (h0.trans (by go_grown)) (by go_size) hb | have h0 := hb); obtain ⟨hc, hf, hz⟩ := bcell hb; obtain ⟨hc0, hf0, hz0⟩ := bcell h0; clear hb; (try simp only [World.size_alloc, World.size_setCell, World.size_drew] at hc hf hz hc0 hf0 hz0); (first | (have hy := (hc _ _ (by omega)).trans r0; have r0 := hy; clear hy) | (have hy := (hc _ _ (by omega)).trans (cell_past (by omega) r0); have r0 := hy; clear hy) | skip); (first | (have hy := (hc _ _ (by omega)).trans r1; have r1 := hy; clear hy) | (have hy := (hc _ _ (by omega)).trans (cell_past (by omega) r1); have r1 := hy; clear hy) | skip); (first | (have hy := (hc _ _ (by omega)).trans r2; have r2 := hy; clear hy) | (have hy := (hc _ _ (by omega)).trans (cell_past (by omega) r2); have r2 := hy; clear hy) | skip); (first | (have hy := (hc _ _ (by omega)).trans r3; have r3 := hy; clear hy) | (have hy := (hc _ _ (by omega)).trans (cell_past (by omega) r3); have r3 := hy; clear hy) | skip); (first | (have hy := (hc _ _ (by omega)).trans r4; have r4 := hy; clear hy) | (have hy := (hc _ _ (by omega)).trans (cell_past (by omega) r4); have r4 := hy; clear hy) | skip); (first | (have hy := (hc _ _ (by omega)).trans r5; have r5 := hy; clear hy) | (have hy := (hc _ _ (by omega)).trans (cell_past (by omega) r5); have r5 := hy; clear hy) | skip); (first | (have hy := (hc _ _ (by omega)).trans r6; have r6 := hy; clear hy) | (have hy := (hc _ _ (by omega)).trans (cell_past (by omega) r6); have r6 := hy; clear hy) | skip); (first | (have hy := (hc _ _ (by omega)).trans r7; have r7 := hy; clear hy) | (have hy := (hc _ _ (by omega)).trans (cell_past (by omega) r7); have r7 := hy; clear hy) | skip); (try have s0 := fun X => cell_past (X := X) (by omega : w.heap.size < w1.heap.size) r0); (try have s1 := fun X => cell_past (X := X) (by omega : w.heap.size < w1.heap.size) r1); (try have s2 := fun X => cell_past (X := X) (by omega : w.heap.size + 1 < w1.heap.size) r2); (try have s3 := fun X => cell_past (X := X) (by omega : w.heap.size + 1 < w1.heap.size) r3); (try (have hy := (hf _ _ (by omega)).trans q0; have q0 := hy; clear hy)); (try (have hy := (hf _ _ (by omega)).trans q1; have q1 := hy; clear hy)); (try (have hy := (hf _ _ (by omega)).trans q2; have q2 := hy; clear hy)); (try (have hy := (hf _ _ (by omega)).trans q3; have q3 := hy; clear hy))) | (go_at_call 18; with_reducible refine Gives.then (Gives.eq (rvalid_any q n _) rfl (by rw [H2.out])) ?_; intro w1 hb; have hw := chain (B := w.heap.size) (a := w) (by go_grown) (by go_size) hb; (first | have h0 := chain (h0.trans (by go_grown)) (by go_size) hb | have h0 := hb); obtain ⟨hc, hf, hz⟩ := bcell hb; obtain ⟨hc0, hf0, hz0⟩ := bcell h0; clear hb; (try simp only [World.size_alloc, World.size_setCell, World.size_drew] at hc hf hz hc0 hf0 hz0); (first | (have hy := (hc _ _ (by omega)).trans r0; have r0 := hy; clear hy) | (have hy := (hc _ _ (by omega)).trans (cell_past (by omega) r0); have r0 := hy; clear hy) | skip); (first | (have hy := (hc _ _ (by omega)).trans r1; have r1 := hy; clear hy) | (have hy := (hc _ _ (by omega)).trans (cell_past (by omega) r1); have r1 := hy; clear hy) | skip); (first | (have hy := (hc _ _ (by omega)).trans r2; have r2 := hy; clear hy) | (have hy := (hc _ _ (by omega)).trans (cell_past (by omega) r2); have r2 := hy; clear hy) | skip); (first | (have hy := (hc _ _ (by omega)).trans r3; have r3 := hy; clear hy) | (have hy := (hc _ _ (by omega)).trans (cell_past (by omega) r3); have r3 := hy; clear hy) | skip); (first | (have hy := (hc _ _ (by omega)).trans r4; have r4 := hy; clear hy) | (have hy := (hc _ _ (by omega)).trans (cell_past (by omega) r4); have r4 := hy; clear hy) | skip); (first | (have hy := (hc _ _ (by omega)).trans r5; have r5 := hy; clear hy) | (have hy := (hc _ _ (by omega)).trans (cell_past (by omega) r5); have r5 := hy; clear hy) | skip); (first | (have hy := (hc _ _ (by omega)).trans r6; have r6 := hy; clear hy) | (have hy := (hc _ _ (by omega)).trans (cell_past (by omega) r6); have r6 := hy; clear hy) | skip); (first | (have hy := (hc _ _ (by omega)).trans r7; have r7 := hy; clear hy) | (have hy := (hc _ _ (by omega)).trans (cell_past (by omega) r7); have r7 := hy; clear hy) | skip); (try have s0 := fun X => cell_past (X := X) (by omega : w.heap.size < w1.heap.size) r0); (try have s1 := fun X => cell_past (X := X) (by omega : w.heap.size < w1.heap.size) r1); (try have s2 := fun X => cell_past (X := X) (by omega : w.heap.size + 1 < w1.heap.size) r2); (try have s3 := fun X => cell_past (X := X) (by omega : w.heap.size + 1 < w1.heap.size) r3); (try (have hy := (hf _ _ (by omega)).trans q0; have q0 := hy; clear hy)); (try (have hy := (hf _ _ (by omega)).trans q1; have q1 := hy; clear hy)); (try (have hy := (hf _ _ (by omega)).trans q2; have q2 := hy; clear hy)); (try (have hy := (hf _ _ (by omega)).trans q3; have q3 := hy; clear hy))))
  refine bodyPost_ret (v := .tuple #[sn 0 0, .int .i64 2]) (by simp [results, Tryd.results39, go_sem, hc, hz, hc0, hz0]) rfl ⟨rfl, by go_grown⟩
set_option maxHeartbeats 4000000 in
theorem rtake_ok (p m q n c : BitVec 32) (h1 : vld p m = true) (h2 : vld q n = true) (hc : c.toNat ≤ 16777215) (w : World) : Gives 39 #[sn p.toNat m.toNat, sn q.toNat n.toNat, .int .u32 c.toNat] w (.tuple #[sn ((p &&& ~~~c) ||| (q &&& c)).toNat ((m &&& ~~~c) ||| (n &&& c)).toNat, .int .i64 0]) := by
  unfold Gives
  have hend : mix ((p &&& ~~~c) ||| (q &&& c)) p 24 = ((p &&& ~~~c) ||| (q &&& c)) ∧ mix ((m &&& ~~~c) ||| (n &&& c)) m 24 = ((m &&& ~~~c) ||| (n &&& c)) := ⟨mix_all fun j hj h24 => by simp only [BitVec.getLsbD_or, BitVec.getLsbD_and, (vld_high h2 j hj h24).1, (vld_high h1 j hj h24).1]; simp, mix_all fun j hj h24 => by simp only [BitVec.getLsbD_or, BitVec.getLsbD_and, (vld_high h2 j hj h24).2, (vld_high h1 j hj h24).2]; simp⟩
  have hbits := fun k (hk : k < 24) => getV_bits h2 k (by omega)
  have hget : ∀ k, k < 24 → (((p &&& ~~~c) ||| (q &&& c))).getLsbD k = (if c.getLsbD k then q.getLsbD k else p.getLsbD k) ∧ (((m &&& ~~~c) ||| (n &&& c))).getLsbD k = (if c.getLsbD k then n.getLsbD k else m.getLsbD k) := fun k hk => by
    have hd : decide (k < 32) = true := by simp; omega
    simp only [BitVec.getLsbD_or, BitVec.getLsbD_and, BitVec.getLsbD_not, hd]
    cases c.getLsbD k <;> simp
  have HE := Lib.hid hend; have HB := Lib.hid hbits; have HG := Lib.hid hget; clear hend hbits hget
  have H1 := Lib.hid h1; have H2 := Lib.hid h2; clear h1 h2
  generalize ((p &&& ~~~c) ||| (q &&& c)) = F at *
  generalize ((m &&& ~~~c) ||| (n &&& c)) = M at *
  go_enter Tryd.func39, Tryd.ntmps39
  go_wp2_with (first | (go_at_call 18; with_reducible refine Gives.then (Gives.eq (rvalid_any p m _) rfl (by rw [H1.out])) ?_; intro w1 hb; have hw := chain (B := w.heap.size) (a := w) (by go_grown) (by go_size) hb; (first | have h0 := chain (h0.trans (by go_grown)) (by go_size) hb | have h0 := hb); obtain ⟨hc, hf, hz⟩ := bcell hb; obtain ⟨hc0, hf0, hz0⟩ := bcell h0; clear hb; (try simp only [World.size_alloc, World.size_setCell, World.size_drew] at hc hf hz hc0 hf0 hz0); (first | (have hy := (hc _ _ (by omega)).trans r0; have r0 := hy; clear hy) | (have hy := (hc _ _ (by omega)).trans (cell_past (by omega) r0); have r0 := hy; clear hy) | skip); (first | (have hy := (hc _ _ (by omega)).trans r1; have r1 := hy; clear hy) | (have hy := (hc _ _ (by omega)).trans (cell_past (by omega) r1); have r1 := hy; clear hy) | skip); (first | (have hy := (hc _ _ (by omega)).trans r2; have r2 := hy; clear hy) | (have hy := (hc _ _ (by omega)).trans (cell_past (by omega) r2); have r2 := hy; clear hy) | skip); (first | (have hy := (hc _ _ (by omega)).trans r3; have r3 := hy; clear hy) | (have hy := (hc _ _ (by omega)).trans (cell_past (by omega) r3); have r3 := hy; clear hy) | skip); (first | (have hy := (hc _ _ (by omega)).trans r4; have r4 := hy; clear hy) | (have hy := (hc _ _ (by omega)).trans (cell_past (by omega) r4); have r4 := hy; clear hy) | skip); (first | (have hy := (hc _ _ (by omega)).trans r5; have r5 := hy; clear hy) | (have hy := (hc _ _ (by omega)).trans (cell_past (by omega) r5); have r5 := hy; clear hy) | skip); (first | (have hy := (hc _ _ (by omega)).trans r6; have r6 := hy; clear hy) | (have hy := (hc _ _ (by omega)).trans (cell_past (by omega) r6); have r6 := hy; clear hy) | skip); (first | (have hy := (hc _ _ (by omega)).trans r7; have r7 := hy; clear hy) | (have hy := (hc _ _ (by omega)).trans (cell_past (by omega) r7); have r7 := hy; clear hy) | skip); (try have s0 := fun X => cell_past (X := X) (by omega : w.heap.size < w1.heap.size) r0); (try have s1 := fun X => cell_past (X := X) (by omega : w.heap.size < w1.heap.size) r1); (try have s2 := fun X => cell_past (X := X) (by omega : w.heap.size + 1 < w1.heap.size) r2); (try have s3 := fun X => cell_past (X := X) (by omega : w.heap.size + 1 < w1.heap.size) r3); (try (have hy := (hf _ _ (by omega)).trans q0; have q0 := hy; clear hy)); (try (have hy := (hf _ _ (by omega)).trans q1; have q1 := hy; clear hy)); (try (have hy := (hf _ _ (by omega)).trans q2; have q2 := hy; clear hy)); (try (have hy := (hf _ _ (by omega)).trans q3; have q3 := hy; clear hy))) | (go_at_call 18; with_reducible refine Gives.then (Gives.eq (rvalid_any q n _) rfl (by rw [H2.out])) ?_; intro w1 hb; have hw := chain (B := w.heap.size) (a := w) (by go_grown) (by go_size) hb; (first | have h0 := chain (h0.trans (by go_grown)) (by go_size) hb | have h0 := hb); obtain ⟨hc, hf, hz⟩ := bcell hb; obtain ⟨hc0, hf0, hz0⟩ := bcell h0; clear hb; (try simp only [World.size_alloc, World.size_setCell, World.size_drew] at hc hf hz hc0 hf0 hz0); (first | (have hy := (hc _ _ (by omega)).trans r0; have r0 := hy; clear hy) | (have hy := (hc _ _ (by omega)).trans (cell_past (by omega) r0); have r0 := hy; clear hy) | skip); (first | (have hy := (hc _ _ (by omega)).trans r1; have r1 := hy; clear hy) | (have hy := (hc _ _ (by omega)).trans (cell_past (by omega) r1); have r1 := hy; clear hy) | skip); (first | (have hy := (hc _ _ (by omega)).trans r2; have r2 := hy; clear hy) | (have hy := (hc _ _ (by omega)).trans (cell_past (by omega) r2); have r2 := hy; clear hy) | skip); (first | (have hy := (hc _ _ (by omega)).trans r3; have r3 := hy; clear hy) | (have hy := (hc _ _ (by omega)).trans (cell_past (by omega) r3); have r3 := hy; clear hy) | skip); (first | (have hy := (hc _ _ (by omega)).trans r4; have r4 := hy; clear hy) | (have hy := (hc _ _ (by omega)).trans (cell_past (by omega) r4); have r4 := hy; clear hy) | skip); (first | (have hy := (hc _ _ (by omega)).trans r5; have r5 := hy; clear hy) | (have hy := (hc _ _ (by omega)).trans (cell_past (by omega) r5); have r5 := hy; clear hy) | skip); (first | (have hy := (hc _ _ (by omega)).trans r6; have r6 := hy; clear hy) | (have hy := (hc _ _ (by omega)).trans (cell_past (by omega) r6); have r6 := hy; clear hy) | skip); (first | (have hy := (hc _ _ (by omega)).trans r7; have r7 := hy; clear hy) | (have hy := (hc _ _ (by omega)).trans (cell_past (by omega) r7); have r7 := hy; clear hy) | skip); (try have s0 := fun X => cell_past (X := X) (by omega : w.heap.size < w1.heap.size) r0); (try have s1 := fun X => cell_past (X := X) (by omega : w.heap.size < w1.heap.size) r1); (try have s2 := fun X => cell_past (X := X) (by omega : w.heap.size + 1 < w1.heap.size) r2); (try have s3 := fun X => cell_past (X := X) (by omega : w.heap.size + 1 < w1.heap.size) r3); (try (have hy := (hf _ _ (by omega)).trans q0; have q0 := hy; clear hy)); (try (have hy := (hf _ _ (by omega)).trans q1; have q1 := hy; clear hy)); (try (have hy := (hf _ _ (by omega)).trans q2; have q2 := hy; clear hy)); (try (have hy := (hf _ _ (by omega)).trans q3; have q3 := hy; clear hy))))
  first | refine wp_gen ?_ | refine calls_gen ?_
  intro W1 hW1
  have hw1 : Below w.heap.size w W1 := by rw [hW1]; go_grown
  have hz1 : w1.heap.size + 1 ≤ W1.heap.size := by rw [hW1]; go_size
  have g0 : W1.cell? ⟨w.heap.size, 0, none⟩ = some (.int .u32 p.toNat) := by rw [hW1]; first | go_cell | (go_simp; done) | (simp [hc, hf, hc0, hf0]; done) | (refine cell_past (by omega) ?_; rw [hc0 _ _ (by omega)]; first | go_cell | (go_simp; done)) | (refine frozen_past (by omega) ?_; rw [hf0 _ _ (by omega)]; first | (go_simp; done) | (simp; done)) | (refine keep_set ?_ (by (try simp only []); omega); first | assumption | (refine keep_set ?_ (by (try simp only []); omega); assumption))
  have g1 : W1.cell? ⟨w.heap.size, 1, none⟩ = some (.int .u32 m.toNat) := by rw [hW1]; first | go_cell | (go_simp; done) | (simp [hc, hf, hc0, hf0]; done) | (refine cell_past (by omega) ?_; rw [hc0 _ _ (by omega)]; first | go_cell | (go_simp; done)) | (refine frozen_past (by omega) ?_; rw [hf0 _ _ (by omega)]; first | (go_simp; done) | (simp; done)) | (refine keep_set ?_ (by (try simp only []); omega); first | assumption | (refine keep_set ?_ (by (try simp only []); omega); assumption))
  have g2 : W1.cell? ⟨w.heap.size + 1, 0, none⟩ = some (.int .u32 q.toNat) := by rw [hW1]; first | go_cell | (go_simp; done) | (simp [hc, hf, hc0, hf0]; done) | (refine cell_past (by omega) ?_; rw [hc0 _ _ (by omega)]; first | go_cell | (go_simp; done)) | (refine frozen_past (by omega) ?_; rw [hf0 _ _ (by omega)]; first | (go_simp; done) | (simp; done)) | (refine keep_set ?_ (by (try simp only []); omega); first | assumption | (refine keep_set ?_ (by (try simp only []); omega); assumption))
  have g3 : W1.cell? ⟨w.heap.size + 1, 1, none⟩ = some (.int .u32 n.toNat) := by rw [hW1]; first | go_cell | (go_simp; done) | (simp [hc, hf, hc0, hf0]; done) | (refine cell_past (by omega) ?_; rw [hc0 _ _ (by omega)]; first | go_cell | (go_simp; done)) | (refine frozen_past (by omega) ?_; rw [hf0 _ _ (by omega)]; first | (go_simp; done) | (simp; done)) | (refine keep_set ?_ (by (try simp only []); omega); first | assumption | (refine keep_set ?_ (by (try simp only []); omega); assumption))
  have g4 : W1.cell? ⟨w1.heap.size, 0, none⟩ = some (.int .u32 p.toNat) := by rw [hW1]; first | go_cell | (go_simp; done) | (simp [hc, hf, hc0, hf0]; done) | (refine cell_past (by omega) ?_; rw [hc0 _ _ (by omega)]; first | go_cell | (go_simp; done)) | (refine frozen_past (by omega) ?_; rw [hf0 _ _ (by omega)]; first | (go_simp; done) | (simp; done)) | (refine keep_set ?_ (by (try simp only []); omega); first | assumption | (refine keep_set ?_ (by (try simp only []); omega); assumption))
  have g5 : W1.cell? ⟨w1.heap.size, 1, none⟩ = some (.int .u32 m.toNat) := by rw [hW1]; first | go_cell | (go_simp; done) | (simp [hc, hf, hc0, hf0]; done) | (refine cell_past (by omega) ?_; rw [hc0 _ _ (by omega)]; first | go_cell | (go_simp; done)) | (refine frozen_past (by omega) ?_; rw [hf0 _ _ (by omega)]; first | (go_simp; done) | (simp; done)) | (refine keep_set ?_ (by (try simp only []); omega); first | assumption | (refine keep_set ?_ (by (try simp only []); omega); assumption))
  have g6 : W1.cell? ⟨w.heap.size + 1 + 1, 0, none⟩ = some (.int .u32 0) := by rw [hW1]; first | go_cell | (go_simp; done) | (simp [hc, hf, hc0, hf0]; done) | (refine cell_past (by omega) ?_; rw [hc0 _ _ (by omega)]; first | go_cell | (go_simp; done)) | (refine frozen_past (by omega) ?_; rw [hf0 _ _ (by omega)]; first | (go_simp; done) | (simp; done)) | (refine keep_set ?_ (by (try simp only []); omega); first | assumption | (refine keep_set ?_ (by (try simp only []); omega); assumption))
  have g7 : W1.cell? ⟨w.heap.size + 1 + 1, 1, none⟩ = some (.int .u32 0) := by rw [hW1]; first | go_cell | (go_simp; done) | (simp [hc, hf, hc0, hf0]; done) | (refine cell_past (by omega) ?_; rw [hc0 _ _ (by omega)]; first | go_cell | (go_simp; done)) | (refine frozen_past (by omega) ?_; rw [hf0 _ _ (by omega)]; first | (go_simp; done) | (simp; done)) | (refine keep_set ?_ (by (try simp only []); omega); first | assumption | (refine keep_set ?_ (by (try simp only []); omega); assumption))
  have z0 : W1.frozen? ⟨w1.heap.size, 0, none⟩ = false := by rw [hW1]; first | go_cell | (go_simp; done) | (simp [hc, hf, hc0, hf0]; done) | (refine cell_past (by omega) ?_; rw [hc0 _ _ (by omega)]; first | go_cell | (go_simp; done)) | (refine frozen_past (by omega) ?_; rw [hf0 _ _ (by omega)]; first | (go_simp; done) | (simp; done)) | (refine keep_set ?_ (by (try simp only []); omega); first | assumption | (refine keep_set ?_ (by (try simp only []); omega); assumption))
  have z1 : W1.frozen? ⟨w1.heap.size, 1, none⟩ = false := by rw [hW1]; first | go_cell | (go_simp; done) | (simp [hc, hf, hc0, hf0]; done) | (refine cell_past (by omega) ?_; rw [hc0 _ _ (by omega)]; first | go_cell | (go_simp; done)) | (refine frozen_past (by omega) ?_; rw [hf0 _ _ (by omega)]; first | (go_simp; done) | (simp; done)) | (refine keep_set ?_ (by (try simp only []); omega); first | assumption | (refine keep_set ?_ (by (try simp only []); omega); assumption))
  have z2 : W1.frozen? ⟨w.heap.size + 1 + 1, 0, none⟩ = false := by rw [hW1]; first | go_cell | (go_simp; done) | (simp [hc, hf, hc0, hf0]; done) | (refine cell_past (by omega) ?_; rw [hc0 _ _ (by omega)]; first | go_cell | (go_simp; done)) | (refine frozen_past (by omega) ?_; rw [hf0 _ _ (by omega)]; first | (go_simp; done) | (simp; done)) | (refine keep_set ?_ (by (try simp only []); omega); first | assumption | (refine keep_set ?_ (by (try simp only []); omega); assumption))
  have z3 : W1.frozen? ⟨w.heap.size + 1 + 1, 1, none⟩ = false := by rw [hW1]; first | go_cell | (go_simp; done) | (simp [hc, hf, hc0, hf0]; done) | (refine cell_past (by omega) ?_; rw [hc0 _ _ (by omega)]; first | go_cell | (go_simp; done)) | (refine frozen_past (by omega) ?_; rw [hf0 _ _ (by omega)]; first | (go_simp; done) | (simp; done)) | (refine keep_set ?_ (by (try simp only []); omega); first | assumption | (refine keep_set ?_ (by (try simp only []); omega); assumption))
  clear hW1
  have hb3 : w.heap.size + 1 + 1 + 1 ≤ w1.heap.size := by omega
  clear hc hf hz hw hc0 hf0 hz0 h0
  generalize w1.heap.size = bq at *
  go_loopw [9] (fun i wr => ∃ k : Nat, k ≤ 24 ∧ i = .int .i64 (k : Int) ∧ Two wr w.heap.size p.toNat m.toNat ∧ Two wr (w.heap.size + 1) q.toNat n.toNat ∧ Two wr bq (mix F p k).toNat (mix M m k).toNat ∧ Thaw wr bq ∧ Two wr (w.heap.size + 1 + 1) 0 0 ∧ Thaw wr (w.heap.size + 1 + 1) ∧ Below w.heap.size w wr ∧ bq + 1 ≤ wr.heap.size) (fun i _ => 24 - (intOf i).toNat)
  case atStart => exact ⟨0, by omega, rfl, ⟨g0, g1⟩, ⟨g2, g3⟩, by rw [mix_zero, mix_zero]; exact ⟨g4, g5⟩, ⟨z0, z1⟩, ⟨g6, g7⟩, ⟨z2, z3⟩, hw1, by omega⟩
  case round =>
    clear g0 g1 g2 g3 g4 g5 g6 g7 z0 z1 z2 z3 hw1 hz1
    obtain ⟨k, hk, rfl, ⟨r0, r1⟩, ⟨r2, r3⟩, ⟨r4, r5⟩, ⟨q0, q1⟩, ⟨r6, r7⟩, ⟨q2, q3⟩, hw, hsz⟩ := hrel
    by_cases hlt : k < 24
    · have hg2 := rgv q n k hlt
      rw [gV_of H2.out] at hg2
      obtain ⟨b1, b2⟩ := HB.out k hlt
      obtain ⟨f1, f2⟩ := HG.out k hlt
      have hput := rput_any (mix F p k) (mix M m k) k (getV q n k) hlt
      have hs := shr_bit c k
      generalize getV q n k = b at *
      rcases hcb : c.getLsbD k with _ | _
      · rw [hcb] at f1 f2 hs
        simp only [Bool.false_eq_true, if_false] at f1 f2 hs
        have e1 : mix F p (k + 1) = mix F p k := mix_keep _ _ k f1
        have e2 : mix M m (k + 1) = mix M m k := mix_keep _ _ k f2
        have E1 := Lib.hid e1; have E2 := Lib.hid e2
        clear e1 e2
        obtain ⟨F0, hF0⟩ : ∃ F0, mix F p k = F0 := ⟨_, rfl⟩
        obtain ⟨M0, hM0⟩ : ∃ M0, mix M m k = M0 := ⟨_, rfl⟩
        rw [hF0] at r4
        rw [hM0] at r5
        have HF0 := Lib.hid hF0; have HM0 := Lib.hid hM0; clear hF0 hM0
        clear f1 f2 b1 b2 hput hcb
        go_wp2_with fail
        go_roundw
        case rel => exact ⟨k + 1, by omega, by go_num, ⟨r0, r1⟩, ⟨r2, r3⟩, by rw [E1.out, E2.out, HF0.out, HM0.out]; exact ⟨r4, r5⟩, ⟨q0, q1⟩, ⟨r6, r7⟩, ⟨q2, q3⟩, hw, by omega⟩
        case measure => simp [intOf]; omega
      · rw [hcb] at f1 f2 hs
        simp only [if_true] at f1 f2 hs
        have e1 : withP (mix F p k) k b = mix F p (k + 1) := mix_putP _ _ k _ (by omega) (f1.trans b1)
        have e2 : withM (mix M m k) k b = mix M m (k + 1) := mix_putM _ _ k _ (by omega) (f2.trans b2)
        rw [e1, e2] at hput
        clear e1 e2
        obtain ⟨F1, hF1⟩ : ∃ F1, mix F p (k + 1) = F1 := ⟨_, rfl⟩
        obtain ⟨M1, hM1⟩ : ∃ M1, mix M m (k + 1) = M1 := ⟨_, rfl⟩
        rw [hF1, hM1] at hput
        have HF1 := Lib.hid hF1; have HM1 := Lib.hid hM1; clear hF1 hM1
        generalize mix F p k = F0 at *
        generalize mix M m k = M0 at *
        clear f1 f2 b1 b2 hcb
        go_wp2_with fail
        refine wp_gen ?_
        intro W1 hW1
        have hw1 : Below w.heap.size w W1 := by rw [hW1]; go_grown
        have hz1 : wr.heap.size ≤ W1.heap.size := by rw [hW1]; go_size
        have g0 : W1.cell? ⟨w.heap.size, 0, none⟩ = some (.int .u32 p.toNat) := by rw [hW1]; first | assumption | go_cell | (go_simp; done) | (simp [hc, hf, hc0, hf0]; done) | (refine keep_set ?_ (by (try simp only []); omega); first | assumption | (refine keep_set ?_ (by (try simp only []); omega); assumption)) | (simp [*]; done)
        have g1 : W1.cell? ⟨w.heap.size, 1, none⟩ = some (.int .u32 m.toNat) := by rw [hW1]; first | assumption | go_cell | (go_simp; done) | (simp [hc, hf, hc0, hf0]; done) | (refine keep_set ?_ (by (try simp only []); omega); first | assumption | (refine keep_set ?_ (by (try simp only []); omega); assumption)) | (simp [*]; done)
        have g2 : W1.cell? ⟨w.heap.size + 1, 0, none⟩ = some (.int .u32 q.toNat) := by rw [hW1]; first | assumption | go_cell | (go_simp; done) | (simp [hc, hf, hc0, hf0]; done) | (refine keep_set ?_ (by (try simp only []); omega); first | assumption | (refine keep_set ?_ (by (try simp only []); omega); assumption)) | (simp [*]; done)
        have g3 : W1.cell? ⟨w.heap.size + 1, 1, none⟩ = some (.int .u32 n.toNat) := by rw [hW1]; first | assumption | go_cell | (go_simp; done) | (simp [hc, hf, hc0, hf0]; done) | (refine keep_set ?_ (by (try simp only []); omega); first | assumption | (refine keep_set ?_ (by (try simp only []); omega); assumption)) | (simp [*]; done)
        have g4 : W1.cell? ⟨bq, 0, none⟩ = some (.int .u32 F0.toNat) := by rw [hW1]; first | assumption | go_cell | (go_simp; done) | (simp [hc, hf, hc0, hf0]; done) | (refine keep_set ?_ (by (try simp only []); omega); first | assumption | (refine keep_set ?_ (by (try simp only []); omega); assumption)) | (simp [*]; done)
        have g5 : W1.cell? ⟨bq, 1, none⟩ = some (.int .u32 M0.toNat) := by rw [hW1]; first | assumption | go_cell | (go_simp; done) | (simp [hc, hf, hc0, hf0]; done) | (refine keep_set ?_ (by (try simp only []); omega); first | assumption | (refine keep_set ?_ (by (try simp only []); omega); assumption)) | (simp [*]; done)
        have g6 : W1.cell? ⟨w.heap.size + 1 + 1, 0, none⟩ = some (.int .u32 0) := by rw [hW1]; first | assumption | go_cell | (go_simp; done) | (simp [hc, hf, hc0, hf0]; done) | (refine keep_set ?_ (by (try simp only []); omega); first | assumption | (refine keep_set ?_ (by (try simp only []); omega); assumption)) | (simp [*]; done)
        have g7 : W1.cell? ⟨w.heap.size + 1 + 1, 1, none⟩ = some (.int .u32 0) := by rw [hW1]; first | assumption | go_cell | (go_simp; done) | (simp [hc, hf, hc0, hf0]; done) | (refine keep_set ?_ (by (try simp only []); omega); first | assumption | (refine keep_set ?_ (by (try simp only []); omega); assumption)) | (simp [*]; done)
        have z0 : W1.frozen? ⟨bq, 0, none⟩ = false := by rw [hW1]; first | assumption | go_cell | (go_simp; done) | (simp [hc, hf, hc0, hf0]; done) | (refine keep_set ?_ (by (try simp only []); omega); first | assumption | (refine keep_set ?_ (by (try simp only []); omega); assumption)) | (simp [*]; done)
        have z1 : W1.frozen? ⟨bq, 1, none⟩ = false := by rw [hW1]; first | assumption | go_cell | (go_simp; done) | (simp [hc, hf, hc0, hf0]; done) | (refine keep_set ?_ (by (try simp only []); omega); first | assumption | (refine keep_set ?_ (by (try simp only []); omega); assumption)) | (simp [*]; done)
        have z2 : W1.frozen? ⟨w.heap.size + 1 + 1, 0, none⟩ = false := by rw [hW1]; first | assumption | go_cell | (go_simp; done) | (simp [hc, hf, hc0, hf0]; done) | (refine keep_set ?_ (by (try simp only []); omega); first | assumption | (refine keep_set ?_ (by (try simp only []); omega); assumption)) | (simp [*]; done)
        have z3 : W1.frozen? ⟨w.heap.size + 1 + 1, 1, none⟩ = false := by rw [hW1]; first | assumption | go_cell | (go_simp; done) | (simp [hc, hf, hc0, hf0]; done) | (refine keep_set ?_ (by (try simp only []); omega); first | assumption | (refine keep_set ?_ (by (try simp only []); omega); assumption)) | (simp [*]; done)
        clear hW1
        refine wp_region_makers 6 [] [0, 1, 2, 3, 4, 5] ?A1 _ (by kernel_rfl) (by kernel_rfl) ?hrun1 (by simp [quiets, mkOf]; rfl) ?walk1 ?fin1
        case hrun1 =>
          intro x hx
          cases hx
        case walk1 =>
          intro W2 hW2
          have e0 : W2.cell? ⟨w.heap.size, 0, none⟩ = some (.int .u32 p.toNat) := (hW2.cell (p := ⟨w.heap.size, 0, none⟩) (by (try simp only []); omega)).trans g0
          have k0 := cell_regrown e0
          have e1 : W2.cell? ⟨w.heap.size, 1, none⟩ = some (.int .u32 m.toNat) := (hW2.cell (p := ⟨w.heap.size, 1, none⟩) (by (try simp only []); omega)).trans g1
          have k1 := cell_regrown e1
          have e2 : W2.cell? ⟨w.heap.size + 1, 0, none⟩ = some (.int .u32 q.toNat) := (hW2.cell (p := ⟨w.heap.size + 1, 0, none⟩) (by (try simp only []); omega)).trans g2
          have k2 := cell_regrown e2
          have e3 : W2.cell? ⟨w.heap.size + 1, 1, none⟩ = some (.int .u32 n.toNat) := (hW2.cell (p := ⟨w.heap.size + 1, 1, none⟩) (by (try simp only []); omega)).trans g3
          have k3 := cell_regrown e3
          have e4 : W2.cell? ⟨bq, 0, none⟩ = some (.int .u32 F0.toNat) := (hW2.cell (p := ⟨bq, 0, none⟩) (by (try simp only []); omega)).trans g4
          have k4 := cell_regrown e4
          have e5 : W2.cell? ⟨bq, 1, none⟩ = some (.int .u32 M0.toNat) := (hW2.cell (p := ⟨bq, 1, none⟩) (by (try simp only []); omega)).trans g5
          have k5 := cell_regrown e5
          have e6 : W2.cell? ⟨w.heap.size + 1 + 1, 0, none⟩ = some (.int .u32 0) := (hW2.cell (p := ⟨w.heap.size + 1 + 1, 0, none⟩) (by (try simp only []); omega)).trans g6
          have k6 := cell_regrown e6
          have e7 : W2.cell? ⟨w.heap.size + 1 + 1, 1, none⟩ = some (.int .u32 0) := (hW2.cell (p := ⟨w.heap.size + 1 + 1, 1, none⟩) (by (try simp only []); omega)).trans g7
          have k7 := cell_regrown e7
          repeat (go_big_quiet_step (first | (go_at_call 20; with_reducible exact Calls.regrown_of (hg2 _)) | (go_at_call 48; with_reducible exact Calls.regrown_of (hput _))))
          refine wpQuiet_nil ?_
          rfl
        intro bs w2 hb hF hN
        have hw := chain hw1 (by omega) hb
        obtain ⟨hc, hf, hz⟩ := bcell hb
        have r0 : w2.cell? ⟨w.heap.size, 0, none⟩ = some (.int .u32 p.toNat) := (hc _ _ (by omega)).trans g0
        have r1 : w2.cell? ⟨w.heap.size, 1, none⟩ = some (.int .u32 m.toNat) := (hc _ _ (by omega)).trans g1
        have r2 : w2.cell? ⟨w.heap.size + 1, 0, none⟩ = some (.int .u32 q.toNat) := (hc _ _ (by omega)).trans g2
        have r3 : w2.cell? ⟨w.heap.size + 1, 1, none⟩ = some (.int .u32 n.toNat) := (hc _ _ (by omega)).trans g3
        have r4 : w2.cell? ⟨bq, 0, none⟩ = some (.int .u32 F0.toNat) := (hc _ _ (by omega)).trans g4
        have r5 : w2.cell? ⟨bq, 1, none⟩ = some (.int .u32 M0.toNat) := (hc _ _ (by omega)).trans g5
        have r6 : w2.cell? ⟨w.heap.size + 1 + 1, 0, none⟩ = some (.int .u32 0) := (hc _ _ (by omega)).trans g6
        have r7 : w2.cell? ⟨w.heap.size + 1 + 1, 1, none⟩ = some (.int .u32 0) := (hc _ _ (by omega)).trans g7
        have q0 : w2.frozen? ⟨bq, 0, none⟩ = false := (hf _ _ (by omega)).trans z0
        have q1 : w2.frozen? ⟨bq, 1, none⟩ = false := (hf _ _ (by omega)).trans z1
        have q2 : w2.frozen? ⟨w.heap.size + 1 + 1, 0, none⟩ = false := (hf _ _ (by omega)).trans z2
        have q3 : w2.frozen? ⟨w.heap.size + 1 + 1, 1, none⟩ = false := (hf _ _ (by omega)).trans z3
        clear hb hF hN hw1 g0 g1 g2 g3 g4 g5 g6 g7 z0 z1 z2 z3
        simp only [List.map_cons, List.map_nil, List.foldr_cons, List.foldr_nil] at *
        clear bs
        simp only [dstOf, ptr, Act.put, List.getElem?_toArray, List.getElem?_cons_succ, List.getElem?_cons_zero, Option.bind_some, List.setIfInBounds_toArray, List.set_cons_zero, List.set_cons_succ, List.drop_succ_cons, List.drop_zero]
        go_wp2_with fail
        go_roundw
        case rel => exact ⟨k + 1, by omega, by go_num, Two.other ⟨r0, r1⟩ (by omega), Two.other ⟨r2, r3⟩ (by omega), by rw [HF1.out, HM1.out]; exact Two.same ⟨r4, r5⟩, Thaw.set ⟨q0, q1⟩, Two.other ⟨r6, r7⟩ (by omega), Thaw.set ⟨q2, q3⟩, below_set2 hw (by omega), size_set2 (by omega)⟩
        case measure => simp [intOf]; omega
    · obtain rfl : k = 24 := by omega
      rw [HE.out.1] at r4
      rw [HE.out.2] at r5
      go_wp2_with fail
      refine bodyPost_ret (v := .tuple #[sn F.toNat M.toNat, .int .i64 0]) (by simp [results, Tryd.results39, go_sem, *]) rfl ⟨rfl, below_set2 hw (by omega)⟩
end Go.Proofs.YtacfopopaieliaaDoor
