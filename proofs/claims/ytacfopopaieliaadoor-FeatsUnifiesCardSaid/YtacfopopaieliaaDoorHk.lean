/-
  FeatsChanged, walked.
-/
import Derived.Test.YtacfopopaieliaaDoorTk
namespace Go.Proofs.YtacfopopaieliaaDoor
open Go.RowKit Go.Sort
attribute [local go_sem ↓] snd_eql snd_neq
set_option maxHeartbeats 4000000 in
theorem changed_core (x0 x1 y0 y1 z a b c d K e f A : Int) (w : World) (hT : Tab w) (ht : 0 < w.heap.size)
    (m1 : ∀ w, Gives 40 #[.int .u32 x0, .int .u32 x1] w (sn a b)) (m2 : ∀ w, Gives 40 #[.int .u32 y0, .int .u32 y1] w (sn c d))
    (t1 : ∀ w, Gives 36 #[sn a b, .int .u32 K, sn c d] w (.tuple #[sn e f, .int .i64 0])) (t2 : ∀ w, Gives 36 #[sn e f, .int .u32 K, sn c d] w (.tuple #[sn e f, .int .i64 0]))
    (v1 : ∀ w, Gives 17 #[sn e f] w (.bool true)) (sa1 : ∀ w, Gives 24 #[sn e f, sn c d] w (.bool true))
    (d1 : ∀ w, Gives 30 #[sn a b, sn e f] w (.int .u32 A))
    (hK : bits .andNot .u32 (bits .and .u32 z 16777215) (bits .or .u32 c d) = K) (hC : bits .and .u32 (bits .or .u32 e f) K = 0) (hA : bits .andNot .u32 A (bits .or .u32 (bits .or .u32 K c) d) = 0) :
    Gives 11 #[.agg #[.int .u32 x0, .int .u32 x1], .agg #[.int .u32 y0, .int .u32 y1], .int .u32 z] w (.bool true) := by
  unfold Gives
  go_enter Tryd.func11, Tryd.ntmps11
  go_wp2_with fail
  refine wp_gen ?_
  intro W1 hW1
  have hw1 : Below w.heap.size w W1 := by rw [hW1]; go_grown
  have hz1 : w.heap.size + 1 + 1 ≤ W1.heap.size := by rw [hW1]; go_size
  have g0 : W1.cell? ⟨w.heap.size, 0, none⟩ = some (.int .u32 x0) := by rw [hW1]; first | assumption | go_cell | (go_simp; done) | (simp [hc, hf, hc0, hf0]; done) | (simp [*]; done)
  have g1 : W1.cell? ⟨w.heap.size, 1, none⟩ = some (.int .u32 x1) := by rw [hW1]; first | assumption | go_cell | (go_simp; done) | (simp [hc, hf, hc0, hf0]; done) | (simp [*]; done)
  have g2 : W1.cell? ⟨w.heap.size + 1, 0, none⟩ = some (.int .u32 y0) := by rw [hW1]; first | assumption | go_cell | (go_simp; done) | (simp [hc, hf, hc0, hf0]; done) | (simp [*]; done)
  have g3 : W1.cell? ⟨w.heap.size + 1, 1, none⟩ = some (.int .u32 y1) := by rw [hW1]; first | assumption | go_cell | (go_simp; done) | (simp [hc, hf, hc0, hf0]; done) | (simp [*]; done)
  clear hW1
  refine wp_region_makers 12 [(10, .cells #[.int .u32 0, .int .u32 0] 24 (0, 0)), (11, .cells #[.int .u32 0, .int .u32 0] 24 (0, 0))] [0, 1, 2, 3, 4, 5, 6, 7, 8, 9, 10, 11] ?A1 _ (by kernel_rfl) (by kernel_rfl) ?hrun1 (by simp [quiets, mkOf]; rfl) ?walk1 ?fin1
  case hrun1 =>
    intro x hx
    simp only [List.mem_cons, List.not_mem_nil, or_false] at hx
    rcases hx with rfl | rfl
    all_goals exact ⟨_, rfl, rfl, fun a w => by simp [go_sem, ptr]⟩
  case walk1 =>
    intro W2 hW2
    have e0 : W2.cell? ⟨w.heap.size, 0, none⟩ = some (.int .u32 x0) := (hW2.cell (p := ⟨w.heap.size, 0, none⟩) (by (try simp only []); omega)).trans g0
    have k0 := cell_regrown e0
    have e1 : W2.cell? ⟨w.heap.size, 1, none⟩ = some (.int .u32 x1) := (hW2.cell (p := ⟨w.heap.size, 1, none⟩) (by (try simp only []); omega)).trans g1
    have k1 := cell_regrown e1
    have e2 : W2.cell? ⟨w.heap.size + 1, 0, none⟩ = some (.int .u32 y0) := (hW2.cell (p := ⟨w.heap.size + 1, 0, none⟩) (by (try simp only []); omega)).trans g2
    have k2 := cell_regrown e2
    have e3 : W2.cell? ⟨w.heap.size + 1, 1, none⟩ = some (.int .u32 y1) := (hW2.cell (p := ⟨w.heap.size + 1, 1, none⟩) (by (try simp only []); omega)).trans g3
    have k3 := cell_regrown e3
    repeat (go_big_quiet_step (first | (go_at_call 40; with_reducible exact Calls.regrown_of (m1 _)) | (go_at_call 40; with_reducible exact Calls.regrown_of (m2 _))))
    refine wpQuiet_nil ?_
    rfl
  intro bs w2 hb hF hN
  have hw := chain hw1 (by omega) hb
  obtain ⟨hc, hf, hz⟩ := bcell hb
  have r0 : w2.cell? ⟨w.heap.size, 0, none⟩ = some (.int .u32 x0) := (hc _ _ (by omega)).trans g0
  have r1 : w2.cell? ⟨w.heap.size, 1, none⟩ = some (.int .u32 x1) := (hc _ _ (by omega)).trans g1
  have r2 : w2.cell? ⟨w.heap.size + 1, 0, none⟩ = some (.int .u32 y0) := (hc _ _ (by omega)).trans g2
  have r3 : w2.cell? ⟨w.heap.size + 1, 1, none⟩ = some (.int .u32 y1) := (hc _ _ (by omega)).trans g3
  have m10 := hF (10, .cells #[.int .u32 0, .int .u32 0] 24 (0, 0)) (by simp)
  have m11 := hF (11, .cells #[.int .u32 0, .int .u32 0] 24 (0, 0)) (by simp)
  have n10_11 := hN (10, .cells #[.int .u32 0, .int .u32 0] 24 (0, 0)) (by simp) (11, .cells #[.int .u32 0, .int .u32 0] 24 (0, 0)) (by simp) (by decide)
  have n11_10 := n10_11.symm
  clear hb hF hN hw1 g0 g1 g2 g3
  simp only [List.map_cons, List.map_nil, List.foldr_cons, List.foldr_nil] at *
  generalize bs 10 = b10 at *
  obtain ⟨m10a, m10b⟩ := m10
  have u10_0 := cell_block (o := 0) (v := .int .u32 0) m10b rfl
  have v10_0 := frozen_block (o := 0) m10b
  have u10_1 := cell_block (o := 1) (v := .int .u32 0) m10b rfl
  have v10_1 := frozen_block (o := 1) m10b
  have l10 := lt_block m10b
  clear m10b
  generalize bs 11 = b11 at *
  obtain ⟨m11a, m11b⟩ := m11
  have u11_0 := cell_block (o := 0) (v := .int .u32 0) m11b rfl
  have v11_0 := frozen_block (o := 0) m11b
  have u11_1 := cell_block (o := 1) (v := .int .u32 0) m11b rfl
  have v11_1 := frozen_block (o := 1) m11b
  have l11 := lt_block m11b
  clear m11b
  clear bs
  simp only [dstOf, ptr, Act.put, List.getElem?_toArray, List.getElem?_cons_succ, List.getElem?_cons_zero, Option.bind_some, List.setIfInBounds_toArray, List.set_cons_zero, List.set_cons_succ, List.drop_succ_cons, List.drop_zero]
  go_wp2_with fail
  first | refine wp_gen ?_ | refine calls_gen ?_
  intro W1 hW1
  have hw1 : Below w.heap.size w W1 := by rw [hW1]; go_grown
  have hz1 : w2.heap.size ≤ W1.heap.size := by rw [hW1]; go_size
  have g0 : W1.cell? ⟨b10, 0, none⟩ = some (.int .u32 a) := by rw [hW1]; first | go_cell | (go_simp; done) | (simp [hc, hf, hc0, hf0]; done)
  have g1 : W1.cell? ⟨b10, 1, none⟩ = some (.int .u32 b) := by rw [hW1]; first | go_cell | (go_simp; done) | (simp [hc, hf, hc0, hf0]; done)
  have g2 : W1.cell? ⟨b11, 0, none⟩ = some (.int .u32 c) := by rw [hW1]; first | go_cell | (go_simp; done) | (simp [hc, hf, hc0, hf0]; done)
  have g3 : W1.cell? ⟨b11, 1, none⟩ = some (.int .u32 d) := by rw [hW1]; first | go_cell | (go_simp; done) | (simp [hc, hf, hc0, hf0]; done)
  clear hW1
  have r0 := g0; have r1 := g1; have r2 := g2; have r3 := g3
  have hws := hw1.size
  (go_at_call 36; with_reducible refine Gives.then (t1 _) ?_; intro w1 hb; have hw := chain (B := w.heap.size) (a := w) (by go_grown) (by go_size) hb; (first | have h0 := chain (h0.trans (by go_grown)) (by go_size) hb | have h0 := hb); obtain ⟨hc, hf, hz⟩ := bcell hb; obtain ⟨hc0, hf0, hz0⟩ := bcell h0; clear hb; (try simp only [World.size_alloc, World.size_setCell, World.size_drew] at hc hf hz hc0 hf0 hz0); (first | (have hy := (hc _ _ (by omega)).trans r0; have r0 := hy; clear hy) | (have hy := (hc _ _ (by omega)).trans (cell_past (by omega) r0); have r0 := hy; clear hy) | skip); (first | (have hy := (hc _ _ (by omega)).trans r1; have r1 := hy; clear hy) | (have hy := (hc _ _ (by omega)).trans (cell_past (by omega) r1); have r1 := hy; clear hy) | skip); (first | (have hy := (hc _ _ (by omega)).trans r2; have r2 := hy; clear hy) | (have hy := (hc _ _ (by omega)).trans (cell_past (by omega) r2); have r2 := hy; clear hy) | skip); (first | (have hy := (hc _ _ (by omega)).trans r3; have r3 := hy; clear hy) | (have hy := (hc _ _ (by omega)).trans (cell_past (by omega) r3); have r3 := hy; clear hy) | skip); (first | (have hy := (hc _ _ (by omega)).trans r4; have r4 := hy; clear hy) | (have hy := (hc _ _ (by omega)).trans (cell_past (by omega) r4); have r4 := hy; clear hy) | skip); (first | (have hy := (hc _ _ (by omega)).trans r5; have r5 := hy; clear hy) | (have hy := (hc _ _ (by omega)).trans (cell_past (by omega) r5); have r5 := hy; clear hy) | skip); (try (have hy : b10 < w1.heap.size := (by omega); have lb10 := hy; clear hy)); (try (have hy : b11 < w1.heap.size := (by omega); have lb11 := hy; clear hy)); (try (have hy : bt < w1.heap.size := (by omega); have lbt := hy; clear hy)); (try have s0 := fun X => cell_past (X := X) lb10 r0); (try have s1 := fun X => cell_past (X := X) lb10 r1); (try have s2 := fun X => cell_past (X := X) lb11 r2); (try have s3 := fun X => cell_past (X := X) lb11 r3); (try have s4 := fun X => cell_past (X := X) lbt r4); (try have s5 := fun X => cell_past (X := X) lbt r5))
  go_wp2_with fail
  (go_at_call 36; with_reducible refine Gives.then (t2 _) ?_; intro w1 hb; have hw := chain (B := w.heap.size) (a := w) (by go_grown) (by go_size) hb; (first | have h0 := chain (h0.trans (by go_grown)) (by go_size) hb | have h0 := hb); obtain ⟨hc, hf, hz⟩ := bcell hb; obtain ⟨hc0, hf0, hz0⟩ := bcell h0; clear hb; (try simp only [World.size_alloc, World.size_setCell, World.size_drew] at hc hf hz hc0 hf0 hz0); (first | (have hy := (hc _ _ (by omega)).trans r0; have r0 := hy; clear hy) | (have hy := (hc _ _ (by omega)).trans (cell_past (by omega) r0); have r0 := hy; clear hy) | skip); (first | (have hy := (hc _ _ (by omega)).trans r1; have r1 := hy; clear hy) | (have hy := (hc _ _ (by omega)).trans (cell_past (by omega) r1); have r1 := hy; clear hy) | skip); (first | (have hy := (hc _ _ (by omega)).trans r2; have r2 := hy; clear hy) | (have hy := (hc _ _ (by omega)).trans (cell_past (by omega) r2); have r2 := hy; clear hy) | skip); (first | (have hy := (hc _ _ (by omega)).trans r3; have r3 := hy; clear hy) | (have hy := (hc _ _ (by omega)).trans (cell_past (by omega) r3); have r3 := hy; clear hy) | skip); (first | (have hy := (hc _ _ (by omega)).trans r4; have r4 := hy; clear hy) | (have hy := (hc _ _ (by omega)).trans (cell_past (by omega) r4); have r4 := hy; clear hy) | skip); (first | (have hy := (hc _ _ (by omega)).trans r5; have r5 := hy; clear hy) | (have hy := (hc _ _ (by omega)).trans (cell_past (by omega) r5); have r5 := hy; clear hy) | skip); (try (have hy : b10 < w1.heap.size := (by omega); have lb10 := hy; clear hy)); (try (have hy : b11 < w1.heap.size := (by omega); have lb11 := hy; clear hy)); (try (have hy : bt < w1.heap.size := (by omega); have lbt := hy; clear hy)); (try have s0 := fun X => cell_past (X := X) lb10 r0); (try have s1 := fun X => cell_past (X := X) lb10 r1); (try have s2 := fun X => cell_past (X := X) lb11 r2); (try have s3 := fun X => cell_past (X := X) lb11 r3); (try have s4 := fun X => cell_past (X := X) lbt r4); (try have s5 := fun X => cell_past (X := X) lbt r5))
  obtain ⟨bt, hbt, lbt, hx⟩ := cell_fresh hc hz; have r4 := hx 0; have r5 := hx 1; clear hx; simp only [World.cell?_alloc_at, List.getElem?_toArray, List.getElem?_cons_zero, List.getElem?_cons_succ] at r4 r5; simp only [hbt]; have s4 := fun X => cell_past (X := X) lbt r4; have s5 := fun X => cell_past (X := X) lbt r5
  go_wp2_with (first | (go_at_call 17; with_reducible refine Gives.then (v1 _) ?_; intro w1 hb; have hw := chain (B := w.heap.size) (a := w) (by go_grown) (by go_size) hb; (first | have h0 := chain (h0.trans (by go_grown)) (by go_size) hb | have h0 := hb); obtain ⟨hc, hf, hz⟩ := bcell hb; obtain ⟨hc0, hf0, hz0⟩ := bcell h0; clear hb; (try simp only [World.size_alloc, World.size_setCell, World.size_drew] at hc hf hz hc0 hf0 hz0); (first | (have hy := (hc _ _ (by omega)).trans r0; have r0 := hy; clear hy) | (have hy := (hc _ _ (by omega)).trans (cell_past (by omega) r0); have r0 := hy; clear hy) | skip); (first | (have hy := (hc _ _ (by omega)).trans r1; have r1 := hy; clear hy) | (have hy := (hc _ _ (by omega)).trans (cell_past (by omega) r1); have r1 := hy; clear hy) | skip); (first | (have hy := (hc _ _ (by omega)).trans r2; have r2 := hy; clear hy) | (have hy := (hc _ _ (by omega)).trans (cell_past (by omega) r2); have r2 := hy; clear hy) | skip); (first | (have hy := (hc _ _ (by omega)).trans r3; have r3 := hy; clear hy) | (have hy := (hc _ _ (by omega)).trans (cell_past (by omega) r3); have r3 := hy; clear hy) | skip); (first | (have hy := (hc _ _ (by omega)).trans r4; have r4 := hy; clear hy) | (have hy := (hc _ _ (by omega)).trans (cell_past (by omega) r4); have r4 := hy; clear hy) | skip); (first | (have hy := (hc _ _ (by omega)).trans r5; have r5 := hy; clear hy) | (have hy := (hc _ _ (by omega)).trans (cell_past (by omega) r5); have r5 := hy; clear hy) | skip); (try (have hy : b10 < w1.heap.size := (by omega); have lb10 := hy; clear hy)); (try (have hy : b11 < w1.heap.size := (by omega); have lb11 := hy; clear hy)); (try (have hy : bt < w1.heap.size := (by omega); have lbt := hy; clear hy)); (try have s0 := fun X => cell_past (X := X) lb10 r0); (try have s1 := fun X => cell_past (X := X) lb10 r1); (try have s2 := fun X => cell_past (X := X) lb11 r2); (try have s3 := fun X => cell_past (X := X) lb11 r3); (try have s4 := fun X => cell_past (X := X) lbt r4); (try have s5 := fun X => cell_past (X := X) lbt r5)) | (go_at_call 24; with_reducible refine Gives.then (sa1 _) ?_; intro w1 hb; have hw := chain (B := w.heap.size) (a := w) (by go_grown) (by go_size) hb; (first | have h0 := chain (h0.trans (by go_grown)) (by go_size) hb | have h0 := hb); obtain ⟨hc, hf, hz⟩ := bcell hb; obtain ⟨hc0, hf0, hz0⟩ := bcell h0; clear hb; (try simp only [World.size_alloc, World.size_setCell, World.size_drew] at hc hf hz hc0 hf0 hz0); (first | (have hy := (hc _ _ (by omega)).trans r0; have r0 := hy; clear hy) | (have hy := (hc _ _ (by omega)).trans (cell_past (by omega) r0); have r0 := hy; clear hy) | skip); (first | (have hy := (hc _ _ (by omega)).trans r1; have r1 := hy; clear hy) | (have hy := (hc _ _ (by omega)).trans (cell_past (by omega) r1); have r1 := hy; clear hy) | skip); (first | (have hy := (hc _ _ (by omega)).trans r2; have r2 := hy; clear hy) | (have hy := (hc _ _ (by omega)).trans (cell_past (by omega) r2); have r2 := hy; clear hy) | skip); (first | (have hy := (hc _ _ (by omega)).trans r3; have r3 := hy; clear hy) | (have hy := (hc _ _ (by omega)).trans (cell_past (by omega) r3); have r3 := hy; clear hy) | skip); (first | (have hy := (hc _ _ (by omega)).trans r4; have r4 := hy; clear hy) | (have hy := (hc _ _ (by omega)).trans (cell_past (by omega) r4); have r4 := hy; clear hy) | skip); (first | (have hy := (hc _ _ (by omega)).trans r5; have r5 := hy; clear hy) | (have hy := (hc _ _ (by omega)).trans (cell_past (by omega) r5); have r5 := hy; clear hy) | skip); (try (have hy : b10 < w1.heap.size := (by omega); have lb10 := hy; clear hy)); (try (have hy : b11 < w1.heap.size := (by omega); have lb11 := hy; clear hy)); (try (have hy : bt < w1.heap.size := (by omega); have lbt := hy; clear hy)); (try have s0 := fun X => cell_past (X := X) lb10 r0); (try have s1 := fun X => cell_past (X := X) lb10 r1); (try have s2 := fun X => cell_past (X := X) lb11 r2); (try have s3 := fun X => cell_past (X := X) lb11 r3); (try have s4 := fun X => cell_past (X := X) lbt r4); (try have s5 := fun X => cell_past (X := X) lbt r5)) | (go_at_call 30; with_reducible refine Gives.then (d1 _) ?_; intro w1 hb; have hw := chain (B := w.heap.size) (a := w) (by go_grown) (by go_size) hb; (first | have h0 := chain (h0.trans (by go_grown)) (by go_size) hb | have h0 := hb); obtain ⟨hc, hf, hz⟩ := bcell hb; obtain ⟨hc0, hf0, hz0⟩ := bcell h0; clear hb; (try simp only [World.size_alloc, World.size_setCell, World.size_drew] at hc hf hz hc0 hf0 hz0); (first | (have hy := (hc _ _ (by omega)).trans r0; have r0 := hy; clear hy) | (have hy := (hc _ _ (by omega)).trans (cell_past (by omega) r0); have r0 := hy; clear hy) | skip); (first | (have hy := (hc _ _ (by omega)).trans r1; have r1 := hy; clear hy) | (have hy := (hc _ _ (by omega)).trans (cell_past (by omega) r1); have r1 := hy; clear hy) | skip); (first | (have hy := (hc _ _ (by omega)).trans r2; have r2 := hy; clear hy) | (have hy := (hc _ _ (by omega)).trans (cell_past (by omega) r2); have r2 := hy; clear hy) | skip); (first | (have hy := (hc _ _ (by omega)).trans r3; have r3 := hy; clear hy) | (have hy := (hc _ _ (by omega)).trans (cell_past (by omega) r3); have r3 := hy; clear hy) | skip); (first | (have hy := (hc _ _ (by omega)).trans r4; have r4 := hy; clear hy) | (have hy := (hc _ _ (by omega)).trans (cell_past (by omega) r4); have r4 := hy; clear hy) | skip); (first | (have hy := (hc _ _ (by omega)).trans r5; have r5 := hy; clear hy) | (have hy := (hc _ _ (by omega)).trans (cell_past (by omega) r5); have r5 := hy; clear hy) | skip); (try (have hy : b10 < w1.heap.size := (by omega); have lb10 := hy; clear hy)); (try (have hy : b11 < w1.heap.size := (by omega); have lb11 := hy; clear hy)); (try (have hy : bt < w1.heap.size := (by omega); have lbt := hy; clear hy)); (try have s0 := fun X => cell_past (X := X) lb10 r0); (try have s1 := fun X => cell_past (X := X) lb10 r1); (try have s2 := fun X => cell_past (X := X) lb11 r2); (try have s3 := fun X => cell_past (X := X) lb11 r3); (try have s4 := fun X => cell_past (X := X) lbt r4); (try have s5 := fun X => cell_past (X := X) lbt r5)) | (go_at_call 21; with_reducible refine Gives.then (works_any _ ?_ ?_) ?_; (next => (exact Tab.below (n₀ := w.heap.size) (by go_grown) ht hT)); (next => (first | go_size | omega)); intro w1 hb; have hw := chain (B := w.heap.size) (a := w) (by go_grown) (by go_size) hb; (first | have h0 := chain (h0.trans (by go_grown)) (by go_size) hb | have h0 := hb); obtain ⟨hc, hf, hz⟩ := bcell hb; obtain ⟨hc0, hf0, hz0⟩ := bcell h0; clear hb; (try simp only [World.size_alloc, World.size_setCell, World.size_drew] at hc hf hz hc0 hf0 hz0); (first | (have hy := (hc _ _ (by omega)).trans r0; have r0 := hy; clear hy) | (have hy := (hc _ _ (by omega)).trans (cell_past (by omega) r0); have r0 := hy; clear hy) | skip); (first | (have hy := (hc _ _ (by omega)).trans r1; have r1 := hy; clear hy) | (have hy := (hc _ _ (by omega)).trans (cell_past (by omega) r1); have r1 := hy; clear hy) | skip); (first | (have hy := (hc _ _ (by omega)).trans r2; have r2 := hy; clear hy) | (have hy := (hc _ _ (by omega)).trans (cell_past (by omega) r2); have r2 := hy; clear hy) | skip); (first | (have hy := (hc _ _ (by omega)).trans r3; have r3 := hy; clear hy) | (have hy := (hc _ _ (by omega)).trans (cell_past (by omega) r3); have r3 := hy; clear hy) | skip); (first | (have hy := (hc _ _ (by omega)).trans r4; have r4 := hy; clear hy) | (have hy := (hc _ _ (by omega)).trans (cell_past (by omega) r4); have r4 := hy; clear hy) | skip); (first | (have hy := (hc _ _ (by omega)).trans r5; have r5 := hy; clear hy) | (have hy := (hc _ _ (by omega)).trans (cell_past (by omega) r5); have r5 := hy; clear hy) | skip); (try (have hy : b10 < w1.heap.size := (by omega); have lb10 := hy; clear hy)); (try (have hy : b11 < w1.heap.size := (by omega); have lb11 := hy; clear hy)); (try (have hy : bt < w1.heap.size := (by omega); have lbt := hy; clear hy)); (try have s0 := fun X => cell_past (X := X) lb10 r0); (try have s1 := fun X => cell_past (X := X) lb10 r1); (try have s2 := fun X => cell_past (X := X) lb11 r2); (try have s3 := fun X => cell_past (X := X) lb11 r3); (try have s4 := fun X => cell_past (X := X) lbt r4); (try have s5 := fun X => cell_past (X := X) lbt r5)))
  refine wp_gen ?_
  intro W1 hW1
  have hw1 : Below w.heap.size w W1 := by rw [hW1]; go_grown
  have hz1 : w1.heap.size ≤ W1.heap.size := by rw [hW1]; go_size
  have c0 : W1.cell? ⟨b10, 0, none⟩ = some (.int .u32 a) := by rw [hW1]; first | go_cell | (go_simp; done) | exact cell_past (by first | assumption | omega) (by assumption)
  have c1 : W1.cell? ⟨b10, 1, none⟩ = some (.int .u32 b) := by rw [hW1]; first | go_cell | (go_simp; done) | exact cell_past (by first | assumption | omega) (by assumption)
  have c2 : W1.cell? ⟨b11, 0, none⟩ = some (.int .u32 c) := by rw [hW1]; first | go_cell | (go_simp; done) | exact cell_past (by first | assumption | omega) (by assumption)
  have c3 : W1.cell? ⟨b11, 1, none⟩ = some (.int .u32 d) := by rw [hW1]; first | go_cell | (go_simp; done) | exact cell_past (by first | assumption | omega) (by assumption)
  have c4 : W1.cell? ⟨bt, 0, none⟩ = some (.int .u32 e) := by rw [hW1]; first | go_cell | (go_simp; done) | exact cell_past (by first | assumption | omega) (by assumption)
  have c5 : W1.cell? ⟨bt, 1, none⟩ = some (.int .u32 f) := by rw [hW1]; first | go_cell | (go_simp; done) | exact cell_past (by first | assumption | omega) (by assumption)
  clear hW1
  have k0 := cell_regrown c0
  have k1 := cell_regrown c1
  have k2 := cell_regrown c2
  have k3 := cell_regrown c3
  have k4 := cell_regrown c4
  have k5 := cell_regrown c5
  refine wp_region_quiet_below (by kernel_rfl) (by kernel_rfl) ?_
  try simp only [List.append]
  repeat (go_big_quiet_step (first | (go_at_call 30; with_reducible exact Calls.regrown_of (d1 _)) | (go_at_call 21; with_reducible exact Calls.regrown_of (works_any _ (Tab.below (below_regrown _ _ _) (Nat.lt_of_lt_of_le ht hw1.size) (Tab.below hw1 ht hT)) (Nat.lt_of_lt_of_le (Nat.lt_of_lt_of_le ht hw1.size) (below_regrown _ _ _).size)))))
  refine wpQuiet_nil ?_
  intro w2 hw2
  have hb : Below W1.heap.size W1 w2 := by obtain ⟨q, rfl⟩ := hw2; exact below_regrown _ _ _
  clear hw2
  clear k0 k1 k2 k3 k4 k5
  have hw := chain hw1 (by omega) hb
  obtain ⟨hc, hf, hz⟩ := bcell hb
  clear hb
  try have r0 : w2.cell? ⟨b10, 0, none⟩ = some (.int .u32 a) := (hc _ _ (by omega)).trans c0
  try have r1 : w2.cell? ⟨b10, 1, none⟩ = some (.int .u32 b) := (hc _ _ (by omega)).trans c1
  try have r2 : w2.cell? ⟨b11, 0, none⟩ = some (.int .u32 c) := (hc _ _ (by omega)).trans c2
  try have r3 : w2.cell? ⟨b11, 1, none⟩ = some (.int .u32 d) := (hc _ _ (by omega)).trans c3
  try have r4 : w2.cell? ⟨bt, 0, none⟩ = some (.int .u32 e) := (hc _ _ (by omega)).trans c4
  try have r5 : w2.cell? ⟨bt, 1, none⟩ = some (.int .u32 f) := (hc _ _ (by omega)).trans c5
  go_wp2
  go_returns
  exact ⟨rfl, hw⟩
end Go.Proofs.YtacfopopaieliaaDoor
