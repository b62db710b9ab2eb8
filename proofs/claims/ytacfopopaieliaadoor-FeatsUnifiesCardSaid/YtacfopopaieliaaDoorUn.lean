/-
  FeatsUnifies, walked: the sounds that have opposite values.
-/
import Derived.Test.YtacfopopaieliaaDoorTk
namespace Go.Proofs.YtacfopopaieliaaDoor
open Go.RowKit Go.Sort
attribute [local go_sem ↓] snd_eql snd_neq
set_option maxHeartbeats 4000000 in
theorem unifies_no (x0 x1 y0 y1 z0 z1 a b c d g h X Y : Int) (S1 S2 : Bool) (w : World) (hT : Tab w) (ht : 0 < w.heap.size)
    (m1 : ∀ w, Gives 40 #[.int .u32 x0, .int .u32 x1] w (sn a b)) (m2 : ∀ w, Gives 40 #[.int .u32 y0, .int .u32 y1] w (sn c d)) (m3 : ∀ w, Gives 40 #[.int .u32 z0, .int .u32 z1] w (sn g h))
    (t1 : ∀ w, Gives 22 #[sn a b, sn c d] w (.tuple #[sn 0 0, .bool false])) (t2 : ∀ w, Gives 22 #[sn c d, sn a b] w (.tuple #[sn 0 0, .bool false]))
    (hp : bits .and .u32 a d = X) (hm : bits .and .u32 b c = Y) (hXY : (X == 0) = false ∨ (X = 0 ∧ (Y == 0) = false))
    (sa3 : ∀ w, Gives 24 #[sn g h, sn a b] w (.bool S1)) (sa4 : ∀ w, Gives 24 #[sn g h, sn c d] w (.bool S2)) (hS : S1 = false ∨ (S1 = true ∧ S2 = false)) :
    Gives 8 #[.agg #[.int .u32 x0, .int .u32 x1], .agg #[.int .u32 y0, .int .u32 y1], .agg #[.int .u32 z0, .int .u32 z1]] w (.bool true) := by
  unfold Gives
  rcases hXY with hX | ⟨hX, hY⟩
  · go_enter Tryd.func8, Tryd.ntmps8
    go_wp2_with fail
    refine wp_gen ?_
    intro W1 hW1
    have hw1 : Below w.heap.size w W1 := by rw [hW1]; go_grown
    have hz1 : w.heap.size + 1 + 1 + 1 ≤ W1.heap.size := by rw [hW1]; go_size
    have g0 : W1.cell? ⟨w.heap.size, 0, none⟩ = some (.int .u32 x0) := by rw [hW1]; first | assumption | go_cell | (go_simp; done) | (simp [hc, hf, hc0, hf0]; done) | (simp [*]; done)
    have g1 : W1.cell? ⟨w.heap.size, 1, none⟩ = some (.int .u32 x1) := by rw [hW1]; first | assumption | go_cell | (go_simp; done) | (simp [hc, hf, hc0, hf0]; done) | (simp [*]; done)
    have g2 : W1.cell? ⟨w.heap.size + 1, 0, none⟩ = some (.int .u32 y0) := by rw [hW1]; first | assumption | go_cell | (go_simp; done) | (simp [hc, hf, hc0, hf0]; done) | (simp [*]; done)
    have g3 : W1.cell? ⟨w.heap.size + 1, 1, none⟩ = some (.int .u32 y1) := by rw [hW1]; first | assumption | go_cell | (go_simp; done) | (simp [hc, hf, hc0, hf0]; done) | (simp [*]; done)
    have g4 : W1.cell? ⟨w.heap.size + 1 + 1, 0, none⟩ = some (.int .u32 z0) := by rw [hW1]; first | assumption | go_cell | (go_simp; done) | (simp [hc, hf, hc0, hf0]; done) | (simp [*]; done)
    have g5 : W1.cell? ⟨w.heap.size + 1 + 1, 1, none⟩ = some (.int .u32 z1) := by rw [hW1]; first | assumption | go_cell | (go_simp; done) | (simp [hc, hf, hc0, hf0]; done) | (simp [*]; done)
    clear hW1
    refine wp_region_makers 18 [(15, .cells #[.int .u32 0, .int .u32 0] 24 (0, 0)), (16, .cells #[.int .u32 0, .int .u32 0] 24 (0, 0)), (17, .cells #[.int .u32 0, .int .u32 0] 24 (0, 0))] [0, 1, 2, 3, 4, 5, 6, 7, 8, 9, 10, 11, 12, 13, 14, 15, 16, 17] ?A1 _ (by kernel_rfl) (by kernel_rfl) ?hrun1 (by simp [quiets, mkOf]; rfl) ?walk1 ?fin1
    case hrun1 =>
      intro x hx
      simp only [List.mem_cons, List.not_mem_nil, or_false] at hx
      rcases hx with rfl | rfl | rfl
      all_goals exact ⟨_, rfl, rfl, fun a w => by simp [go_sem, ptr]⟩
    case walk1 =>
      intro W2 hW2
      have e0 : W2.cell? ⟨w.heap.size, 0, none⟩ = some (.int .u32 x0) := (hW2.cell (p := ⟨w.heap.size, 0, none⟩) (by (try simp only []); omega)).trans g0
      have k0 := cell_regrown e0
      have e1 : W2.cell? ⟨w.heap.size, 1, none⟩ = some (.int .u32 x1) := (hW2.cell (p := ⟨w.heap.size, 1, none⟩) (by (try simp only []); omega)).trans g1
      have k1 := cell_regrown e1
      have e2 : W2.cell? ⟨w.heap.size + 1, 0, none⟩ = some (.int .u32 y0) := (hW2.cell (p := ⟨w.heap.size + 1, 0, none⟩) (by (try simp only []); omega)).trans g2
      have k2 := cell_regrown e2
      have e3 : W2.cell? ⟨w.heap.size + 1, 1, none⟩ = some (.int .u32 y1) := (hW2.cell (p := ⟨w.heap.size + 1, 1, none⟩) (by (try simp only []); omega)).trans g3
      have k3 := cell_regrown e3
      have e4 : W2.cell? ⟨w.heap.size + 1 + 1, 0, none⟩ = some (.int .u32 z0) := (hW2.cell (p := ⟨w.heap.size + 1 + 1, 0, none⟩) (by (try simp only []); omega)).trans g4
      have k4 := cell_regrown e4
      have e5 : W2.cell? ⟨w.heap.size + 1 + 1, 1, none⟩ = some (.int .u32 z1) := (hW2.cell (p := ⟨w.heap.size + 1 + 1, 1, none⟩) (by (try simp only []); omega)).trans g5
      have k5 := cell_regrown e5
      repeat (go_big_quiet_step (first | (go_at_call 40; with_reducible exact Calls.regrown_of (m1 _)) | (go_at_call 40; with_reducible exact Calls.regrown_of (m2 _)) | (go_at_call 40; with_reducible exact Calls.regrown_of (m3 _))))
      refine wpQuiet_nil ?_
      rfl
    intro bs w2 hb hF hN
    have hw := chain hw1 (by omega) hb
    obtain ⟨hc, hf, hz⟩ := bcell hb
    have r0 : w2.cell? ⟨w.heap.size, 0, none⟩ = some (.int .u32 x0) := (hc _ _ (by omega)).trans g0
    have r1 : w2.cell? ⟨w.heap.size, 1, none⟩ = some (.int .u32 x1) := (hc _ _ (by omega)).trans g1
    have r2 : w2.cell? ⟨w.heap.size + 1, 0, none⟩ = some (.int .u32 y0) := (hc _ _ (by omega)).trans g2
    have r3 : w2.cell? ⟨w.heap.size + 1, 1, none⟩ = some (.int .u32 y1) := (hc _ _ (by omega)).trans g3
    have r4 : w2.cell? ⟨w.heap.size + 1 + 1, 0, none⟩ = some (.int .u32 z0) := (hc _ _ (by omega)).trans g4
    have r5 : w2.cell? ⟨w.heap.size + 1 + 1, 1, none⟩ = some (.int .u32 z1) := (hc _ _ (by omega)).trans g5
    have m15 := hF (15, .cells #[.int .u32 0, .int .u32 0] 24 (0, 0)) (by simp)
    have m16 := hF (16, .cells #[.int .u32 0, .int .u32 0] 24 (0, 0)) (by simp)
    have m17 := hF (17, .cells #[.int .u32 0, .int .u32 0] 24 (0, 0)) (by simp)
    have n15_16 := hN (15, .cells #[.int .u32 0, .int .u32 0] 24 (0, 0)) (by simp) (16, .cells #[.int .u32 0, .int .u32 0] 24 (0, 0)) (by simp) (by decide)
    have n16_15 := n15_16.symm
    have n15_17 := hN (15, .cells #[.int .u32 0, .int .u32 0] 24 (0, 0)) (by simp) (17, .cells #[.int .u32 0, .int .u32 0] 24 (0, 0)) (by simp) (by decide)
    have n17_15 := n15_17.symm
    have n16_17 := hN (16, .cells #[.int .u32 0, .int .u32 0] 24 (0, 0)) (by simp) (17, .cells #[.int .u32 0, .int .u32 0] 24 (0, 0)) (by simp) (by decide)
    have n17_16 := n16_17.symm
    clear hb hF hN hw1 g0 g1 g2 g3 g4 g5
    simp only [List.map_cons, List.map_nil, List.foldr_cons, List.foldr_nil] at *
    generalize bs 15 = b15 at *
    obtain ⟨m15a, m15b⟩ := m15
    have u15_0 := cell_block (o := 0) (v := .int .u32 0) m15b rfl
    have v15_0 := frozen_block (o := 0) m15b
    have u15_1 := cell_block (o := 1) (v := .int .u32 0) m15b rfl
    have v15_1 := frozen_block (o := 1) m15b
    have l15 := lt_block m15b
    clear m15b
    generalize bs 16 = b16 at *
    obtain ⟨m16a, m16b⟩ := m16
    have u16_0 := cell_block (o := 0) (v := .int .u32 0) m16b rfl
    have v16_0 := frozen_block (o := 0) m16b
    have u16_1 := cell_block (o := 1) (v := .int .u32 0) m16b rfl
    have v16_1 := frozen_block (o := 1) m16b
    have l16 := lt_block m16b
    clear m16b
    generalize bs 17 = b17 at *
    obtain ⟨m17a, m17b⟩ := m17
    have u17_0 := cell_block (o := 0) (v := .int .u32 0) m17b rfl
    have v17_0 := frozen_block (o := 0) m17b
    have u17_1 := cell_block (o := 1) (v := .int .u32 0) m17b rfl
    have v17_1 := frozen_block (o := 1) m17b
    have l17 := lt_block m17b
    clear m17b
    clear bs
    simp only [dstOf, ptr, Act.put, List.getElem?_toArray, List.getElem?_cons_succ, List.getElem?_cons_zero, Option.bind_some, List.setIfInBounds_toArray, List.set_cons_zero, List.set_cons_succ, List.drop_succ_cons, List.drop_zero]
    go_wp2_with fail
    first | refine wp_gen ?_ | refine calls_gen ?_
    intro W1 hW1
    have hw1 : Below w.heap.size w W1 := by rw [hW1]; go_grown
    have hz1 : w2.heap.size ≤ W1.heap.size := by rw [hW1]; go_size
    have g0 : W1.cell? ⟨b15, 0, none⟩ = some (.int .u32 a) := by rw [hW1]; first | go_cell | (go_simp; done) | (simp [hc, hf, hc0, hf0]; done)
    have g1 : W1.cell? ⟨b15, 1, none⟩ = some (.int .u32 b) := by rw [hW1]; first | go_cell | (go_simp; done) | (simp [hc, hf, hc0, hf0]; done)
    have g2 : W1.cell? ⟨b16, 0, none⟩ = some (.int .u32 c) := by rw [hW1]; first | go_cell | (go_simp; done) | (simp [hc, hf, hc0, hf0]; done)
    have g3 : W1.cell? ⟨b16, 1, none⟩ = some (.int .u32 d) := by rw [hW1]; first | go_cell | (go_simp; done) | (simp [hc, hf, hc0, hf0]; done)
    have g4 : W1.cell? ⟨b17, 0, none⟩ = some (.int .u32 g) := by rw [hW1]; first | go_cell | (go_simp; done) | (simp [hc, hf, hc0, hf0]; done)
    have g5 : W1.cell? ⟨b17, 1, none⟩ = some (.int .u32 h) := by rw [hW1]; first | go_cell | (go_simp; done) | (simp [hc, hf, hc0, hf0]; done)
    clear hW1
    have r0 := g0; have r1 := g1; have r2 := g2; have r3 := g3; have r4 := g4; have r5 := g5
    have hws := hw1.size
    (go_at_call 22; with_reducible refine Gives.then (t1 _) ?_; intro w1 hb; have hw := chain (B := w.heap.size) (a := w) (by go_grown) (by go_size) hb; (first | have h0 := chain (h0.trans (by go_grown)) (by go_size) hb | have h0 := hb); obtain ⟨hc, hf, hz⟩ := bcell hb; obtain ⟨hc0, hf0, hz0⟩ := bcell h0; clear hb; (try simp only [World.size_alloc, World.size_setCell, World.size_drew] at hc hf hz hc0 hf0 hz0); (first | (have hy := (hc _ _ (by omega)).trans r0; have r0 := hy; clear hy) | (have hy := (hc _ _ (by omega)).trans (cell_past (by omega) r0); have r0 := hy; clear hy) | skip); (first | (have hy := (hc _ _ (by omega)).trans r1; have r1 := hy; clear hy) | (have hy := (hc _ _ (by omega)).trans (cell_past (by omega) r1); have r1 := hy; clear hy) | skip); (first | (have hy := (hc _ _ (by omega)).trans r2; have r2 := hy; clear hy) | (have hy := (hc _ _ (by omega)).trans (cell_past (by omega) r2); have r2 := hy; clear hy) | skip); (first | (have hy := (hc _ _ (by omega)).trans r3; have r3 := hy; clear hy) | (have hy := (hc _ _ (by omega)).trans (cell_past (by omega) r3); have r3 := hy; clear hy) | skip); (first | (have hy := (hc _ _ (by omega)).trans r4; have r4 := hy; clear hy) | (have hy := (hc _ _ (by omega)).trans (cell_past (by omega) r4); have r4 := hy; clear hy) | skip); (first | (have hy := (hc _ _ (by omega)).trans r5; have r5 := hy; clear hy) | (have hy := (hc _ _ (by omega)).trans (cell_past (by omega) r5); have r5 := hy; clear hy) | skip); (first | (have hy := (hc _ _ (by omega)).trans r6; have r6 := hy; clear hy) | (have hy := (hc _ _ (by omega)).trans (cell_past (by omega) r6); have r6 := hy; clear hy) | skip); (first | (have hy := (hc _ _ (by omega)).trans r7; have r7 := hy; clear hy) | (have hy := (hc _ _ (by omega)).trans (cell_past (by omega) r7); have r7 := hy; clear hy) | skip); (try (have hy : b15 < w1.heap.size := (by omega); have lb15 := hy; clear hy)); (try (have hy : b16 < w1.heap.size := (by omega); have lb16 := hy; clear hy)); (try (have hy : b17 < w1.heap.size := (by omega); have lb17 := hy; clear hy)); (try (have hy : bt < w1.heap.size := (by omega); have lbt := hy; clear hy)); (try have s0 := fun X => cell_past (X := X) lb15 r0); (try have s1 := fun X => cell_past (X := X) lb15 r1); (try have s2 := fun X => cell_past (X := X) lb16 r2); (try have s3 := fun X => cell_past (X := X) lb16 r3); (try have s4 := fun X => cell_past (X := X) lb17 r4); (try have s5 := fun X => cell_past (X := X) lb17 r5); (try have s6 := fun X => cell_past (X := X) lbt r6); (try have s7 := fun X => cell_past (X := X) lbt r7))
    go_wp2_with fail
    (go_at_call 22; with_reducible refine Gives.then (t2 _) ?_; intro w1 hb; have hw := chain (B := w.heap.size) (a := w) (by go_grown) (by go_size) hb; (first | have h0 := chain (h0.trans (by go_grown)) (by go_size) hb | have h0 := hb); obtain ⟨hc, hf, hz⟩ := bcell hb; obtain ⟨hc0, hf0, hz0⟩ := bcell h0; clear hb; (try simp only [World.size_alloc, World.size_setCell, World.size_drew] at hc hf hz hc0 hf0 hz0); (first | (have hy := (hc _ _ (by omega)).trans r0; have r0 := hy; clear hy) | (have hy := (hc _ _ (by omega)).trans (cell_past (by omega) r0); have r0 := hy; clear hy) | skip); (first | (have hy := (hc _ _ (by omega)).trans r1; have r1 := hy; clear hy) | (have hy := (hc _ _ (by omega)).trans (cell_past (by omega) r1); have r1 := hy; clear hy) | skip); (first | (have hy := (hc _ _ (by omega)).trans r2; have r2 := hy; clear hy) | (have hy := (hc _ _ (by omega)).trans (cell_past (by omega) r2); have r2 := hy; clear hy) | skip); (first | (have hy := (hc _ _ (by omega)).trans r3; have r3 := hy; clear hy) | (have hy := (hc _ _ (by omega)).trans (cell_past (by omega) r3); have r3 := hy; clear hy) | skip); (first | (have hy := (hc _ _ (by omega)).trans r4; have r4 := hy; clear hy) | (have hy := (hc _ _ (by omega)).trans (cell_past (by omega) r4); have r4 := hy; clear hy) | skip); (first | (have hy := (hc _ _ (by omega)).trans r5; have r5 := hy; clear hy) | (have hy := (hc _ _ (by omega)).trans (cell_past (by omega) r5); have r5 := hy; clear hy) | skip); (first | (have hy := (hc _ _ (by omega)).trans r6; have r6 := hy; clear hy) | (have hy := (hc _ _ (by omega)).trans (cell_past (by omega) r6); have r6 := hy; clear hy) | skip); (first | (have hy := (hc _ _ (by omega)).trans r7; have r7 := hy; clear hy) | (have hy := (hc _ _ (by omega)).trans (cell_past (by omega) r7); have r7 := hy; clear hy) | skip); (try (have hy : b15 < w1.heap.size := (by omega); have lb15 := hy; clear hy)); (try (have hy : b16 < w1.heap.size := (by omega); have lb16 := hy; clear hy)); (try (have hy : b17 < w1.heap.size := (by omega); have lb17 := hy; clear hy)); (try (have hy : bt < w1.heap.size := (by omega); have lbt := hy; clear hy)); (try have s0 := fun X => cell_past (X := X) lb15 r0); (try have s1 := fun X => cell_past (X := X) lb15 r1); (try have s2 := fun X => cell_past (X := X) lb16 r2); (try have s3 := fun X => cell_past (X := X) lb16 r3); (try have s4 := fun X => cell_past (X := X) lb17 r4); (try have s5 := fun X => cell_past (X := X) lb17 r5); (try have s6 := fun X => cell_past (X := X) lbt r6); (try have s7 := fun X => cell_past (X := X) lbt r7))
    obtain ⟨bt, hbt, lbt, hx⟩ := cell_fresh hc hz; have r6 := hx 0; have r7 := hx 1; clear hx; simp only [World.cell?_alloc_at, List.getElem?_toArray, List.getElem?_cons_zero, List.getElem?_cons_succ] at r6 r7; simp only [hbt]; have s6 := fun X => cell_past (X := X) lbt r6; have s7 := fun X => cell_past (X := X) lbt r7
    go_wp2_with fail
    rcases hS with rfl | ⟨rfl, rfl⟩
    all_goals
      go_wp2_with (first | (go_at_call 24; with_reducible refine Gives.then (sa3 _) ?_; intro w1 hb; have hw := chain (B := w.heap.size) (a := w) (by go_grown) (by go_size) hb; (first | have h0 := chain (h0.trans (by go_grown)) (by go_size) hb | have h0 := hb); obtain ⟨hc, hf, hz⟩ := bcell hb; obtain ⟨hc0, hf0, hz0⟩ := bcell h0; clear hb; (try simp only [World.size_alloc, World.size_setCell, World.size_drew] at hc hf hz hc0 hf0 hz0); (first | (have hy := (hc _ _ (by omega)).trans r0; have r0 := hy; clear hy) | (have hy := (hc _ _ (by omega)).trans (cell_past (by omega) r0); have r0 := hy; clear hy) | skip); (first | (have hy := (hc _ _ (by omega)).trans r1; have r1 := hy; clear hy) | (have hy := (hc _ _ (by omega)).trans (cell_past (by omega) r1); have r1 := hy; clear hy) | skip); (first | (have hy := (hc _ _ (by omega)).trans r2; have r2 := hy; clear hy) | (have hy := (hc _ _ (by omega)).trans (cell_past (by omega) r2); have r2 := hy; clear hy) | skip); (first | (have hy := (hc _ _ (by omega)).trans r3; have r3 := hy; clear hy) | (have hy := (hc _ _ (by omega)).trans (cell_past (by omega) r3); have r3 := hy; clear hy) | skip); (first | (have hy := (hc _ _ (by omega)).trans r4; have r4 := hy; clear hy) | (have hy := (hc _ _ (by omega)).trans (cell_past (by omega) r4); have r4 := hy; clear hy) | skip); (first | (have hy := (hc _ _ (by omega)).trans r5; have r5 := hy; clear hy) | (have hy := (hc _ _ (by omega)).trans (cell_past (by omega) r5); have r5 := hy; clear hy) | skip); (first | (have hy := (hc _ _ (by omega)).trans r6; have r6 := hy; clear hy) | (have hy := (hc _ _ (by omega)).trans (cell_past (by omega) r6); have r6 := hy; clear hy) | skip); (first | (have hy := (hc _ _ (by omega)).trans r7; have r7 := hy; clear hy) | (have hy := (hc _ _ (by omega)).trans (cell_past (by omega) r7); have r7 := hy; clear hy) | skip); (try (have hy : b15 < w1.heap.size := (by omega); have lb15 := hy; clear hy)); (try (have hy : b16 < w1.heap.size := (by omega); have lb16 := hy; clear hy)); (try (have hy : b17 < w1.heap.size := (by omega); have lb17 := hy; clear hy)); (try (have hy : bt < w1.heap.size := (by omega); have lbt := hy; clear hy)); (try have s0 := fun X => cell_past (X := X) lb15 r0); (try have s1 := fun X => cell_past (X := X) lb15 r1); (try have s2 := fun X => cell_past (X := X) lb16 r2); (try have s3 := fun X => cell_past (X := X) lb16 r3); (try have s4 := fun X => cell_past (X := X) lb17 r4); (try have s5 := fun X => cell_past (X := X) lb17 r5); (try have s6 := fun X => cell_past (X := X) lbt r6); (try have s7 := fun X => cell_past (X := X) lbt r7)) | (go_at_call 24; with_reducible refine Gives.then (sa4 _) ?_; intro w1 hb; have hw := chain (B := w.heap.size) (a := w) (by go_grown) (by go_size) hb; (first | have h0 := chain (h0.trans (by go_grown)) (by go_size) hb | have h0 := hb); obtain ⟨hc, hf, hz⟩ := bcell hb; obtain ⟨hc0, hf0, hz0⟩ := bcell h0; clear hb; (try simp only [World.size_alloc, World.size_setCell, World.size_drew] at hc hf hz hc0 hf0 hz0); (first | (have hy := (hc _ _ (by omega)).trans r0; have r0 := hy; clear hy) | (have hy := (hc _ _ (by omega)).trans (cell_past (by omega) r0); have r0 := hy; clear hy) | skip); (first | (have hy := (hc _ _ (by omega)).trans r1; have r1 := hy; clear hy) | (have hy := (hc _ _ (by omega)).trans (cell_past (by omega) r1); have r1 := hy; clear hy) | skip); (first | (have hy := (hc _ _ (by omega)).trans r2; have r2 := hy; clear hy) | (have hy := (hc _ _ (by omega)).trans (cell_past (by omega) r2); have r2 := hy; clear hy) | skip); (first | (have hy := (hc _ _ (by omega)).trans r3; have r3 := hy; clear hy) | (have hy := (hc _ _ (by omega)).trans (cell_past (by omega) r3); have r3 := hy; clear hy) | skip); (first | (have hy := (hc _ _ (by omega)).trans r4; have r4 := hy; clear hy) | (have hy := (hc _ _ (by omega)).trans (cell_past (by omega) r4); have r4 := hy; clear hy) | skip); (first | (have hy := (hc _ _ (by omega)).trans r5; have r5 := hy; clear hy) | (have hy := (hc _ _ (by omega)).trans (cell_past (by omega) r5); have r5 := hy; clear hy) | skip); (first | (have hy := (hc _ _ (by omega)).trans r6; have r6 := hy; clear hy) | (have hy := (hc _ _ (by omega)).trans (cell_past (by omega) r6); have r6 := hy; clear hy) | skip); (first | (have hy := (hc _ _ (by omega)).trans r7; have r7 := hy; clear hy) | (have hy := (hc _ _ (by omega)).trans (cell_past (by omega) r7); have r7 := hy; clear hy) | skip); (try (have hy : b15 < w1.heap.size := (by omega); have lb15 := hy; clear hy)); (try (have hy : b16 < w1.heap.size := (by omega); have lb16 := hy; clear hy)); (try (have hy : b17 < w1.heap.size := (by omega); have lb17 := hy; clear hy)); (try (have hy : bt < w1.heap.size := (by omega); have lbt := hy; clear hy)); (try have s0 := fun X => cell_past (X := X) lb15 r0); (try have s1 := fun X => cell_past (X := X) lb15 r1); (try have s2 := fun X => cell_past (X := X) lb16 r2); (try have s3 := fun X => cell_past (X := X) lb16 r3); (try have s4 := fun X => cell_past (X := X) lb17 r4); (try have s5 := fun X => cell_past (X := X) lb17 r5); (try have s6 := fun X => cell_past (X := X) lbt r6); (try have s7 := fun X => cell_past (X := X) lbt r7)) | (go_at_call 21; with_reducible refine Gives.then (works_any _ ?_ ?_) ?_; (next => (exact Tab.below (n₀ := w.heap.size) (by go_grown) ht hT)); (next => (first | go_size | omega)); intro w1 hb; have hw := chain (B := w.heap.size) (a := w) (by go_grown) (by go_size) hb; (first | have h0 := chain (h0.trans (by go_grown)) (by go_size) hb | have h0 := hb); obtain ⟨hc, hf, hz⟩ := bcell hb; obtain ⟨hc0, hf0, hz0⟩ := bcell h0; clear hb; (try simp only [World.size_alloc, World.size_setCell, World.size_drew] at hc hf hz hc0 hf0 hz0); (first | (have hy := (hc _ _ (by omega)).trans r0; have r0 := hy; clear hy) | (have hy := (hc _ _ (by omega)).trans (cell_past (by omega) r0); have r0 := hy; clear hy) | skip); (first | (have hy := (hc _ _ (by omega)).trans r1; have r1 := hy; clear hy) | (have hy := (hc _ _ (by omega)).trans (cell_past (by omega) r1); have r1 := hy; clear hy) | skip); (first | (have hy := (hc _ _ (by omega)).trans r2; have r2 := hy; clear hy) | (have hy := (hc _ _ (by omega)).trans (cell_past (by omega) r2); have r2 := hy; clear hy) | skip); (first | (have hy := (hc _ _ (by omega)).trans r3; have r3 := hy; clear hy) | (have hy := (hc _ _ (by omega)).trans (cell_past (by omega) r3); have r3 := hy; clear hy) | skip); (first | (have hy := (hc _ _ (by omega)).trans r4; have r4 := hy; clear hy) | (have hy := (hc _ _ (by omega)).trans (cell_past (by omega) r4); have r4 := hy; clear hy) | skip); (first | (have hy := (hc _ _ (by omega)).trans r5; have r5 := hy; clear hy) | (have hy := (hc _ _ (by omega)).trans (cell_past (by omega) r5); have r5 := hy; clear hy) | skip); (first | (have hy := (hc _ _ (by omega)).trans r6; have r6 := hy; clear hy) | (have hy := (hc _ _ (by omega)).trans (cell_past (by omega) r6); have r6 := hy; clear hy) | skip); (first | (have hy := (hc _ _ (by omega)).trans r7; have r7 := hy; clear hy) | (have hy := (hc _ _ (by omega)).trans (cell_past (by omega) r7); have r7 := hy; clear hy) | skip); (try (have hy : b15 < w1.heap.size := (by omega); have lb15 := hy; clear hy)); (try (have hy : b16 < w1.heap.size := (by omega); have lb16 := hy; clear hy)); (try (have hy : b17 < w1.heap.size := (by omega); have lb17 := hy; clear hy)); (try (have hy : bt < w1.heap.size := (by omega); have lbt := hy; clear hy)); (try have s0 := fun X => cell_past (X := X) lb15 r0); (try have s1 := fun X => cell_past (X := X) lb15 r1); (try have s2 := fun X => cell_past (X := X) lb16 r2); (try have s3 := fun X => cell_past (X := X) lb16 r3); (try have s4 := fun X => cell_past (X := X) lb17 r4); (try have s5 := fun X => cell_past (X := X) lb17 r5); (try have s6 := fun X => cell_past (X := X) lbt r6); (try have s7 := fun X => cell_past (X := X) lbt r7)))
      go_returns
      exact ⟨rfl, hw⟩
  · subst hX
    go_enter Tryd.func8, Tryd.ntmps8
    go_wp2_with fail
    refine wp_gen ?_
    intro W1 hW1
    have hw1 : Below w.heap.size w W1 := by rw [hW1]; go_grown
    have hz1 : w.heap.size + 1 + 1 + 1 ≤ W1.heap.size := by rw [hW1]; go_size
    have g0 : W1.cell? ⟨w.heap.size, 0, none⟩ = some (.int .u32 x0) := by rw [hW1]; first | assumption | go_cell | (go_simp; done) | (simp [hc, hf, hc0, hf0]; done) | (simp [*]; done)
    have g1 : W1.cell? ⟨w.heap.size, 1, none⟩ = some (.int .u32 x1) := by rw [hW1]; first | assumption | go_cell | (go_simp; done) | (simp [hc, hf, hc0, hf0]; done) | (simp [*]; done)
    have g2 : W1.cell? ⟨w.heap.size + 1, 0, none⟩ = some (.int .u32 y0) := by rw [hW1]; first | assumption | go_cell | (go_simp; done) | (simp [hc, hf, hc0, hf0]; done) | (simp [*]; done)
    have g3 : W1.cell? ⟨w.heap.size + 1, 1, none⟩ = some (.int .u32 y1) := by rw [hW1]; first | assumption | go_cell | (go_simp; done) | (simp [hc, hf, hc0, hf0]; done) | (simp [*]; done)
    have g4 : W1.cell? ⟨w.heap.size + 1 + 1, 0, none⟩ = some (.int .u32 z0) := by rw [hW1]; first | assumption | go_cell | (go_simp; done) | (simp [hc, hf, hc0, hf0]; done) | (simp [*]; done)
    have g5 : W1.cell? ⟨w.heap.size + 1 + 1, 1, none⟩ = some (.int .u32 z1) := by rw [hW1]; first | assumption | go_cell | (go_simp; done) | (simp [hc, hf, hc0, hf0]; done) | (simp [*]; done)
    clear hW1
    refine wp_region_makers 18 [(15, .cells #[.int .u32 0, .int .u32 0] 24 (0, 0)), (16, .cells #[.int .u32 0, .int .u32 0] 24 (0, 0)), (17, .cells #[.int .u32 0, .int .u32 0] 24 (0, 0))] [0, 1, 2, 3, 4, 5, 6, 7, 8, 9, 10, 11, 12, 13, 14, 15, 16, 17] ?A2 _ (by kernel_rfl) (by kernel_rfl) ?hrun2 (by simp [quiets, mkOf]; rfl) ?walk2 ?fin2
    case hrun2 =>
      intro x hx
      simp only [List.mem_cons, List.not_mem_nil, or_false] at hx
      rcases hx with rfl | rfl | rfl
      all_goals exact ⟨_, rfl, rfl, fun a w => by simp [go_sem, ptr]⟩
    case walk2 =>
      intro W2 hW2
      have e0 : W2.cell? ⟨w.heap.size, 0, none⟩ = some (.int .u32 x0) := (hW2.cell (p := ⟨w.heap.size, 0, none⟩) (by (try simp only []); omega)).trans g0
      have k0 := cell_regrown e0
      have e1 : W2.cell? ⟨w.heap.size, 1, none⟩ = some (.int .u32 x1) := (hW2.cell (p := ⟨w.heap.size, 1, none⟩) (by (try simp only []); omega)).trans g1
      have k1 := cell_regrown e1
      have e2 : W2.cell? ⟨w.heap.size + 1, 0, none⟩ = some (.int .u32 y0) := (hW2.cell (p := ⟨w.heap.size + 1, 0, none⟩) (by (try simp only []); omega)).trans g2
      have k2 := cell_regrown e2
      have e3 : W2.cell? ⟨w.heap.size + 1, 1, none⟩ = some (.int .u32 y1) := (hW2.cell (p := ⟨w.heap.size + 1, 1, none⟩) (by (try simp only []); omega)).trans g3
      have k3 := cell_regrown e3
      have e4 : W2.cell? ⟨w.heap.size + 1 + 1, 0, none⟩ = some (.int .u32 z0) := (hW2.cell (p := ⟨w.heap.size + 1 + 1, 0, none⟩) (by (try simp only []); omega)).trans g4
      have k4 := cell_regrown e4
      have e5 : W2.cell? ⟨w.heap.size + 1 + 1, 1, none⟩ = some (.int .u32 z1) := (hW2.cell (p := ⟨w.heap.size + 1 + 1, 1, none⟩) (by (try simp only []); omega)).trans g5
      have k5 := cell_regrown e5
      repeat (go_big_quiet_step (first | (go_at_call 40; with_reducible exact Calls.regrown_of (m1 _)) | (go_at_call 40; with_reducible exact Calls.regrown_of (m2 _)) | (go_at_call 40; with_reducible exact Calls.regrown_of (m3 _))))
      refine wpQuiet_nil ?_
      rfl
    intro bs w2 hb hF hN
    have hw := chain hw1 (by omega) hb
    obtain ⟨hc, hf, hz⟩ := bcell hb
    have r0 : w2.cell? ⟨w.heap.size, 0, none⟩ = some (.int .u32 x0) := (hc _ _ (by omega)).trans g0
    have r1 : w2.cell? ⟨w.heap.size, 1, none⟩ = some (.int .u32 x1) := (hc _ _ (by omega)).trans g1
    have r2 : w2.cell? ⟨w.heap.size + 1, 0, none⟩ = some (.int .u32 y0) := (hc _ _ (by omega)).trans g2
    have r3 : w2.cell? ⟨w.heap.size + 1, 1, none⟩ = some (.int .u32 y1) := (hc _ _ (by omega)).trans g3
    have r4 : w2.cell? ⟨w.heap.size + 1 + 1, 0, none⟩ = some (.int .u32 z0) := (hc _ _ (by omega)).trans g4
    have r5 : w2.cell? ⟨w.heap.size + 1 + 1, 1, none⟩ = some (.int .u32 z1) := (hc _ _ (by omega)).trans g5
    have m15 := hF (15, .cells #[.int .u32 0, .int .u32 0] 24 (0, 0)) (by simp)
    have m16 := hF (16, .cells #[.int .u32 0, .int .u32 0] 24 (0, 0)) (by simp)
    have m17 := hF (17, .cells #[.int .u32 0, .int .u32 0] 24 (0, 0)) (by simp)
    have n15_16 := hN (15, .cells #[.int .u32 0, .int .u32 0] 24 (0, 0)) (by simp) (16, .cells #[.int .u32 0, .int .u32 0] 24 (0, 0)) (by simp) (by decide)
    have n16_15 := n15_16.symm
    have n15_17 := hN (15, .cells #[.int .u32 0, .int .u32 0] 24 (0, 0)) (by simp) (17, .cells #[.int .u32 0, .int .u32 0] 24 (0, 0)) (by simp) (by decide)
    have n17_15 := n15_17.symm
    have n16_17 := hN (16, .cells #[.int .u32 0, .int .u32 0] 24 (0, 0)) (by simp) (17, .cells #[.int .u32 0, .int .u32 0] 24 (0, 0)) (by simp) (by decide)
    have n17_16 := n16_17.symm
    clear hb hF hN hw1 g0 g1 g2 g3 g4 g5
    simp only [List.map_cons, List.map_nil, List.foldr_cons, List.foldr_nil] at *
    generalize bs 15 = b15 at *
    obtain ⟨m15a, m15b⟩ := m15
    have u15_0 := cell_block (o := 0) (v := .int .u32 0) m15b rfl
    have v15_0 := frozen_block (o := 0) m15b
    have u15_1 := cell_block (o := 1) (v := .int .u32 0) m15b rfl
    have v15_1 := frozen_block (o := 1) m15b
    have l15 := lt_block m15b
    clear m15b
    generalize bs 16 = b16 at *
    obtain ⟨m16a, m16b⟩ := m16
    have u16_0 := cell_block (o := 0) (v := .int .u32 0) m16b rfl
    have v16_0 := frozen_block (o := 0) m16b
    have u16_1 := cell_block (o := 1) (v := .int .u32 0) m16b rfl
    have v16_1 := frozen_block (o := 1) m16b
    have l16 := lt_block m16b
    clear m16b
    generalize bs 17 = b17 at *
    obtain ⟨m17a, m17b⟩ := m17
    have u17_0 := cell_block (o := 0) (v := .int .u32 0) m17b rfl
    have v17_0 := frozen_block (o := 0) m17b
    have u17_1 := cell_block (o := 1) (v := .int .u32 0) m17b rfl
    have v17_1 := frozen_block (o := 1) m17b
    have l17 := lt_block m17b
    clear m17b
    clear bs
    simp only [dstOf, ptr, Act.put, List.getElem?_toArray, List.getElem?_cons_succ, List.getElem?_cons_zero, Option.bind_some, List.setIfInBounds_toArray, List.set_cons_zero, List.set_cons_succ, List.drop_succ_cons, List.drop_zero]
    go_wp2_with fail
    first | refine wp_gen ?_ | refine calls_gen ?_
    intro W1 hW1
    have hw1 : Below w.heap.size w W1 := by rw [hW1]; go_grown
    have hz1 : w2.heap.size ≤ W1.heap.size := by rw [hW1]; go_size
    have g0 : W1.cell? ⟨b15, 0, none⟩ = some (.int .u32 a) := by rw [hW1]; first | go_cell | (go_simp; done) | (simp [hc, hf, hc0, hf0]; done)
    have g1 : W1.cell? ⟨b15, 1, none⟩ = some (.int .u32 b) := by rw [hW1]; first | go_cell | (go_simp; done) | (simp [hc, hf, hc0, hf0]; done)
    have g2 : W1.cell? ⟨b16, 0, none⟩ = some (.int .u32 c) := by rw [hW1]; first | go_cell | (go_simp; done) | (simp [hc, hf, hc0, hf0]; done)
    have g3 : W1.cell? ⟨b16, 1, none⟩ = some (.int .u32 d) := by rw [hW1]; first | go_cell | (go_simp; done) | (simp [hc, hf, hc0, hf0]; done)
    have g4 : W1.cell? ⟨b17, 0, none⟩ = some (.int .u32 g) := by rw [hW1]; first | go_cell | (go_simp; done) | (simp [hc, hf, hc0, hf0]; done)
    have g5 : W1.cell? ⟨b17, 1, none⟩ = some (.int .u32 h) := by rw [hW1]; first | go_cell | (go_simp; done) | (simp [hc, hf, hc0, hf0]; done)
    clear hW1
    have r0 := g0; have r1 := g1; have r2 := g2; have r3 := g3; have r4 := g4; have r5 := g5
    have hws := hw1.size
    (go_at_call 22; with_reducible refine Gives.then (t1 _) ?_; intro w1 hb; have hw := chain (B := w.heap.size) (a := w) (by go_grown) (by go_size) hb; (first | have h0 := chain (h0.trans (by go_grown)) (by go_size) hb | have h0 := hb); obtain ⟨hc, hf, hz⟩ := bcell hb; obtain ⟨hc0, hf0, hz0⟩ := bcell h0; clear hb; (try simp only [World.size_alloc, World.size_setCell, World.size_drew] at hc hf hz hc0 hf0 hz0); (first | (have hy := (hc _ _ (by omega)).trans r0; have r0 := hy; clear hy) | (have hy := (hc _ _ (by omega)).trans (cell_past (by omega) r0); have r0 := hy; clear hy) | skip); (first | (have hy := (hc _ _ (by omega)).trans r1; have r1 := hy; clear hy) | (have hy := (hc _ _ (by omega)).trans (cell_past (by omega) r1); have r1 := hy; clear hy) | skip); (first | (have hy := (hc _ _ (by omega)).trans r2; have r2 := hy; clear hy) | (have hy := (hc _ _ (by omega)).trans (cell_past (by omega) r2); have r2 := hy; clear hy) | skip); (first | (have hy := (hc _ _ (by omega)).trans r3; have r3 := hy; clear hy) | (have hy := (hc _ _ (by omega)).trans (cell_past (by omega) r3); have r3 := hy; clear hy) | skip); (first | (have hy := (hc _ _ (by omega)).trans r4; have r4 := hy; clear hy) | (have hy := (hc _ _ (by omega)).trans (cell_past (by omega) r4); have r4 := hy; clear hy) | skip); (first | (have hy := (hc _ _ (by omega)).trans r5; have r5 := hy; clear hy) | (have hy := (hc _ _ (by omega)).trans (cell_past (by omega) r5); have r5 := hy; clear hy) | skip); (first | (have hy := (hc _ _ (by omega)).trans r6; have r6 := hy; clear hy) | (have hy := (hc _ _ (by omega)).trans (cell_past (by omega) r6); have r6 := hy; clear hy) | skip); (first | (have hy := (hc _ _ (by omega)).trans r7; have r7 := hy; clear hy) | (have hy := (hc _ _ (by omega)).trans (cell_past (by omega) r7); have r7 := hy; clear hy) | skip); (try (have hy : b15 < w1.heap.size := (by omega); have lb15 := hy; clear hy)); (try (have hy : b16 < w1.heap.size := (by omega); have lb16 := hy; clear hy)); (try (have hy : b17 < w1.heap.size := (by omega); have lb17 := hy; clear hy)); (try (have hy : bt < w1.heap.size := (by omega); have lbt := hy; clear hy)); (try have s0 := fun X => cell_past (X := X) lb15 r0); (try have s1 := fun X => cell_past (X := X) lb15 r1); (try have s2 := fun X => cell_past (X := X) lb16 r2); (try have s3 := fun X => cell_past (X := X) lb16 r3); (try have s4 := fun X => cell_past (X := X) lb17 r4); (try have s5 := fun X => cell_past (X := X) lb17 r5); (try have s6 := fun X => cell_past (X := X) lbt r6); (try have s7 := fun X => cell_past (X := X) lbt r7))
    go_wp2_with fail
    (go_at_call 22; with_reducible refine Gives.then (t2 _) ?_; intro w1 hb; have hw := chain (B := w.heap.size) (a := w) (by go_grown) (by go_size) hb; (first | have h0 := chain (h0.trans (by go_grown)) (by go_size) hb | have h0 := hb); obtain ⟨hc, hf, hz⟩ := bcell hb; obtain ⟨hc0, hf0, hz0⟩ := bcell h0; clear hb; (try simp only [World.size_alloc, World.size_setCell, World.size_drew] at hc hf hz hc0 hf0 hz0); (first | (have hy := (hc _ _ (by omega)).trans r0; have r0 := hy; clear hy) | (have hy := (hc _ _ (by omega)).trans (cell_past (by omega) r0); have r0 := hy; clear hy) | skip); (first | (have hy := (hc _ _ (by omega)).trans r1; have r1 := hy; clear hy) | (have hy := (hc _ _ (by omega)).trans (cell_past (by omega) r1); have r1 := hy; clear hy) | skip); (first | (have hy := (hc _ _ (by omega)).trans r2; have r2 := hy; clear hy) | (have hy := (hc _ _ (by omega)).trans (cell_past (by omega) r2); have r2 := hy; clear hy) | skip); (first | (have hy := (hc _ _ (by omega)).trans r3; have r3 := hy; clear hy) | (have hy := (hc _ _ (by omega)).trans (cell_past (by omega) r3); have r3 := hy; clear hy) | skip); (first | (have hy := (hc _ _ (by omega)).trans r4; have r4 := hy; clear hy) | (have hy := (hc _ _ (by omega)).trans (cell_past (by omega) r4); have r4 := hy; clear hy) | skip); (first | (have hy := (hc _ _ (by omega)).trans r5; have r5 := hy; clear hy) | (have hy := (hc _ _ (by omega)).trans (cell_past (by omega) r5); have r5 := hy; clear hy) | skip); (first | (have hy := (hc _ _ (by omega)).trans r6; have r6 := hy; clear hy) | (have hy := (hc _ _ (by omega)).trans (cell_past (by omega) r6); have r6 := hy; clear hy) | skip); (first | (have hy := (hc _ _ (by omega)).trans r7; have r7 := hy; clear hy) | (have hy := (hc _ _ (by omega)).trans (cell_past (by omega) r7); have r7 := hy; clear hy) | skip); (try (have hy : b15 < w1.heap.size := (by omega); have lb15 := hy; clear hy)); (try (have hy : b16 < w1.heap.size := (by omega); have lb16 := hy; clear hy)); (try (have hy : b17 < w1.heap.size := (by omega); have lb17 := hy; clear hy)); (try (have hy : bt < w1.heap.size := (by omega); have lbt := hy; clear hy)); (try have s0 := fun X => cell_past (X := X) lb15 r0); (try have s1 := fun X => cell_past (X := X) lb15 r1); (try have s2 := fun X => cell_past (X := X) lb16 r2); (try have s3 := fun X => cell_past (X := X) lb16 r3); (try have s4 := fun X => cell_past (X := X) lb17 r4); (try have s5 := fun X => cell_past (X := X) lb17 r5); (try have s6 := fun X => cell_past (X := X) lbt r6); (try have s7 := fun X => cell_past (X := X) lbt r7))
    obtain ⟨bt, hbt, lbt, hx⟩ := cell_fresh hc hz; have r6 := hx 0; have r7 := hx 1; clear hx; simp only [World.cell?_alloc_at, List.getElem?_toArray, List.getElem?_cons_zero, List.getElem?_cons_succ] at r6 r7; simp only [hbt]; have s6 := fun X => cell_past (X := X) lbt r6; have s7 := fun X => cell_past (X := X) lbt r7
    go_wp2_with fail
    rcases hS with rfl | ⟨rfl, rfl⟩
    all_goals
      go_wp2_with (first | (go_at_call 24; with_reducible refine Gives.then (sa3 _) ?_; intro w1 hb; have hw := chain (B := w.heap.size) (a := w) (by go_grown) (by go_size) hb; (first | have h0 := chain (h0.trans (by go_grown)) (by go_size) hb | have h0 := hb); obtain ⟨hc, hf, hz⟩ := bcell hb; obtain ⟨hc0, hf0, hz0⟩ := bcell h0; clear hb; (try simp only [World.size_alloc, World.size_setCell, World.size_drew] at hc hf hz hc0 hf0 hz0); (first | (have hy := (hc _ _ (by omega)).trans r0; have r0 := hy; clear hy) | (have hy := (hc _ _ (by omega)).trans (cell_past (by omega) r0); have r0 := hy; clear hy) | skip); (first | (have hy := (hc _ _ (by omega)).trans r1; have r1 := hy; clear hy) | (have hy := (hc _ _ (by omega)).trans (cell_past (by omega) r1); have r1 := hy; clear hy) | skip); (first | (have hy := (hc _ _ (by omega)).trans r2; have r2 := hy; clear hy) | (have hy := (hc _ _ (by omega)).trans (cell_past (by omega) r2); have r2 := hy; clear hy) | skip); (first | (have hy := (hc _ _ (by omega)).trans r3; have r3 := hy; clear hy) | (have hy := (hc _ _ (by omega)).trans (cell_past (by omega) r3); have r3 := hy; clear hy) | skip); (first | (have hy := (hc _ _ (by omega)).trans r4; have r4 := hy; clear hy) | (have hy := (hc _ _ (by omega)).trans (cell_past (by omega) r4); have r4 := hy; clear hy) | skip); (first | (have hy := (hc _ _ (by omega)).trans r5; have r5 := hy; clear hy) | (have hy := (hc _ _ (by omega)).trans (cell_past (by omega) r5); have r5 := hy; clear hy) | skip); (first | (have hy := (hc _ _ (by omega)).trans r6; have r6 := hy; clear hy) | (have hy := (hc _ _ (by omega)).trans (cell_past (by omega) r6); have r6 := hy; clear hy) | skip); (first | (have hy := (hc _ _ (by omega)).trans r7; have r7 := hy; clear hy) | (have hy := (hc _ _ (by omega)).trans (cell_past (by omega) r7); have r7 := hy; clear hy) | skip); (try (have hy : b15 < w1.heap.size := (by omega); have lb15 := hy; clear hy)); (try (have hy : b16 < w1.heap.size := (by omega); have lb16 := hy; clear hy)); (try (have hy : b17 < w1.heap.size := (by omega); have lb17 := hy; clear hy)); (try (have hy : bt < w1.heap.size := (by omega); have lbt := hy; clear hy)); (try have s0 := fun X => cell_past (X := X) lb15 r0); (try have s1 := fun X => cell_past (X := X) lb15 r1); (try have s2 := fun X => cell_past (X := X) lb16 r2); (try have s3 := fun X => cell_past (X := X) lb16 r3); (try have s4 := fun X => cell_past (X := X) lb17 r4); (try have s5 := fun X => cell_past (X := X) lb17 r5); (try have s6 := fun X => cell_past (X := X) lbt r6); (try have s7 := fun X => cell_past (X := X) lbt r7)) | (go_at_call 24; with_reducible refine Gives.then (sa4 _) ?_; intro w1 hb; have hw := chain (B := w.heap.size) (a := w) (by go_grown) (by go_size) hb; (first | have h0 := chain (h0.trans (by go_grown)) (by go_size) hb | have h0 := hb); obtain ⟨hc, hf, hz⟩ := bcell hb; obtain ⟨hc0, hf0, hz0⟩ := bcell h0; clear hb; (try simp only [World.size_alloc, World.size_setCell, World.size_drew] at hc hf hz hc0 hf0 hz0); (first | (have hy := (hc _ _ (by omega)).trans r0; have r0 := hy; clear hy) | (have hy := (hc _ _ (by omega)).trans (cell_past (by omega) r0); have r0 := hy; clear hy) | skip); (first | (have hy := (hc _ _ (by omega)).trans r1; have r1 := hy; clear hy) | (have hy := (hc _ _ (by omega)).trans (cell_past (by omega) r1); have r1 := hy; clear hy) | skip); (first | (have hy := (hc _ _ (by omega)).trans r2; have r2 := hy; clear hy) | (have hy := (hc _ _ (by omega)).trans (cell_past (by omega) r2); have r2 := hy; clear hy) | skip); (first | (have hy := (hc _ _ (by omega)).trans r3; have r3 := hy; clear hy) | (have hy := (hc _ _ (by omega)).trans (cell_past (by omega) r3); have r3 := hy; clear hy) | skip); (first | (have hy := (hc _ _ (by omega)).trans r4; have r4 := hy; clear hy) | (have hy := (hc _ _ (by omega)).trans (cell_past (by omega) r4); have r4 := hy; clear hy) | skip); (first | (have hy := (hc _ _ (by omega)).trans r5; have r5 := hy; clear hy) | (have hy := (hc _ _ (by omega)).trans (cell_past (by omega) r5); have r5 := hy; clear hy) | skip); (first | (have hy := (hc _ _ (by omega)).trans r6; have r6 := hy; clear hy) | (have hy := (hc _ _ (by omega)).trans (cell_past (by omega) r6); have r6 := hy; clear hy) | skip); (first | (have hy := (hc _ _ (by omega)).trans r7; have r7 := hy; clear hy) | (have hy := (hc _ _ (by omega)).trans (cell_past (by omega) r7); have r7 := hy; clear hy) | skip); (try (have hy : b15 < w1.heap.size := (by omega); have lb15 := hy; clear hy)); (try (have hy : b16 < w1.heap.size := (by omega); have lb16 := hy; clear hy)); (try (have hy : b17 < w1.heap.size := (by omega); have lb17 := hy; clear hy)); (try (have hy : bt < w1.heap.size := (by omega); have lbt := hy; clear hy)); (try have s0 := fun X => cell_past (X := X) lb15 r0); (try have s1 := fun X => cell_past (X := X) lb15 r1); (try have s2 := fun X => cell_past (X := X) lb16 r2); (try have s3 := fun X => cell_past (X := X) lb16 r3); (try have s4 := fun X => cell_past (X := X) lb17 r4); (try have s5 := fun X => cell_past (X := X) lb17 r5); (try have s6 := fun X => cell_past (X := X) lbt r6); (try have s7 := fun X => cell_past (X := X) lbt r7)) | (go_at_call 21; with_reducible refine Gives.then (works_any _ ?_ ?_) ?_; (next => (exact Tab.below (n₀ := w.heap.size) (by go_grown) ht hT)); (next => (first | go_size | omega)); intro w1 hb; have hw := chain (B := w.heap.size) (a := w) (by go_grown) (by go_size) hb; (first | have h0 := chain (h0.trans (by go_grown)) (by go_size) hb | have h0 := hb); obtain ⟨hc, hf, hz⟩ := bcell hb; obtain ⟨hc0, hf0, hz0⟩ := bcell h0; clear hb; (try simp only [World.size_alloc, World.size_setCell, World.size_drew] at hc hf hz hc0 hf0 hz0); (first | (have hy := (hc _ _ (by omega)).trans r0; have r0 := hy; clear hy) | (have hy := (hc _ _ (by omega)).trans (cell_past (by omega) r0); have r0 := hy; clear hy) | skip); (first | (have hy := (hc _ _ (by omega)).trans r1; have r1 := hy; clear hy) | (have hy := (hc _ _ (by omega)).trans (cell_past (by omega) r1); have r1 := hy; clear hy) | skip); (first | (have hy := (hc _ _ (by omega)).trans r2; have r2 := hy; clear hy) | (have hy := (hc _ _ (by omega)).trans (cell_past (by omega) r2); have r2 := hy; clear hy) | skip); (first | (have hy := (hc _ _ (by omega)).trans r3; have r3 := hy; clear hy) | (have hy := (hc _ _ (by omega)).trans (cell_past (by omega) r3); have r3 := hy; clear hy) | skip); (first | (have hy := (hc _ _ (by omega)).trans r4; have r4 := hy; clear hy) | (have hy := (hc _ _ (by omega)).trans (cell_past (by omega) r4); have r4 := hy; clear hy) | skip); (first | (have hy := (hc _ _ (by omega)).trans r5; have r5 := hy; clear hy) | (have hy := (hc _ _ (by omega)).trans (cell_past (by omega) r5); have r5 := hy; clear hy) | skip); (first | (have hy := (hc _ _ (by omega)).trans r6; have r6 := hy; clear hy) | (have hy := (hc _ _ (by omega)).trans (cell_past (by omega) r6); have r6 := hy; clear hy) | skip); (first | (have hy := (hc _ _ (by omega)).trans r7; have r7 := hy; clear hy) | (have hy := (hc _ _ (by omega)).trans (cell_past (by omega) r7); have r7 := hy; clear hy) | skip); (try (have hy : b15 < w1.heap.size := (by omega); have lb15 := hy; clear hy)); (try (have hy : b16 < w1.heap.size := (by omega); have lb16 := hy; clear hy)); (try (have hy : b17 < w1.heap.size := (by omega); have lb17 := hy; clear hy)); (try (have hy : bt < w1.heap.size := (by omega); have lbt := hy; clear hy)); (try have s0 := fun X => cell_past (X := X) lb15 r0); (try have s1 := fun X => cell_past (X := X) lb15 r1); (try have s2 := fun X => cell_past (X := X) lb16 r2); (try have s3 := fun X => cell_past (X := X) lb16 r3); (try have s4 := fun X => cell_past (X := X) lb17 r4); (try have s5 := fun X => cell_past (X := X) lb17 r5); (try have s6 := fun X => cell_past (X := X) lbt r6); (try have s7 := fun X => cell_past (X := X) lbt r7)))
      go_returns
      exact ⟨rfl, hw⟩
end Go.Proofs.YtacfopopaieliaaDoor
