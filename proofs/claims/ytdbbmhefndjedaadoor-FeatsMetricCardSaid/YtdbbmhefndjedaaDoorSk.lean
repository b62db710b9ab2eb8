/-
  FeatsSets, walked.
-/
import Derived.Test.YtdbbmhefndjedaaDoorWb
import Derived.Test.YtdbbmhefndjedaaDoorRl
namespace Go.Proofs.YtdbbmhefndjedaaDoor
open Go.RowKit Go.Sort
attribute [local go_sem ↓] snd_eql snd_neq
theorem calls_gen {P : Program} {f : Nat} {args : Array Value} {W : World} {Q : Ending → World → Prop} (h : ∀ W1, W1 = W → Calls P f args W1 Q) : Calls P f args W Q := h W rfl
set_option maxHeartbeats 4000000 in
theorem sets_core (x0 x1 a b c d n v : Int) (G H : Int → Int) (w : World) (hT : Tab w) (ht : 0 < w.heap.size)
    (n0 : 0 ≤ n) (n1 : n ≤ 255) (v0 : 0 ≤ v) (v1 : v ≤ 255)
    (m1 : ∀ w, Gives 40 #[.int .u32 x0, .int .u32 x1] w (sn a b))
    (j1 : ∀ w, Gives 15 #[sn a b, .int .i64 (n % 24), .int .i64 (v % 3 - 1)] w (.tuple #[sn c d, .int .i64 0]))
    (j2 : ∀ w, Gives 17 #[sn c d] w (.bool true))
    (j3 : ∀ g w, Gives 19 #[sn a b, .int .i64 g] w (.int .i64 (G g)))
    (j4 : ∀ g w, Gives 19 #[sn c d, .int .i64 g] w (.int .i64 (H g)))
    (h1 : H (n % 24) = v % 3 - 1) (h2 : ∀ g, g ≠ n % 24 → H g = G g)
    (j5 : ∀ w, Gives 15 #[sn c d, .int .i64 (n % 24), .int .i64 (G (n % 24))] w (.tuple #[sn a b, .int .i64 0])) :
    Gives 10 #[.agg #[.int .u32 x0, .int .u32 x1], .int .u8 n, .int .u8 v] w (.bool true) := by
  unfold Gives
  have H1 := Lib.hid h1; have H2 := Lib.hid h2; clear h1 h2
  go_enter Tryd.func10, Tryd.ntmps10
  go_wp2_with fail
  (go_at_call 40; with_reducible refine Gives.then (m1 _) ?_; intro w1 hb; have hw := chain (B := w.heap.size) (a := w) (by go_grown) (by go_size) hb; obtain ⟨hc, hf, hz⟩ := bcell hb; clear hb; (try simp only [World.size_alloc, World.size_setCell, World.size_drew] at hc hf hz); (first | (have hy := (hc _ _ (by omega)).trans r0; have r0 := hy; clear hy) | (have hy := (hc _ _ (by omega)).trans (cell_past (by omega) r0); have r0 := hy; clear hy) | skip); (first | (have hy := (hc _ _ (by omega)).trans r1; have r1 := hy; clear hy) | (have hy := (hc _ _ (by omega)).trans (cell_past (by omega) r1); have r1 := hy; clear hy) | skip); (first | (have hy := (hc _ _ (by omega)).trans r2; have r2 := hy; clear hy) | (have hy := (hc _ _ (by omega)).trans (cell_past (by omega) r2); have r2 := hy; clear hy) | skip); (first | (have hy := (hc _ _ (by omega)).trans r3; have r3 := hy; clear hy) | (have hy := (hc _ _ (by omega)).trans (cell_past (by omega) r3); have r3 := hy; clear hy) | skip); (try (have hy : bt < w1.heap.size := (by omega); have lbt := hy; clear hy)); (try (have hy : bu < w1.heap.size := (by omega); have lbu := hy; clear hy)); (try have s0 := fun X => cell_past (X := X) lbt r0); (try have s1 := fun X => cell_past (X := X) lbt r1); (try have s2 := fun X => cell_past (X := X) lbu r2); (try have s3 := fun X => cell_past (X := X) lbu r3))
  go_wp2_with fail
  (go_at_call 15; with_reducible refine Gives.then (j1 _) ?_; intro w1 hb; have hw := chain (B := w.heap.size) (a := w) (by go_grown) (by go_size) hb; obtain ⟨hc, hf, hz⟩ := bcell hb; clear hb; (try simp only [World.size_alloc, World.size_setCell, World.size_drew] at hc hf hz); (first | (have hy := (hc _ _ (by omega)).trans r0; have r0 := hy; clear hy) | (have hy := (hc _ _ (by omega)).trans (cell_past (by omega) r0); have r0 := hy; clear hy) | skip); (first | (have hy := (hc _ _ (by omega)).trans r1; have r1 := hy; clear hy) | (have hy := (hc _ _ (by omega)).trans (cell_past (by omega) r1); have r1 := hy; clear hy) | skip); (first | (have hy := (hc _ _ (by omega)).trans r2; have r2 := hy; clear hy) | (have hy := (hc _ _ (by omega)).trans (cell_past (by omega) r2); have r2 := hy; clear hy) | skip); (first | (have hy := (hc _ _ (by omega)).trans r3; have r3 := hy; clear hy) | (have hy := (hc _ _ (by omega)).trans (cell_past (by omega) r3); have r3 := hy; clear hy) | skip); (try (have hy : bt < w1.heap.size := (by omega); have lbt := hy; clear hy)); (try (have hy : bu < w1.heap.size := (by omega); have lbu := hy; clear hy)); (try have s0 := fun X => cell_past (X := X) lbt r0); (try have s1 := fun X => cell_past (X := X) lbt r1); (try have s2 := fun X => cell_past (X := X) lbu r2); (try have s3 := fun X => cell_past (X := X) lbu r3))
  obtain ⟨bt, hbt, lbt, hx⟩ := cell_fresh hc hz; have r0 := hx 0; have r1 := hx 1; clear hx; simp only [World.cell?_alloc_at, List.getElem?_toArray, List.getElem?_cons_zero, List.getElem?_cons_succ] at r0 r1; simp only [hbt]
  go_wp2_with fail
  (go_at_call 17; with_reducible refine Gives.then (j2 _) ?_; intro w1 hb; have hw := chain (B := w.heap.size) (a := w) (by go_grown) (by go_size) hb; obtain ⟨hc, hf, hz⟩ := bcell hb; clear hb; (try simp only [World.size_alloc, World.size_setCell, World.size_drew] at hc hf hz); (first | (have hy := (hc _ _ (by omega)).trans r0; have r0 := hy; clear hy) | (have hy := (hc _ _ (by omega)).trans (cell_past (by omega) r0); have r0 := hy; clear hy) | skip); (first | (have hy := (hc _ _ (by omega)).trans r1; have r1 := hy; clear hy) | (have hy := (hc _ _ (by omega)).trans (cell_past (by omega) r1); have r1 := hy; clear hy) | skip); (first | (have hy := (hc _ _ (by omega)).trans r2; have r2 := hy; clear hy) | (have hy := (hc _ _ (by omega)).trans (cell_past (by omega) r2); have r2 := hy; clear hy) | skip); (first | (have hy := (hc _ _ (by omega)).trans r3; have r3 := hy; clear hy) | (have hy := (hc _ _ (by omega)).trans (cell_past (by omega) r3); have r3 := hy; clear hy) | skip); (try (have hy : bt < w1.heap.size := (by omega); have lbt := hy; clear hy)); (try (have hy : bu < w1.heap.size := (by omega); have lbu := hy; clear hy)); (try have s0 := fun X => cell_past (X := X) lbt r0); (try have s1 := fun X => cell_past (X := X) lbt r1); (try have s2 := fun X => cell_past (X := X) lbu r2); (try have s3 := fun X => cell_past (X := X) lbu r3))
  obtain ⟨bu, hbu, lbu, hx⟩ := cell_fresh hc hz; have r2 := hx 0; have r3 := hx 1; clear hx; simp only [World.cell?_alloc_at, List.getElem?_toArray, List.getElem?_cons_zero, List.getElem?_cons_succ] at r2 r3; simp only [hbu]
  go_wp2_with fail
  have F0 : 0 ≤ n % 24 := by omega
  have F1 : n % 24 < 24 := by omega
  have hsw := hw.size
  clear hc hf hz s0 s1 hbu hbt j1 j2 m1
  go_loopw [12] (fun p wr => ∃ i : Int, -1 ≤ i ∧ i ≤ 25 ∧ p = .int .i64 i ∧ wr.cell? ⟨bt, 0, none⟩ = some (.int .u32 a) ∧ wr.cell? ⟨bt, 1, none⟩ = some (.int .u32 b) ∧ wr.cell? ⟨bu, 0, none⟩ = some (.int .u32 c) ∧ wr.cell? ⟨bu, 1, none⟩ = some (.int .u32 d) ∧ bt < wr.heap.size ∧ bu < wr.heap.size ∧ Below w.heap.size w wr ∧ w.heap.size ≤ wr.heap.size) (fun p _ => (25 - intOf p).toNat)
  case atStart => exact ⟨_, by omega, by omega, rfl, r0, r1, r2, r3, by omega, lbu, hw, by omega⟩
  case round =>
    clear r0 r1 r2 r3 lbt lbu hw hsw
    obtain ⟨i, i0, i1, rfl, r0, r1, r2, r3, lbt, lbu, hw, hsw⟩ := hrel
    by_cases hle : i ≤ 24
    · by_cases he : i = n % 24
      · have j4' := j4 i
        rw [he, H1.out, ← he] at j4'
        subst he
        go_wp2_with fail
        (go_at_call 19; with_reducible refine Gives.then (j3 _ _) ?_; intro w1 hb; have hw := chain (B := w.heap.size) (a := w) (by go_grown) (by go_size) hb; obtain ⟨hc, hf, hz⟩ := bcell hb; clear hb; (try simp only [World.size_alloc, World.size_setCell, World.size_drew] at hc hf hz); (first | (have hy := (hc _ _ (by omega)).trans r0; have r0 := hy; clear hy) | (have hy := (hc _ _ (by omega)).trans (cell_past (by omega) r0); have r0 := hy; clear hy) | skip); (first | (have hy := (hc _ _ (by omega)).trans r1; have r1 := hy; clear hy) | (have hy := (hc _ _ (by omega)).trans (cell_past (by omega) r1); have r1 := hy; clear hy) | skip); (first | (have hy := (hc _ _ (by omega)).trans r2; have r2 := hy; clear hy) | (have hy := (hc _ _ (by omega)).trans (cell_past (by omega) r2); have r2 := hy; clear hy) | skip); (first | (have hy := (hc _ _ (by omega)).trans r3; have r3 := hy; clear hy) | (have hy := (hc _ _ (by omega)).trans (cell_past (by omega) r3); have r3 := hy; clear hy) | skip); (try (have hy : bt < w1.heap.size := (by omega); have lbt := hy; clear hy)); (try (have hy : bu < w1.heap.size := (by omega); have lbu := hy; clear hy)); (try have s0 := fun X => cell_past (X := X) lbt r0); (try have s1 := fun X => cell_past (X := X) lbt r1); (try have s2 := fun X => cell_past (X := X) lbu r2); (try have s3 := fun X => cell_past (X := X) lbu r3))
        go_wp2_with fail
        (go_at_call 19; with_reducible refine Gives.then (j4' _) ?_; intro w1 hb; have hw := chain (B := w.heap.size) (a := w) (by go_grown) (by go_size) hb; obtain ⟨hc, hf, hz⟩ := bcell hb; clear hb; (try simp only [World.size_alloc, World.size_setCell, World.size_drew] at hc hf hz); (first | (have hy := (hc _ _ (by omega)).trans r0; have r0 := hy; clear hy) | (have hy := (hc _ _ (by omega)).trans (cell_past (by omega) r0); have r0 := hy; clear hy) | skip); (first | (have hy := (hc _ _ (by omega)).trans r1; have r1 := hy; clear hy) | (have hy := (hc _ _ (by omega)).trans (cell_past (by omega) r1); have r1 := hy; clear hy) | skip); (first | (have hy := (hc _ _ (by omega)).trans r2; have r2 := hy; clear hy) | (have hy := (hc _ _ (by omega)).trans (cell_past (by omega) r2); have r2 := hy; clear hy) | skip); (first | (have hy := (hc _ _ (by omega)).trans r3; have r3 := hy; clear hy) | (have hy := (hc _ _ (by omega)).trans (cell_past (by omega) r3); have r3 := hy; clear hy) | skip); (try (have hy : bt < w1.heap.size := (by omega); have lbt := hy; clear hy)); (try (have hy : bu < w1.heap.size := (by omega); have lbu := hy; clear hy)); (try have s0 := fun X => cell_past (X := X) lbt r0); (try have s1 := fun X => cell_past (X := X) lbt r1); (try have s2 := fun X => cell_past (X := X) lbu r2); (try have s3 := fun X => cell_past (X := X) lbu r3))
        go_wp2_with fail
        go_roundw
        case rel => exact ⟨n % 24 + 1, by omega, by omega, by go_num, r0, r1, r2, r3, lbt, lbu, hw, by omega⟩
        case measure => simp [intOf]; omega
      · have j4' := j4 i
        rw [H2.out i he] at j4'
        have he' : ¬ n % 24 = i := fun e => he e.symm
        go_wp2_with fail
        (go_at_call 19; with_reducible refine Gives.then (j3 _ _) ?_; intro w1 hb; have hw := chain (B := w.heap.size) (a := w) (by go_grown) (by go_size) hb; obtain ⟨hc, hf, hz⟩ := bcell hb; clear hb; (try simp only [World.size_alloc, World.size_setCell, World.size_drew] at hc hf hz); (first | (have hy := (hc _ _ (by omega)).trans r0; have r0 := hy; clear hy) | (have hy := (hc _ _ (by omega)).trans (cell_past (by omega) r0); have r0 := hy; clear hy) | skip); (first | (have hy := (hc _ _ (by omega)).trans r1; have r1 := hy; clear hy) | (have hy := (hc _ _ (by omega)).trans (cell_past (by omega) r1); have r1 := hy; clear hy) | skip); (first | (have hy := (hc _ _ (by omega)).trans r2; have r2 := hy; clear hy) | (have hy := (hc _ _ (by omega)).trans (cell_past (by omega) r2); have r2 := hy; clear hy) | skip); (first | (have hy := (hc _ _ (by omega)).trans r3; have r3 := hy; clear hy) | (have hy := (hc _ _ (by omega)).trans (cell_past (by omega) r3); have r3 := hy; clear hy) | skip); (try (have hy : bt < w1.heap.size := (by omega); have lbt := hy; clear hy)); (try (have hy : bu < w1.heap.size := (by omega); have lbu := hy; clear hy)); (try have s0 := fun X => cell_past (X := X) lbt r0); (try have s1 := fun X => cell_past (X := X) lbt r1); (try have s2 := fun X => cell_past (X := X) lbu r2); (try have s3 := fun X => cell_past (X := X) lbu r3))
        go_wp2_with fail
        (go_at_call 19; with_reducible refine Gives.then (j4' _) ?_; intro w1 hb; have hw := chain (B := w.heap.size) (a := w) (by go_grown) (by go_size) hb; obtain ⟨hc, hf, hz⟩ := bcell hb; clear hb; (try simp only [World.size_alloc, World.size_setCell, World.size_drew] at hc hf hz); (first | (have hy := (hc _ _ (by omega)).trans r0; have r0 := hy; clear hy) | (have hy := (hc _ _ (by omega)).trans (cell_past (by omega) r0); have r0 := hy; clear hy) | skip); (first | (have hy := (hc _ _ (by omega)).trans r1; have r1 := hy; clear hy) | (have hy := (hc _ _ (by omega)).trans (cell_past (by omega) r1); have r1 := hy; clear hy) | skip); (first | (have hy := (hc _ _ (by omega)).trans r2; have r2 := hy; clear hy) | (have hy := (hc _ _ (by omega)).trans (cell_past (by omega) r2); have r2 := hy; clear hy) | skip); (first | (have hy := (hc _ _ (by omega)).trans r3; have r3 := hy; clear hy) | (have hy := (hc _ _ (by omega)).trans (cell_past (by omega) r3); have r3 := hy; clear hy) | skip); (try (have hy : bt < w1.heap.size := (by omega); have lbt := hy; clear hy)); (try (have hy : bu < w1.heap.size := (by omega); have lbu := hy; clear hy)); (try have s0 := fun X => cell_past (X := X) lbt r0); (try have s1 := fun X => cell_past (X := X) lbt r1); (try have s2 := fun X => cell_past (X := X) lbu r2); (try have s3 := fun X => cell_past (X := X) lbu r3))
        go_wp2_with fail
        go_roundw
        case rel => exact ⟨i + 1, by omega, by omega, by go_num, r0, r1, r2, r3, lbt, lbu, hw, by omega⟩
        case measure => simp [intOf]; omega
    · go_wp2_with fail
      refine wp_gen ?_
      intro W1 hW1
      have hw1 : Below w.heap.size w W1 := by rw [hW1]; go_grown
      have hz1 : wr.heap.size ≤ W1.heap.size := by rw [hW1]; first | assumption | go_size
      have g0 : W1.cell? ⟨bt, 0, none⟩ = some (.int .u32 a) := by rw [hW1]; first | assumption | go_cell | (go_simp; done) | (simp [hc, hf, hc0, hf0]; done) | (refine keep_set ?_ (by (try simp only []); omega); first | assumption | (refine keep_set ?_ (by (try simp only []); omega); assumption)) | (simp [*]; done)
      have g1 : W1.cell? ⟨bt, 1, none⟩ = some (.int .u32 b) := by rw [hW1]; first | assumption | go_cell | (go_simp; done) | (simp [hc, hf, hc0, hf0]; done) | (refine keep_set ?_ (by (try simp only []); omega); first | assumption | (refine keep_set ?_ (by (try simp only []); omega); assumption)) | (simp [*]; done)
      have g2 : W1.cell? ⟨bu, 0, none⟩ = some (.int .u32 c) := by rw [hW1]; first | assumption | go_cell | (go_simp; done) | (simp [hc, hf, hc0, hf0]; done) | (refine keep_set ?_ (by (try simp only []); omega); first | assumption | (refine keep_set ?_ (by (try simp only []); omega); assumption)) | (simp [*]; done)
      have g3 : W1.cell? ⟨bu, 1, none⟩ = some (.int .u32 d) := by rw [hW1]; first | assumption | go_cell | (go_simp; done) | (simp [hc, hf, hc0, hf0]; done) | (refine keep_set ?_ (by (try simp only []); omega); first | assumption | (refine keep_set ?_ (by (try simp only []); omega); assumption)) | (simp [*]; done)
      clear hW1
      refine wp_region_late 8 10 [(9, .cells #[.int .u32 0, .int .u32 0] 24 (0, 0))] [0, 1, 2, 3, 4, 5, 6, 7, 8, 9] ?A1 _ (by simp [edged]; rfl) rfl rfl (by kernel_rfl) (by kernel_rfl) (by kernel_rfl) ?hrun1 (by simp [quiets, mkOf]; rfl) ?walk1 ?fin1
      case hrun1 =>
        intro x hx
        simp only [List.mem_cons, List.not_mem_nil, or_false] at hx
        rcases hx with rfl
        all_goals exact ⟨_, rfl, rfl, fun a w => by simp [go_sem, ptr]⟩
      case walk1 =>
        intro W2 hW2
        have e0 : W2.cell? ⟨bt, 0, none⟩ = some (.int .u32 a) := (hW2.cell (p := ⟨bt, 0, none⟩) (by (try simp only []); omega)).trans g0
        have k0 := cell_regrown e0
        have e1 : W2.cell? ⟨bt, 1, none⟩ = some (.int .u32 b) := (hW2.cell (p := ⟨bt, 1, none⟩) (by (try simp only []); omega)).trans g1
        have k1 := cell_regrown e1
        have e2 : W2.cell? ⟨bu, 0, none⟩ = some (.int .u32 c) := (hW2.cell (p := ⟨bu, 0, none⟩) (by (try simp only []); omega)).trans g2
        have k2 := cell_regrown e2
        have e3 : W2.cell? ⟨bu, 1, none⟩ = some (.int .u32 d) := (hW2.cell (p := ⟨bu, 1, none⟩) (by (try simp only []); omega)).trans g3
        have k3 := cell_regrown e3
        repeat (go_big_quiet_step (first | (go_at_call 19; with_reducible exact Calls.regrown_of (j3 _ _)) | (go_at_call 15; with_reducible exact Calls.regrown_of (j5 _))))
        refine wpQuiet_nil ?_
        rfl
      intro bs w2 hb hF hN
      have hw := chain hw1 (by omega) hb
      obtain ⟨hc, hf, hz⟩ := bcell hb
      have r0 : w2.cell? ⟨bt, 0, none⟩ = some (.int .u32 a) := (hc _ _ (by omega)).trans g0
      have r1 : w2.cell? ⟨bt, 1, none⟩ = some (.int .u32 b) := (hc _ _ (by omega)).trans g1
      have r2 : w2.cell? ⟨bu, 0, none⟩ = some (.int .u32 c) := (hc _ _ (by omega)).trans g2
      have r3 : w2.cell? ⟨bu, 1, none⟩ = some (.int .u32 d) := (hc _ _ (by omega)).trans g3
      have m9 := hF (9, .cells #[.int .u32 0, .int .u32 0] 24 (0, 0)) (by simp)
      clear hb hF hN hw1 g0 g1 g2 g3
      simp only [List.map_cons, List.map_nil, List.foldr_cons, List.foldr_nil] at *
      generalize bs 9 = b9 at *
      obtain ⟨m9a, m9b⟩ := m9
      have u9_0 := cell_block (o := 0) (v := .int .u32 0) m9b rfl
      have v9_0 := frozen_block (o := 0) m9b
      have u9_1 := cell_block (o := 1) (v := .int .u32 0) m9b rfl
      have v9_1 := frozen_block (o := 1) m9b
      have l9 := lt_block m9b
      clear m9b
      clear bs
      simp only [dstOf, ptr, Act.put, List.getElem?_toArray, List.getElem?_cons_succ, List.getElem?_cons_zero, Option.bind_some, List.setIfInBounds_toArray, List.set_cons_zero, List.set_cons_succ, List.drop_succ_cons, List.drop_zero]
      go_wp2_with fail
      refine ⟨rfl, ?_⟩
      go_wp2_with fail
      first | refine wp_gen ?_ | refine calls_gen ?_
      intro W1 hW1
      have hw1 : Below w.heap.size w W1 := by rw [hW1]; go_grown
      have hz1 : w2.heap.size ≤ W1.heap.size := by rw [hW1]; go_size
      have g0 : W1.cell? ⟨b9, 0, none⟩ = some (.int .u32 a) := by rw [hW1]; first | go_cell | (go_simp; done) | (simp [hc, hf, hc0, hf0]; done) | (refine cell_past (by omega) ?_; rw [hc0 _ _ (by omega)]; first | go_cell | (go_simp; done)) | (refine frozen_past (by omega) ?_; rw [hf0 _ _ (by omega)]; first | (go_simp; done) | (simp; done)) | (refine keep_set ?_ (by (try simp only []); omega); first | assumption | (refine keep_set ?_ (by (try simp only []); omega); assumption))
      have g1 : W1.cell? ⟨b9, 1, none⟩ = some (.int .u32 b) := by rw [hW1]; first | go_cell | (go_simp; done) | (simp [hc, hf, hc0, hf0]; done) | (refine cell_past (by omega) ?_; rw [hc0 _ _ (by omega)]; first | go_cell | (go_simp; done)) | (refine frozen_past (by omega) ?_; rw [hf0 _ _ (by omega)]; first | (go_simp; done) | (simp; done)) | (refine keep_set ?_ (by (try simp only []); omega); first | assumption | (refine keep_set ?_ (by (try simp only []); omega); assumption))
      have g2 : W1.cell? ⟨bt, 0, none⟩ = some (.int .u32 a) := by rw [hW1]; first | go_cell | (go_simp; done) | (simp [hc, hf, hc0, hf0]; done) | (refine cell_past (by omega) ?_; rw [hc0 _ _ (by omega)]; first | go_cell | (go_simp; done)) | (refine frozen_past (by omega) ?_; rw [hf0 _ _ (by omega)]; first | (go_simp; done) | (simp; done)) | (refine keep_set ?_ (by (try simp only []); omega); first | assumption | (refine keep_set ?_ (by (try simp only []); omega); assumption))
      have g3 : W1.cell? ⟨bt, 1, none⟩ = some (.int .u32 b) := by rw [hW1]; first | go_cell | (go_simp; done) | (simp [hc, hf, hc0, hf0]; done) | (refine cell_past (by omega) ?_; rw [hc0 _ _ (by omega)]; first | go_cell | (go_simp; done)) | (refine frozen_past (by omega) ?_; rw [hf0 _ _ (by omega)]; first | (go_simp; done) | (simp; done)) | (refine keep_set ?_ (by (try simp only []); omega); first | assumption | (refine keep_set ?_ (by (try simp only []); omega); assumption))
      clear hW1
      have r0 := g0; have r1 := g1; have r2 := g2; have r3 := g3
      have hws := hw1.size
      go_wp2_with (go_at_call 21; with_reducible refine Gives.then (works_any _ ?_ ?_) ?_; (next => (exact Tab.below (n₀ := w.heap.size) (by go_grown) ht hT)); (next => (first | go_size | omega)); intro w1 hb; have hw := chain (B := w.heap.size) (a := w) (by go_grown) (by go_size) hb; obtain ⟨hc, hf, hz⟩ := bcell hb; clear hb; (try simp only [World.size_alloc, World.size_setCell, World.size_drew] at hc hf hz); (first | (have hy := (hc _ _ (by omega)).trans r0; have r0 := hy; clear hy) | (have hy := (hc _ _ (by omega)).trans (cell_past (by omega) r0); have r0 := hy; clear hy) | skip); (first | (have hy := (hc _ _ (by omega)).trans r1; have r1 := hy; clear hy) | (have hy := (hc _ _ (by omega)).trans (cell_past (by omega) r1); have r1 := hy; clear hy) | skip); (first | (have hy := (hc _ _ (by omega)).trans r2; have r2 := hy; clear hy) | (have hy := (hc _ _ (by omega)).trans (cell_past (by omega) r2); have r2 := hy; clear hy) | skip); (first | (have hy := (hc _ _ (by omega)).trans r3; have r3 := hy; clear hy) | (have hy := (hc _ _ (by omega)).trans (cell_past (by omega) r3); have r3 := hy; clear hy) | skip); (try (have hy : bt < w1.heap.size := (by omega); have lbt := hy; clear hy)); (try (have hy : bu < w1.heap.size := (by omega); have lbu := hy; clear hy)); (try have s0 := fun X => cell_past (X := X) lbt r0); (try have s1 := fun X => cell_past (X := X) lbt r1); (try have s2 := fun X => cell_past (X := X) lbu r2); (try have s3 := fun X => cell_past (X := X) lbu r3))
      all_goals go_returns
      all_goals exact ⟨rfl, hw⟩
end Go.Proofs.YtdbbmhefndjedaaDoor
