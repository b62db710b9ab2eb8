/-
  FeatsPairs, walked.
-/
import Derived.Test.YtacfopopaieliaaDoorWb
namespace Go.Proofs.YtacfopopaieliaaDoor
open Go.RowKit Go.Sort
attribute [local go_sem ↓] snd_eql snd_neq
theorem calls_gen {P : Program} {f : Nat} {args : Array Value} {W : World} {Q : Ending → World → Prop} (h : ∀ W1, W1 = W → Calls P f args W1 Q) : Calls P f args W Q := h W rfl
set_option maxHeartbeats 4000000 in
theorem pairs_core (x y s t A B M N D O : Int) (U S : Bool) (w : World) (hT : Tab w) (ht : 0 < w.heap.size)
    (j1 : ∀ w, Gives 22 #[sn x y, sn s t] w (.tuple #[sn A B, .bool U])) (j2 : ∀ w, Gives 23 #[sn x y, sn s t] w (.tuple #[sn A B, .bool U]))
    (j3 : ∀ w, Gives 24 #[sn x y, sn s t] w (.bool S)) (j4 : ∀ w, Gives 25 #[sn x y, sn s t] w (.bool S))
    (j5 : ∀ w, Gives 26 #[sn x y, sn s t] w (.int .i64 O)) (j6 : ∀ w, Gives 27 #[sn x y, sn s t] w (.int .i64 O))
    (j7 : ∀ w, Gives 28 #[sn x y, sn s t] w (sn M N)) (j8 : ∀ w, Gives 29 #[sn x y, sn s t] w (sn M N))
    (j9 : ∀ w, Gives 30 #[sn x y, sn s t] w (.int .u32 D)) (j10 : ∀ w, Gives 31 #[sn x y, sn s t] w (.int .u32 D)) :
    Gives 4 #[sn x y, sn s t] w (.bool true) := by
  unfold Gives
  go_enter Tryd.func4, Tryd.ntmps4
  go_wp2_with fail
  first | refine wp_gen ?_ | refine calls_gen ?_
  intro W1 hW1
  have hw1 : Below w.heap.size w W1 := by rw [hW1]; go_grown
  have hz1 : w.heap.size + 1 + 1 ≤ W1.heap.size := by rw [hW1]; go_size
  have g0 : W1.cell? ⟨w.heap.size, 0, none⟩ = some (.int .u32 x) := by rw [hW1]; first | go_cell | (go_simp; done) | (simp [hc, hf, hc0, hf0]; done) | (refine cell_past (by omega) ?_; rw [hc0 _ _ (by omega)]; first | go_cell | (go_simp; done)) | (refine frozen_past (by omega) ?_; rw [hf0 _ _ (by omega)]; first | (go_simp; done) | (simp; done)) | (refine keep_set ?_ (by (try simp only []); omega); first | assumption | (refine keep_set ?_ (by (try simp only []); omega); assumption))
  have g1 : W1.cell? ⟨w.heap.size, 1, none⟩ = some (.int .u32 y) := by rw [hW1]; first | go_cell | (go_simp; done) | (simp [hc, hf, hc0, hf0]; done) | (refine cell_past (by omega) ?_; rw [hc0 _ _ (by omega)]; first | go_cell | (go_simp; done)) | (refine frozen_past (by omega) ?_; rw [hf0 _ _ (by omega)]; first | (go_simp; done) | (simp; done)) | (refine keep_set ?_ (by (try simp only []); omega); first | assumption | (refine keep_set ?_ (by (try simp only []); omega); assumption))
  have g2 : W1.cell? ⟨w.heap.size + 1, 0, none⟩ = some (.int .u32 s) := by rw [hW1]; first | go_cell | (go_simp; done) | (simp [hc, hf, hc0, hf0]; done) | (refine cell_past (by omega) ?_; rw [hc0 _ _ (by omega)]; first | go_cell | (go_simp; done)) | (refine frozen_past (by omega) ?_; rw [hf0 _ _ (by omega)]; first | (go_simp; done) | (simp; done)) | (refine keep_set ?_ (by (try simp only []); omega); first | assumption | (refine keep_set ?_ (by (try simp only []); omega); assumption))
  have g3 : W1.cell? ⟨w.heap.size + 1, 1, none⟩ = some (.int .u32 t) := by rw [hW1]; first | go_cell | (go_simp; done) | (simp [hc, hf, hc0, hf0]; done) | (refine cell_past (by omega) ?_; rw [hc0 _ _ (by omega)]; first | go_cell | (go_simp; done)) | (refine frozen_past (by omega) ?_; rw [hf0 _ _ (by omega)]; first | (go_simp; done) | (simp; done)) | (refine keep_set ?_ (by (try simp only []); omega); first | assumption | (refine keep_set ?_ (by (try simp only []); omega); assumption))
  clear hW1
  have r0 := g0; have r1 := g1; have r2 := g2; have r3 := g3; have hw := hw1; clear g0 g1 g2 g3 hw1
  (go_at_call 22; with_reducible refine Gives.then (j1 _) ?_; intro w1 hb; have hw := chain (B := w.heap.size) (a := w) (by go_grown) (by go_size) hb; obtain ⟨hc, hf, hz⟩ := bcell hb; clear hb; (try simp only [World.size_alloc, World.size_setCell, World.size_drew] at hc hf hz); (first | (have hy := (hc _ _ (by omega)).trans r0; have r0 := hy; clear hy) | (have hy := (hc _ _ (by omega)).trans (cell_past (by omega) r0); have r0 := hy; clear hy) | skip); (first | (have hy := (hc _ _ (by omega)).trans r1; have r1 := hy; clear hy) | (have hy := (hc _ _ (by omega)).trans (cell_past (by omega) r1); have r1 := hy; clear hy) | skip); (first | (have hy := (hc _ _ (by omega)).trans r2; have r2 := hy; clear hy) | (have hy := (hc _ _ (by omega)).trans (cell_past (by omega) r2); have r2 := hy; clear hy) | skip); (first | (have hy := (hc _ _ (by omega)).trans r3; have r3 := hy; clear hy) | (have hy := (hc _ _ (by omega)).trans (cell_past (by omega) r3); have r3 := hy; clear hy) | skip); (first | (have hy := (hc _ _ (by omega)).trans r4; have r4 := hy; clear hy) | (have hy := (hc _ _ (by omega)).trans (cell_past (by omega) r4); have r4 := hy; clear hy) | skip); (first | (have hy := (hc _ _ (by omega)).trans r5; have r5 := hy; clear hy) | (have hy := (hc _ _ (by omega)).trans (cell_past (by omega) r5); have r5 := hy; clear hy) | skip); (try (have hy : bt < w1.heap.size := (by omega); have lbt := hy; clear hy)); (try have s0 := fun X => cell_past (X := X) (by omega : w.heap.size < w1.heap.size) r0); (try have s1 := fun X => cell_past (X := X) (by omega : w.heap.size < w1.heap.size) r1); (try have s2 := fun X => cell_past (X := X) (by omega : w.heap.size + 1 < w1.heap.size) r2); (try have s3 := fun X => cell_past (X := X) (by omega : w.heap.size + 1 < w1.heap.size) r3); (try have s4 := fun X => cell_past (X := X) lbt r4); (try have s5 := fun X => cell_past (X := X) lbt r5))
  go_wp2_with fail
  (go_at_call 23; with_reducible refine Gives.then (j2 _) ?_; intro w1 hb; have hw := chain (B := w.heap.size) (a := w) (by go_grown) (by go_size) hb; obtain ⟨hc, hf, hz⟩ := bcell hb; clear hb; (try simp only [World.size_alloc, World.size_setCell, World.size_drew] at hc hf hz); (first | (have hy := (hc _ _ (by omega)).trans r0; have r0 := hy; clear hy) | (have hy := (hc _ _ (by omega)).trans (cell_past (by omega) r0); have r0 := hy; clear hy) | skip); (first | (have hy := (hc _ _ (by omega)).trans r1; have r1 := hy; clear hy) | (have hy := (hc _ _ (by omega)).trans (cell_past (by omega) r1); have r1 := hy; clear hy) | skip); (first | (have hy := (hc _ _ (by omega)).trans r2; have r2 := hy; clear hy) | (have hy := (hc _ _ (by omega)).trans (cell_past (by omega) r2); have r2 := hy; clear hy) | skip); (first | (have hy := (hc _ _ (by omega)).trans r3; have r3 := hy; clear hy) | (have hy := (hc _ _ (by omega)).trans (cell_past (by omega) r3); have r3 := hy; clear hy) | skip); (first | (have hy := (hc _ _ (by omega)).trans r4; have r4 := hy; clear hy) | (have hy := (hc _ _ (by omega)).trans (cell_past (by omega) r4); have r4 := hy; clear hy) | skip); (first | (have hy := (hc _ _ (by omega)).trans r5; have r5 := hy; clear hy) | (have hy := (hc _ _ (by omega)).trans (cell_past (by omega) r5); have r5 := hy; clear hy) | skip); (try (have hy : bt < w1.heap.size := (by omega); have lbt := hy; clear hy)); (try have s0 := fun X => cell_past (X := X) (by omega : w.heap.size < w1.heap.size) r0); (try have s1 := fun X => cell_past (X := X) (by omega : w.heap.size < w1.heap.size) r1); (try have s2 := fun X => cell_past (X := X) (by omega : w.heap.size + 1 < w1.heap.size) r2); (try have s3 := fun X => cell_past (X := X) (by omega : w.heap.size + 1 < w1.heap.size) r3); (try have s4 := fun X => cell_past (X := X) lbt r4); (try have s5 := fun X => cell_past (X := X) lbt r5))
  obtain ⟨bt, hbt, lbt, hx⟩ := cell_fresh hc hz; have r4 := hx 0; have r5 := hx 1; clear hx; simp only [World.cell?_alloc_at, List.getElem?_toArray, List.getElem?_cons_zero, List.getElem?_cons_succ] at r4 r5; simp only [hbt]
  go_wp2_with fail
  refine wp_gen ?_
  intro W1 hW1
  have hw1 : Below w.heap.size w W1 := by rw [hW1]; go_grown
  have hz1 : w1.heap.size + 1 ≤ W1.heap.size := by rw [hW1]; go_size
  have c0 : W1.cell? ⟨w.heap.size, 0, none⟩ = some (.int .u32 x) := by rw [hW1]; first | go_cell | (go_simp; done) | exact cell_past (by first | assumption | omega) (by assumption)
  have c1 : W1.cell? ⟨w.heap.size, 1, none⟩ = some (.int .u32 y) := by rw [hW1]; first | go_cell | (go_simp; done) | exact cell_past (by first | assumption | omega) (by assumption)
  have c2 : W1.cell? ⟨w.heap.size + 1, 0, none⟩ = some (.int .u32 s) := by rw [hW1]; first | go_cell | (go_simp; done) | exact cell_past (by first | assumption | omega) (by assumption)
  have c3 : W1.cell? ⟨w.heap.size + 1, 1, none⟩ = some (.int .u32 t) := by rw [hW1]; first | go_cell | (go_simp; done) | exact cell_past (by first | assumption | omega) (by assumption)
  have c4 : W1.cell? ⟨bt, 0, none⟩ = some (.int .u32 A) := by rw [hW1]; first | go_cell | (go_simp; done) | exact cell_past (by first | assumption | omega) (by assumption)
  have c5 : W1.cell? ⟨bt, 1, none⟩ = some (.int .u32 B) := by rw [hW1]; first | go_cell | (go_simp; done) | exact cell_past (by first | assumption | omega) (by assumption)
  have c6 : W1.cell? ⟨w1.heap.size, 0, none⟩ = some (.int .u32 A) := by rw [hW1]; first | go_cell | (go_simp; done) | exact cell_past (by first | assumption | omega) (by assumption)
  have c7 : W1.cell? ⟨w1.heap.size, 1, none⟩ = some (.int .u32 B) := by rw [hW1]; first | go_cell | (go_simp; done) | exact cell_past (by first | assumption | omega) (by assumption)
  clear hW1
  have k0 := cell_regrown c0
  have k1 := cell_regrown c1
  have k2 := cell_regrown c2
  have k3 := cell_regrown c3
  have k4 := cell_regrown c4
  have k5 := cell_regrown c5
  have k6 := cell_regrown c6
  have k7 := cell_regrown c7
  refine wp_region_quiet_below (by kernel_rfl) (by kernel_rfl) ?_
  try simp only [List.append]
  repeat (go_big_quiet_step (first | (go_at_call 24; with_reducible exact Calls.regrown_of (j3 _)) | (go_at_call 25; with_reducible exact Calls.regrown_of (j4 _)) | (go_at_call 26; with_reducible exact Calls.regrown_of (j5 _)) | (go_at_call 27; with_reducible exact Calls.regrown_of (j6 _))))
  refine wpQuiet_nil ?_
  intro w2 hw2
  have hb : Below W1.heap.size W1 w2 := by obtain ⟨q, rfl⟩ := hw2; exact below_regrown _ _ _
  clear hw2
  clear k0 k1 k2 k3 k4 k5 k6 k7
  have hw := chain hw1 (by omega) hb
  obtain ⟨hc, hf, hz⟩ := bcell hb
  clear hb
  try have r0 : w2.cell? ⟨w.heap.size, 0, none⟩ = some (.int .u32 x) := (hc _ _ (by omega)).trans c0
  try have r1 : w2.cell? ⟨w.heap.size, 1, none⟩ = some (.int .u32 y) := (hc _ _ (by omega)).trans c1
  try have r2 : w2.cell? ⟨w.heap.size + 1, 0, none⟩ = some (.int .u32 s) := (hc _ _ (by omega)).trans c2
  try have r3 : w2.cell? ⟨w.heap.size + 1, 1, none⟩ = some (.int .u32 t) := (hc _ _ (by omega)).trans c3
  try have r4 : w2.cell? ⟨bt, 0, none⟩ = some (.int .u32 A) := (hc _ _ (by omega)).trans c4
  try have r5 : w2.cell? ⟨bt, 1, none⟩ = some (.int .u32 B) := (hc _ _ (by omega)).trans c5
  try have r6 : w2.cell? ⟨w1.heap.size, 0, none⟩ = some (.int .u32 A) := (hc _ _ (by omega)).trans c6
  try have r7 : w2.cell? ⟨w1.heap.size, 1, none⟩ = some (.int .u32 B) := (hc _ _ (by omega)).trans c7
  go_wp2_with fail
  refine wp_gen ?_
  intro W1 hW1
  have hw1 : Below w.heap.size w W1 := by rw [hW1]; go_grown
  have hz1 : w2.heap.size ≤ W1.heap.size := by rw [hW1]; go_size
  have c0 : W1.cell? ⟨w.heap.size, 0, none⟩ = some (.int .u32 x) := by rw [hW1]; first | go_cell | (go_simp; done) | exact cell_past (by first | assumption | omega) (by assumption)
  have c1 : W1.cell? ⟨w.heap.size, 1, none⟩ = some (.int .u32 y) := by rw [hW1]; first | go_cell | (go_simp; done) | exact cell_past (by first | assumption | omega) (by assumption)
  have c2 : W1.cell? ⟨w.heap.size + 1, 0, none⟩ = some (.int .u32 s) := by rw [hW1]; first | go_cell | (go_simp; done) | exact cell_past (by first | assumption | omega) (by assumption)
  have c3 : W1.cell? ⟨w.heap.size + 1, 1, none⟩ = some (.int .u32 t) := by rw [hW1]; first | go_cell | (go_simp; done) | exact cell_past (by first | assumption | omega) (by assumption)
  clear hW1
  have k0 := cell_regrown c0
  have k1 := cell_regrown c1
  have k2 := cell_regrown c2
  have k3 := cell_regrown c3
  refine wp_region_quiet_below (by kernel_rfl) (by kernel_rfl) ?_
  try simp only [List.append]
  repeat (go_big_quiet_step (first | (go_at_call 28; with_reducible exact Calls.regrown_of (j7 _)) | (go_at_call 29; with_reducible exact Calls.regrown_of (j8 _)) | (go_at_call 30; with_reducible exact Calls.regrown_of (j9 _)) | (go_at_call 31; with_reducible exact Calls.regrown_of (j10 _)) | (go_at_call 21; with_reducible exact Calls.regrown_of (works_any _ (Tab.below (below_regrown _ _ _) (Nat.lt_of_lt_of_le ht hw1.size) (Tab.below hw1 ht hT)) (Nat.lt_of_lt_of_le (Nat.lt_of_lt_of_le ht hw1.size) (below_regrown _ _ _).size)))))
  refine wpQuiet_nil ?_
  intro w2 hw2
  have hb : Below W1.heap.size W1 w2 := by obtain ⟨q, rfl⟩ := hw2; exact below_regrown _ _ _
  clear hw2
  clear k0 k1 k2 k3
  have hw := chain hw1 (by omega) hb
  obtain ⟨hc, hf, hz⟩ := bcell hb
  clear hb
  try have r0 : w2.cell? ⟨w.heap.size, 0, none⟩ = some (.int .u32 x) := (hc _ _ (by omega)).trans c0
  try have r1 : w2.cell? ⟨w.heap.size, 1, none⟩ = some (.int .u32 y) := (hc _ _ (by omega)).trans c1
  try have r2 : w2.cell? ⟨w.heap.size + 1, 0, none⟩ = some (.int .u32 s) := (hc _ _ (by omega)).trans c2
  try have r3 : w2.cell? ⟨w.heap.size + 1, 1, none⟩ = some (.int .u32 t) := (hc _ _ (by omega)).trans c3
  go_wp2
  go_returns
  exact ⟨rfl, hw⟩
end Go.Proofs.YtacfopopaieliaaDoor
