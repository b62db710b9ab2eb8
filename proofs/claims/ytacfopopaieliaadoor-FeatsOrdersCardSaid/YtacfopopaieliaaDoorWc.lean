/-
  FeatsOrders, walked.
-/
import Derived.Test.YtacfopopaieliaaDoorWb
import Derived.Test.YtacfopopaieliaaDoorWn
namespace Go.Proofs.YtacfopopaieliaaDoor
open Go.RowKit Go.Sort
attribute [local go_sem ↓] snd_eql snd_neq
theorem gv_order (p m q n : BitVec 32) (w : World) : Gives 26 #[sn p.toNat m.toNat, sn q.toNat n.toNat] w (.int .i64 (ordN p.toNat m.toNat q.toNat n.toNat)) := order_any p m q n w
set_option maxHeartbeats 4000000 in
theorem orders_core (a b c d e f : Int) (m m' n o : Int) (E : Bool) (w : World) (hT : Tab w) (ht : 0 < w.heap.size)
    (h1 : ∀ w, Gives 26 #[sn a b, sn c d] w (.int .i64 m)) (h2 : ∀ w, Gives 26 #[sn c d, sn a b] w (.int .i64 m'))
    (h3 : ∀ w, Gives 26 #[sn c d, sn e f] w (.int .i64 n)) (h4 : ∀ w, Gives 26 #[sn a b, sn e f] w (.int .i64 o))
    (hE : (a == c && b == d) = E) (hm : (m = -1 ∧ m' = 1 ∧ E = false) ∨ (m = 0 ∧ m' = 0 ∧ E = true) ∨ (m = 1 ∧ m' = -1 ∧ E = false)) (hn : n = -1 ∨ n = 0 ∨ n = 1) (hmn : m = n → o = m) (hm0 : m = 0 → o = n) :
    Gives 13 #[sn a b, sn c d, sn e f] w (.bool true) := by
  unfold Gives
  have HE := Lib.hid hE; have H1 := Lib.hid (And.intro hmn hm0); clear hE hmn hm0
  rcases hm with ⟨rfl, rfl, rfl⟩ | ⟨rfl, rfl, rfl⟩ | ⟨rfl, rfl, rfl⟩
  · go_enter Tryd.func13, Tryd.ntmps13
    go_wp2_with fail
    refine wp_gen ?_
    intro W1 hW1
    have hw1 : Below w.heap.size w W1 := by rw [hW1]; go_grown
    have hz1 : w.heap.size + 1 + 1 + 1 ≤ W1.heap.size := by rw [hW1]; go_size
    have c0 : W1.cell? ⟨w.heap.size, 0, none⟩ = some (.int .u32 a) := by rw [hW1]; first | go_cell | (go_simp; done) | exact cell_past (by assumption) (by assumption)
    have c1 : W1.cell? ⟨w.heap.size, 1, none⟩ = some (.int .u32 b) := by rw [hW1]; first | go_cell | (go_simp; done) | exact cell_past (by assumption) (by assumption)
    have c2 : W1.cell? ⟨w.heap.size + 1, 0, none⟩ = some (.int .u32 c) := by rw [hW1]; first | go_cell | (go_simp; done) | exact cell_past (by assumption) (by assumption)
    have c3 : W1.cell? ⟨w.heap.size + 1, 1, none⟩ = some (.int .u32 d) := by rw [hW1]; first | go_cell | (go_simp; done) | exact cell_past (by assumption) (by assumption)
    have c4 : W1.cell? ⟨w.heap.size + 1 + 1, 0, none⟩ = some (.int .u32 e) := by rw [hW1]; first | go_cell | (go_simp; done) | exact cell_past (by assumption) (by assumption)
    have c5 : W1.cell? ⟨w.heap.size + 1 + 1, 1, none⟩ = some (.int .u32 f) := by rw [hW1]; first | go_cell | (go_simp; done) | exact cell_past (by assumption) (by assumption)
    clear hW1
    have k0 := cell_regrown c0
    have k1 := cell_regrown c1
    have k2 := cell_regrown c2
    have k3 := cell_regrown c3
    have k4 := cell_regrown c4
    have k5 := cell_regrown c5
    refine wp_region_quiet_below (by kernel_rfl) (by kernel_rfl) ?_
    try simp only [List.append]
    repeat (go_big_quiet_step (first | (go_at_call 26; with_reducible exact Calls.regrown_of (h1 _)) | (go_at_call 26; with_reducible exact Calls.regrown_of (h3 _)) | (go_at_call 26; with_reducible exact Calls.regrown_of (h4 _))))
    refine wpQuiet_nil ?_
    intro w2 hw2
    have hb : Below W1.heap.size W1 w2 := by obtain ⟨q, rfl⟩ := hw2; exact below_regrown _ _ _
    clear hw2
    clear k0 k1 k2 k3 k4 k5
    have hw := chain hw1 (by omega) hb
    obtain ⟨hc, hf, hz⟩ := bcell hb
    clear hb
    try have r0 : w2.cell? ⟨w.heap.size, 0, none⟩ = some (.int .u32 a) := (hc _ _ (by omega)).trans c0
    try have r1 : w2.cell? ⟨w.heap.size, 1, none⟩ = some (.int .u32 b) := (hc _ _ (by omega)).trans c1
    try have r2 : w2.cell? ⟨w.heap.size + 1, 0, none⟩ = some (.int .u32 c) := (hc _ _ (by omega)).trans c2
    try have r3 : w2.cell? ⟨w.heap.size + 1, 1, none⟩ = some (.int .u32 d) := (hc _ _ (by omega)).trans c3
    try have r4 : w2.cell? ⟨w.heap.size + 1 + 1, 0, none⟩ = some (.int .u32 e) := (hc _ _ (by omega)).trans c4
    try have r5 : w2.cell? ⟨w.heap.size + 1 + 1, 1, none⟩ = some (.int .u32 f) := (hc _ _ (by omega)).trans c5
    have hE := HE.out
    go_wp2_with (first | (go_at_call 26; with_reducible refine Gives.then (h2 _) ?_; intro w1 hb; have hw := chain (B := w.heap.size) (a := w) (by go_grown) (by go_size) hb; (first | have h0 := chain (h0.trans (by go_grown)) (by go_size) hb | have h0 := hb); obtain ⟨hc, hf, hz⟩ := bcell hb; obtain ⟨hc0, hf0, hz0⟩ := bcell h0; clear hb; (try simp only [World.size_alloc, World.size_setCell, World.size_drew] at hc hf hz hc0 hf0 hz0); (try (have hy := (hc _ _ (by omega)).trans r0; have r0 := hy; clear hy)); (try (have hy := (hc _ _ (by omega)).trans r1; have r1 := hy; clear hy)); (try (have hy := (hc _ _ (by omega)).trans r2; have r2 := hy; clear hy)); (try (have hy := (hc _ _ (by omega)).trans r3; have r3 := hy; clear hy)); (try (have hy := (hc _ _ (by omega)).trans r4; have r4 := hy; clear hy)); (try (have hy := (hc _ _ (by omega)).trans r5; have r5 := hy; clear hy))) | (go_at_call 21; with_reducible refine Gives.then (works_any _ ?_ ?_) ?_; (next => (exact Tab.below (n₀ := w.heap.size) (by go_grown) ht hT)); (next => (first | go_size | omega)); intro w1 hb; have hw := chain (B := w.heap.size) (a := w) (by go_grown) (by go_size) hb; (first | have h0 := chain (h0.trans (by go_grown)) (by go_size) hb | have h0 := hb); obtain ⟨hc, hf, hz⟩ := bcell hb; obtain ⟨hc0, hf0, hz0⟩ := bcell h0; clear hb; (try simp only [World.size_alloc, World.size_setCell, World.size_drew] at hc hf hz hc0 hf0 hz0); (try (have hy := (hc _ _ (by omega)).trans r0; have r0 := hy; clear hy)); (try (have hy := (hc _ _ (by omega)).trans r1; have r1 := hy; clear hy)); (try (have hy := (hc _ _ (by omega)).trans r2; have r2 := hy; clear hy)); (try (have hy := (hc _ _ (by omega)).trans r3; have r3 := hy; clear hy)); (try (have hy := (hc _ _ (by omega)).trans r4; have r4 := hy; clear hy)); (try (have hy := (hc _ _ (by omega)).trans r5; have r5 := hy; clear hy))))
    all_goals go_returns
    all_goals first | exact ⟨rfl, hw⟩ | (exfalso; have h := H1.out; simp at *; omega)
  · go_enter Tryd.func13, Tryd.ntmps13
    go_wp2_with fail
    refine wp_gen ?_
    intro W1 hW1
    have hw1 : Below w.heap.size w W1 := by rw [hW1]; go_grown
    have hz1 : w.heap.size + 1 + 1 + 1 ≤ W1.heap.size := by rw [hW1]; go_size
    have c0 : W1.cell? ⟨w.heap.size, 0, none⟩ = some (.int .u32 a) := by rw [hW1]; first | go_cell | (go_simp; done) | exact cell_past (by assumption) (by assumption)
    have c1 : W1.cell? ⟨w.heap.size, 1, none⟩ = some (.int .u32 b) := by rw [hW1]; first | go_cell | (go_simp; done) | exact cell_past (by assumption) (by assumption)
    have c2 : W1.cell? ⟨w.heap.size + 1, 0, none⟩ = some (.int .u32 c) := by rw [hW1]; first | go_cell | (go_simp; done) | exact cell_past (by assumption) (by assumption)
    have c3 : W1.cell? ⟨w.heap.size + 1, 1, none⟩ = some (.int .u32 d) := by rw [hW1]; first | go_cell | (go_simp; done) | exact cell_past (by assumption) (by assumption)
    have c4 : W1.cell? ⟨w.heap.size + 1 + 1, 0, none⟩ = some (.int .u32 e) := by rw [hW1]; first | go_cell | (go_simp; done) | exact cell_past (by assumption) (by assumption)
    have c5 : W1.cell? ⟨w.heap.size + 1 + 1, 1, none⟩ = some (.int .u32 f) := by rw [hW1]; first | go_cell | (go_simp; done) | exact cell_past (by assumption) (by assumption)
    clear hW1
    have k0 := cell_regrown c0
    have k1 := cell_regrown c1
    have k2 := cell_regrown c2
    have k3 := cell_regrown c3
    have k4 := cell_regrown c4
    have k5 := cell_regrown c5
    refine wp_region_quiet_below (by kernel_rfl) (by kernel_rfl) ?_
    try simp only [List.append]
    repeat (go_big_quiet_step (first | (go_at_call 26; with_reducible exact Calls.regrown_of (h1 _)) | (go_at_call 26; with_reducible exact Calls.regrown_of (h3 _)) | (go_at_call 26; with_reducible exact Calls.regrown_of (h4 _))))
    refine wpQuiet_nil ?_
    intro w2 hw2
    have hb : Below W1.heap.size W1 w2 := by obtain ⟨q, rfl⟩ := hw2; exact below_regrown _ _ _
    clear hw2
    clear k0 k1 k2 k3 k4 k5
    have hw := chain hw1 (by omega) hb
    obtain ⟨hc, hf, hz⟩ := bcell hb
    clear hb
    try have r0 : w2.cell? ⟨w.heap.size, 0, none⟩ = some (.int .u32 a) := (hc _ _ (by omega)).trans c0
    try have r1 : w2.cell? ⟨w.heap.size, 1, none⟩ = some (.int .u32 b) := (hc _ _ (by omega)).trans c1
    try have r2 : w2.cell? ⟨w.heap.size + 1, 0, none⟩ = some (.int .u32 c) := (hc _ _ (by omega)).trans c2
    try have r3 : w2.cell? ⟨w.heap.size + 1, 1, none⟩ = some (.int .u32 d) := (hc _ _ (by omega)).trans c3
    try have r4 : w2.cell? ⟨w.heap.size + 1 + 1, 0, none⟩ = some (.int .u32 e) := (hc _ _ (by omega)).trans c4
    try have r5 : w2.cell? ⟨w.heap.size + 1 + 1, 1, none⟩ = some (.int .u32 f) := (hc _ _ (by omega)).trans c5
    have hE := HE.out
    go_wp2_with (first | (go_at_call 26; with_reducible refine Gives.then (h2 _) ?_; intro w1 hb; have hw := chain (B := w.heap.size) (a := w) (by go_grown) (by go_size) hb; (first | have h0 := chain (h0.trans (by go_grown)) (by go_size) hb | have h0 := hb); obtain ⟨hc, hf, hz⟩ := bcell hb; obtain ⟨hc0, hf0, hz0⟩ := bcell h0; clear hb; (try simp only [World.size_alloc, World.size_setCell, World.size_drew] at hc hf hz hc0 hf0 hz0); (try (have hy := (hc _ _ (by omega)).trans r0; have r0 := hy; clear hy)); (try (have hy := (hc _ _ (by omega)).trans r1; have r1 := hy; clear hy)); (try (have hy := (hc _ _ (by omega)).trans r2; have r2 := hy; clear hy)); (try (have hy := (hc _ _ (by omega)).trans r3; have r3 := hy; clear hy)); (try (have hy := (hc _ _ (by omega)).trans r4; have r4 := hy; clear hy)); (try (have hy := (hc _ _ (by omega)).trans r5; have r5 := hy; clear hy))) | (go_at_call 21; with_reducible refine Gives.then (works_any _ ?_ ?_) ?_; (next => (exact Tab.below (n₀ := w.heap.size) (by go_grown) ht hT)); (next => (first | go_size | omega)); intro w1 hb; have hw := chain (B := w.heap.size) (a := w) (by go_grown) (by go_size) hb; (first | have h0 := chain (h0.trans (by go_grown)) (by go_size) hb | have h0 := hb); obtain ⟨hc, hf, hz⟩ := bcell hb; obtain ⟨hc0, hf0, hz0⟩ := bcell h0; clear hb; (try simp only [World.size_alloc, World.size_setCell, World.size_drew] at hc hf hz hc0 hf0 hz0); (try (have hy := (hc _ _ (by omega)).trans r0; have r0 := hy; clear hy)); (try (have hy := (hc _ _ (by omega)).trans r1; have r1 := hy; clear hy)); (try (have hy := (hc _ _ (by omega)).trans r2; have r2 := hy; clear hy)); (try (have hy := (hc _ _ (by omega)).trans r3; have r3 := hy; clear hy)); (try (have hy := (hc _ _ (by omega)).trans r4; have r4 := hy; clear hy)); (try (have hy := (hc _ _ (by omega)).trans r5; have r5 := hy; clear hy))))
    all_goals go_returns
    all_goals first | exact ⟨rfl, hw⟩ | (exfalso; have h := H1.out; simp at *; omega)
  · go_enter Tryd.func13, Tryd.ntmps13
    go_wp2_with fail
    refine wp_gen ?_
    intro W1 hW1
    have hw1 : Below w.heap.size w W1 := by rw [hW1]; go_grown
    have hz1 : w.heap.size + 1 + 1 + 1 ≤ W1.heap.size := by rw [hW1]; go_size
    have c0 : W1.cell? ⟨w.heap.size, 0, none⟩ = some (.int .u32 a) := by rw [hW1]; first | go_cell | (go_simp; done) | exact cell_past (by assumption) (by assumption)
    have c1 : W1.cell? ⟨w.heap.size, 1, none⟩ = some (.int .u32 b) := by rw [hW1]; first | go_cell | (go_simp; done) | exact cell_past (by assumption) (by assumption)
    have c2 : W1.cell? ⟨w.heap.size + 1, 0, none⟩ = some (.int .u32 c) := by rw [hW1]; first | go_cell | (go_simp; done) | exact cell_past (by assumption) (by assumption)
    have c3 : W1.cell? ⟨w.heap.size + 1, 1, none⟩ = some (.int .u32 d) := by rw [hW1]; first | go_cell | (go_simp; done) | exact cell_past (by assumption) (by assumption)
    have c4 : W1.cell? ⟨w.heap.size + 1 + 1, 0, none⟩ = some (.int .u32 e) := by rw [hW1]; first | go_cell | (go_simp; done) | exact cell_past (by assumption) (by assumption)
    have c5 : W1.cell? ⟨w.heap.size + 1 + 1, 1, none⟩ = some (.int .u32 f) := by rw [hW1]; first | go_cell | (go_simp; done) | exact cell_past (by assumption) (by assumption)
    clear hW1
    have k0 := cell_regrown c0
    have k1 := cell_regrown c1
    have k2 := cell_regrown c2
    have k3 := cell_regrown c3
    have k4 := cell_regrown c4
    have k5 := cell_regrown c5
    refine wp_region_quiet_below (by kernel_rfl) (by kernel_rfl) ?_
    try simp only [List.append]
    repeat (go_big_quiet_step (first | (go_at_call 26; with_reducible exact Calls.regrown_of (h1 _)) | (go_at_call 26; with_reducible exact Calls.regrown_of (h3 _)) | (go_at_call 26; with_reducible exact Calls.regrown_of (h4 _))))
    refine wpQuiet_nil ?_
    intro w2 hw2
    have hb : Below W1.heap.size W1 w2 := by obtain ⟨q, rfl⟩ := hw2; exact below_regrown _ _ _
    clear hw2
    clear k0 k1 k2 k3 k4 k5
    have hw := chain hw1 (by omega) hb
    obtain ⟨hc, hf, hz⟩ := bcell hb
    clear hb
    try have r0 : w2.cell? ⟨w.heap.size, 0, none⟩ = some (.int .u32 a) := (hc _ _ (by omega)).trans c0
    try have r1 : w2.cell? ⟨w.heap.size, 1, none⟩ = some (.int .u32 b) := (hc _ _ (by omega)).trans c1
    try have r2 : w2.cell? ⟨w.heap.size + 1, 0, none⟩ = some (.int .u32 c) := (hc _ _ (by omega)).trans c2
    try have r3 : w2.cell? ⟨w.heap.size + 1, 1, none⟩ = some (.int .u32 d) := (hc _ _ (by omega)).trans c3
    try have r4 : w2.cell? ⟨w.heap.size + 1 + 1, 0, none⟩ = some (.int .u32 e) := (hc _ _ (by omega)).trans c4
    try have r5 : w2.cell? ⟨w.heap.size + 1 + 1, 1, none⟩ = some (.int .u32 f) := (hc _ _ (by omega)).trans c5
    have hE := HE.out
    go_wp2_with (first | (go_at_call 26; with_reducible refine Gives.then (h2 _) ?_; intro w1 hb; have hw := chain (B := w.heap.size) (a := w) (by go_grown) (by go_size) hb; (first | have h0 := chain (h0.trans (by go_grown)) (by go_size) hb | have h0 := hb); obtain ⟨hc, hf, hz⟩ := bcell hb; obtain ⟨hc0, hf0, hz0⟩ := bcell h0; clear hb; (try simp only [World.size_alloc, World.size_setCell, World.size_drew] at hc hf hz hc0 hf0 hz0); (try (have hy := (hc _ _ (by omega)).trans r0; have r0 := hy; clear hy)); (try (have hy := (hc _ _ (by omega)).trans r1; have r1 := hy; clear hy)); (try (have hy := (hc _ _ (by omega)).trans r2; have r2 := hy; clear hy)); (try (have hy := (hc _ _ (by omega)).trans r3; have r3 := hy; clear hy)); (try (have hy := (hc _ _ (by omega)).trans r4; have r4 := hy; clear hy)); (try (have hy := (hc _ _ (by omega)).trans r5; have r5 := hy; clear hy))) | (go_at_call 21; with_reducible refine Gives.then (works_any _ ?_ ?_) ?_; (next => (exact Tab.below (n₀ := w.heap.size) (by go_grown) ht hT)); (next => (first | go_size | omega)); intro w1 hb; have hw := chain (B := w.heap.size) (a := w) (by go_grown) (by go_size) hb; (first | have h0 := chain (h0.trans (by go_grown)) (by go_size) hb | have h0 := hb); obtain ⟨hc, hf, hz⟩ := bcell hb; obtain ⟨hc0, hf0, hz0⟩ := bcell h0; clear hb; (try simp only [World.size_alloc, World.size_setCell, World.size_drew] at hc hf hz hc0 hf0 hz0); (try (have hy := (hc _ _ (by omega)).trans r0; have r0 := hy; clear hy)); (try (have hy := (hc _ _ (by omega)).trans r1; have r1 := hy; clear hy)); (try (have hy := (hc _ _ (by omega)).trans r2; have r2 := hy; clear hy)); (try (have hy := (hc _ _ (by omega)).trans r3; have r3 := hy; clear hy)); (try (have hy := (hc _ _ (by omega)).trans r4; have r4 := hy; clear hy)); (try (have hy := (hc _ _ (by omega)).trans r5; have r5 := hy; clear hy))))
    all_goals go_returns
    all_goals first | exact ⟨rfl, hw⟩ | (exfalso; have h := H1.out; simp at *; omega)
theorem orders_any (a b c d e f : BitVec 32) (w : World) (hT : Tab w) (ht : 0 < w.heap.size) :
    Gives 13 #[sn a.toNat b.toNat, sn c.toNat d.toNat, sn e.toNat f.toNat] w (.bool true) :=
  orders_core _ _ _ _ _ _ _ _ _ _ _ w hT ht (gv_order a b c d) (gv_order c d a b) (gv_order c d e f) (gv_order a b e f) rfl (ord_pair _ _ _ _) (ord_range _ _ _ _) ord_trans
    (fun h => by obtain ⟨h1, h2⟩ := ord_zero h; rw [h1, h2])
end Go.Proofs.YtacfopopaieliaaDoor
