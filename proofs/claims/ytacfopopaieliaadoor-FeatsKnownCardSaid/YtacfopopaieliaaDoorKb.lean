/-
  FeatsKnown, walked: the first loop's rounds, then the rest.
-/
import Derived.Test.YtacfopopaieliaaDoorKa
import Derived.Test.YtacfopopaieliaaDoorRl
import Derived.Deep.CutRange
import Derived.Deep.DeepCutAuto
namespace Go.Proofs.YtacfopopaieliaaDoor
open Go.RowKit Go.Sort
attribute [local go_sem ↓] snd_eql snd_neq
theorem calls_gen {P : Program} {f : Nat} {args : Array Value} {W : World} {Q : Ending → World → Prop} (h : ∀ W1, W1 = W → Calls P f args W1 Q) : Calls P f args W Q := h W rfl
/-- The four sounds that are not valid, cell by cell. -/
def badC : List Int := [1, 1, 16777216, 0, 0, 2147483648, 4294967295, 1]
theorem bad_vld : ∀ k, k < 4 → vld (BitVec.ofInt 32 (badC.getD (2 * k) 0)) (BitVec.ofInt 32 (badC.getD (2 * k + 1) 0)) = false := by decide
theorem bad_nat : ∀ k, k < 8 → badC.getD k 0 = ((BitVec.ofInt 32 (badC.getD k 0)).toNat : Int) := by decide
theorem cell_past_d {w : World} {X : Obj} {b o : Nat} {v : Value} (hl : b < w.heap.size) (h : w.drew.cell? ⟨b, o, none⟩ = some v) : (w.alloc X).drew.cell? ⟨b, o, none⟩ = some v := cell_past (w := w) hl h
theorem z3_new (w : World) (i : Nat) (hi : i < 3) : (w.alloc (.cells #[.int .i64 1073741824, .int .i64 1073741824, .int .i64 1073741824] 2)).cell? ⟨w.heap.size, i, none⟩ = some (.int .i64 1073741824) := cell_block (World.alloc_heap_new w _) (by match i, hi with | 0, _ => rfl | 1, _ => rfl | 2, _ => rfl | k + 3, h => omega)
theorem z1_new (w : World) : (w.alloc (.cells #[.int .i64 (-1)] 2)).cell? ⟨w.heap.size, 0, none⟩ = some (.int .i64 (-1)) := cell_block (World.alloc_heap_new w _) rfl
theorem z25_new (w : World) (i : Nat) (hi : i < 25) : (w.alloc (.cells (Array.replicate 25 (.int .i64 0)) 2)).cell? ⟨w.heap.size, i, none⟩ = some (.int .i64 0) := cell_block (World.alloc_heap_new w _) (by rw [Array.getElem?_replicate, if_pos hi])
def BadC (w : World) (b : Nat) : Prop := ∀ j, j < 8 → w.cell? ⟨b, j, none⟩ = some (.int .u32 (badC.getD j 0))
theorem BadC.two {w : World} {b : Nat} (h : BadC w b) (k : Nat) (hk : k < 4) : ∃ p m : BitVec 32, vld p m = false ∧ w.cell? ⟨b, k * 2, none⟩ = some (.int .u32 p.toNat) ∧ w.cell? ⟨b, k * 2 + 1, none⟩ = some (.int .u32 m.toNat) := by
  refine ⟨_, _, bad_vld k hk, ?_, ?_⟩
  · rw [h (k * 2) (by omega), bad_nat (k * 2) (by omega), Nat.mul_comm]
  · rw [h (k * 2 + 1) (by omega), bad_nat (k * 2 + 1) (by omega), Nat.mul_comm]
theorem BadC.below {w w' : World} {b : Nat} (h : BadC w b) (hl : b < w.heap.size) (hb : Below w.heap.size w w') : BadC w' b := fun j hj => (hb.cell (p := ⟨b, j, none⟩) hl).trans (h j hj)
set_option maxRecDepth 100000 in
set_option maxHeartbeats 4000000 in
theorem known_any (w0 : World) (hT : Tab w0) (ht : 0 < w0.heap.size) : Gives 14 #[] w0 (.bool true) := by
  unfold Gives
  go_enter Tryd.func14, Tryd.ntmps14
  go_wp2_with fail
  refine wp_gen ?_
  intro W1 hW1
  have hw : Below w0.heap.size w0 W1 := by rw [hW1]; go_grown
  have hB : BadC W1 w0.heap.size := by rw [hW1]; intro j hj; match j, hj with | 0, _ => exact cell_block (World.alloc_heap_new w0 _) rfl | 1, _ => exact cell_block (World.alloc_heap_new w0 _) rfl | 2, _ => exact cell_block (World.alloc_heap_new w0 _) rfl | 3, _ => exact cell_block (World.alloc_heap_new w0 _) rfl | 4, _ => exact cell_block (World.alloc_heap_new w0 _) rfl | 5, _ => exact cell_block (World.alloc_heap_new w0 _) rfl | 6, _ => exact cell_block (World.alloc_heap_new w0 _) rfl | 7, _ => exact cell_block (World.alloc_heap_new w0 _) rfl | k + 8, h => omega
  have hsz : w0.heap.size + 1 ≤ W1.heap.size := by rw [hW1]; go_size
  clear hW1
  go_loopw [35] (fun p w => ∃ k : Nat, k ≤ 4 ∧ p = .int .i64 (k : Int) ∧ BadC w w0.heap.size ∧ Below w0.heap.size w0 w ∧ w0.heap.size + 1 ≤ w.heap.size) (fun p _ => 4 - (intOf p).toNat)
  case atStart => exact ⟨0, by omega, rfl, hB, hw, hsz⟩
  case round =>
    clear hB hw hsz W1
    obtain ⟨w, rfl⟩ : ∃ w : World, w = wr := ⟨_, rfl⟩
    obtain ⟨k, hk, rfl, hB, hw0, hsz⟩ := hrel
    by_cases hlt : k < 4
    · obtain ⟨p, m, hv, c0, c1⟩ := hB.two k hlt
      have HV := Lib.hid hv; have HB := Lib.hid hB; have HW0 := Lib.hid hw0; clear hv hB hw0
      go_wp2_with fail
      (go_at_call 15; with_reducible refine Gives.then (n_with p m HV.out _) ?_; intro w1 hb; have hw := chain (B := w.heap.size) (a := w) (by go_grown) (by go_size) hb; obtain ⟨hc, hf, hz⟩ := bcell hb; clear hb; (try simp only [World.size_alloc, World.size_setCell, World.size_drew] at hc hf hz); (first | (have hy := (hc _ _ (by omega)).trans r0; have r0 := hy; clear hy) | (have hy := (hc _ _ (by omega)).trans (cell_past (by omega) r0); have r0 := hy; clear hy) | (have hy := (hc _ _ (by omega)).trans (cell_past_d (by omega) r0); have r0 := hy; clear hy) | skip); (first | (have hy := (hc _ _ (by omega)).trans r1; have r1 := hy; clear hy) | (have hy := (hc _ _ (by omega)).trans (cell_past (by omega) r1); have r1 := hy; clear hy) | (have hy := (hc _ _ (by omega)).trans (cell_past_d (by omega) r1); have r1 := hy; clear hy) | skip); (try (have hy : bq < w1.heap.size := (by omega); have lbq := hy; clear hy)); (try have s0 := fun X => cell_past (X := X) lbq r0); (try have s1 := fun X => cell_past (X := X) lbq r1))
      obtain ⟨bq, hbq, lbq, hx⟩ := cell_fresh hc hz; have r0 := hx 0; have r1 := hx 1; clear hx; simp only [World.cell?_alloc_at, List.getElem?_toArray, List.getElem?_cons_zero, List.getElem?_cons_succ] at r0 r1; simp only [hbq]
      go_wp2_with fail
      clear c0 c1 hbq
      refine wp_gen ?_
      intro W1 hW1
      have hw1 : Below w.heap.size w W1 := by rw [hW1]; go_grown
      have hz1 : w1.heap.size ≤ W1.heap.size := by rw [hW1]; go_size
      have c0 : W1.cell? ⟨bq, 0, none⟩ = some (.int .u32 p.toNat) := by rw [hW1]; first | go_cell | (go_simp; done) | exact cell_past (by first | assumption | omega) (by assumption)
      have c1 : W1.cell? ⟨bq, 1, none⟩ = some (.int .u32 m.toNat) := by rw [hW1]; first | go_cell | (go_simp; done) | exact cell_past (by first | assumption | omega) (by assumption)
      clear hW1
      have k0 := cell_regrown c0
      have k1 := cell_regrown c1
      refine wp_region_quiet_below (by kernel_rfl) (by kernel_rfl) ?_
      try simp only [List.append]
      repeat (go_big_quiet_step (first | (go_at_call 41; with_reducible exact Calls.regrown_of (made_p _)) | (go_at_call 32; with_reducible exact Calls.regrown_of (n_dist p m HV.out _ _ _))))
      refine wpQuiet_nil ?_
      intro w2 hw2
      have hb : Below W1.heap.size W1 w2 := by obtain ⟨q, rfl⟩ := hw2; exact below_regrown _ _ _
      clear hw2
      clear k0 k1
      have hw := chain hw1 (by omega) hb
      obtain ⟨hc, hf, hz⟩ := bcell hb
      clear hb
      try have r0 : w2.cell? ⟨bq, 0, none⟩ = some (.int .u32 p.toNat) := (hc _ _ (by omega)).trans c0
      try have r1 : w2.cell? ⟨bq, 1, none⟩ = some (.int .u32 m.toNat) := (hc _ _ (by omega)).trans c1
      go_wp2_with fail
      refine wp_gen ?_
      intro W1 hW1
      have hw1 : Below w.heap.size w W1 := by rw [hW1]; go_grown
      have hz1 : w2.heap.size ≤ W1.heap.size := by rw [hW1]; go_size
      have g0 : W1.cell? ⟨bq, 0, none⟩ = some (.int .u32 p.toNat) := by rw [hW1]; first | assumption | go_cell | (go_simp; done) | (simp [hc, hf, hc0, hf0]; done) | (refine keep_set ?_ (by (try simp only []); omega); first | assumption | (refine keep_set ?_ (by (try simp only []); omega); assumption)) | (simp [*]; done)
      have g1 : W1.cell? ⟨bq, 1, none⟩ = some (.int .u32 m.toNat) := by rw [hW1]; first | assumption | go_cell | (go_simp; done) | (simp [hc, hf, hc0, hf0]; done) | (refine keep_set ?_ (by (try simp only []); omega); first | assumption | (refine keep_set ?_ (by (try simp only []); omega); assumption)) | (simp [*]; done)
      clear hW1
      refine wp_region_late 5 7 [(6, .cells #[.int .u32 0, .int .u32 0] 24 (0, 0))] [0, 1, 2, 3, 4, 5, 6] ?A1 _ (by simp [edged]; rfl) rfl rfl (by kernel_rfl) (by kernel_rfl) (by kernel_rfl) ?hrun1 (by simp [quiets, mkOf]; rfl) ?walk1 ?fin1
      case hrun1 =>
        intro x hx
        simp only [List.mem_cons, List.not_mem_nil, or_false] at hx
        rcases hx with rfl
        all_goals exact ⟨_, rfl, rfl, fun a w => by simp [go_sem, ptr]⟩
      case walk1 =>
        intro W2 hW2
        have e0 : W2.cell? ⟨bq, 0, none⟩ = some (.int .u32 p.toNat) := (hW2.cell (p := ⟨bq, 0, none⟩) (by (try simp only []); omega)).trans g0
        have k0 := cell_regrown e0
        have e1 : W2.cell? ⟨bq, 1, none⟩ = some (.int .u32 m.toNat) := (hW2.cell (p := ⟨bq, 1, none⟩) (by (try simp only []); omega)).trans g1
        have k1 := cell_regrown e1
        repeat (go_big_quiet_step (first | (go_at_call 41; with_reducible exact Calls.regrown_of (made_p _)) | (go_at_call 36; with_reducible exact Calls.regrown_of (n_change p m HV.out _))))
        refine wpQuiet_nil ?_
        rfl
      intro bs w2 hb hF hN
      have hw := chain hw1 (by omega) hb
      obtain ⟨hc, hf, hz⟩ := bcell hb
      have r0 : w2.cell? ⟨bq, 0, none⟩ = some (.int .u32 p.toNat) := (hc _ _ (by omega)).trans g0
      have r1 : w2.cell? ⟨bq, 1, none⟩ = some (.int .u32 m.toNat) := (hc _ _ (by omega)).trans g1
      have m6 := hF (6, .cells #[.int .u32 0, .int .u32 0] 24 (0, 0)) (by simp)
      clear hb hF hN hw1 g0 g1
      simp only [List.map_cons, List.map_nil, List.foldr_cons, List.foldr_nil] at *
      generalize bs 6 = b6 at *
      obtain ⟨m6a, m6b⟩ := m6
      have u6_0 := cell_block (o := 0) (v := .int .u32 0) m6b rfl
      have v6_0 := frozen_block (o := 0) m6b
      have u6_1 := cell_block (o := 1) (v := .int .u32 0) m6b rfl
      have v6_1 := frozen_block (o := 1) m6b
      have l6 := lt_block m6b
      clear m6b
      clear bs
      simp only [dstOf, ptr, Act.put, List.getElem?_toArray, List.getElem?_cons_succ, List.getElem?_cons_zero, Option.bind_some, List.setIfInBounds_toArray, List.set_cons_zero, List.set_cons_succ, List.drop_succ_cons, List.drop_zero]
      go_wp2_with fail
      refine ⟨rfl, ?_⟩
      go_wp2_with fail
      refine wp_gen ?_
      intro W1 hW1
      have hw1 : Below w.heap.size w W1 := by rw [hW1]; go_grown
      have hz1 : w2.heap.size ≤ W1.heap.size := by rw [hW1]; go_size
      have g0 : W1.cell? ⟨bq, 0, none⟩ = some (.int .u32 p.toNat) := by rw [hW1]; first | assumption | go_cell | (go_simp; done) | (simp [hc, hf, hc0, hf0]; done) | (refine keep_set ?_ (by (try simp only []); omega); first | assumption | (refine keep_set ?_ (by (try simp only []); omega); assumption)) | (simp [*]; done)
      have g1 : W1.cell? ⟨bq, 1, none⟩ = some (.int .u32 m.toNat) := by rw [hW1]; first | assumption | go_cell | (go_simp; done) | (simp [hc, hf, hc0, hf0]; done) | (refine keep_set ?_ (by (try simp only []); omega); first | assumption | (refine keep_set ?_ (by (try simp only []); omega); assumption)) | (simp [*]; done)
      clear hW1
      refine wp_region_late 5 7 [(6, .cells #[.int .u32 0, .int .u32 0] 24 (0, 0))] [0, 1, 2, 3, 4, 5, 6] ?A2 _ (by simp [edged]; rfl) rfl rfl (by kernel_rfl) (by kernel_rfl) (by kernel_rfl) ?hrun2 (by simp [quiets, mkOf]; rfl) ?walk2 ?fin2
      case hrun2 =>
        intro x hx
        simp only [List.mem_cons, List.not_mem_nil, or_false] at hx
        rcases hx with rfl
        all_goals exact ⟨_, rfl, rfl, fun a w => by simp [go_sem, ptr]⟩
      case walk2 =>
        intro W2 hW2
        have e0 : W2.cell? ⟨bq, 0, none⟩ = some (.int .u32 p.toNat) := (hW2.cell (p := ⟨bq, 0, none⟩) (by (try simp only []); omega)).trans g0
        have k0 := cell_regrown e0
        have e1 : W2.cell? ⟨bq, 1, none⟩ = some (.int .u32 m.toNat) := (hW2.cell (p := ⟨bq, 1, none⟩) (by (try simp only []); omega)).trans g1
        have k1 := cell_regrown e1
        repeat (go_big_quiet_step (first | (go_at_call 41; with_reducible exact Calls.regrown_of (made_p _)) | (go_at_call 38; with_reducible exact Calls.regrown_of (n_take p m HV.out _))))
        refine wpQuiet_nil ?_
        rfl
      intro bs w2 hb hF hN
      have hw := chain hw1 (by omega) hb
      obtain ⟨hc, hf, hz⟩ := bcell hb
      have r0 : w2.cell? ⟨bq, 0, none⟩ = some (.int .u32 p.toNat) := (hc _ _ (by omega)).trans g0
      have r1 : w2.cell? ⟨bq, 1, none⟩ = some (.int .u32 m.toNat) := (hc _ _ (by omega)).trans g1
      have m6 := hF (6, .cells #[.int .u32 0, .int .u32 0] 24 (0, 0)) (by simp)
      clear hb hF hN hw1 g0 g1
      simp only [List.map_cons, List.map_nil, List.foldr_cons, List.foldr_nil] at *
      generalize bs 6 = b6 at *
      obtain ⟨m6a, m6b⟩ := m6
      have u6_0 := cell_block (o := 0) (v := .int .u32 0) m6b rfl
      have v6_0 := frozen_block (o := 0) m6b
      have u6_1 := cell_block (o := 1) (v := .int .u32 0) m6b rfl
      have v6_1 := frozen_block (o := 1) m6b
      have l6 := lt_block m6b
      clear m6b
      clear bs
      simp only [dstOf, ptr, Act.put, List.getElem?_toArray, List.getElem?_cons_succ, List.getElem?_cons_zero, Option.bind_some, List.setIfInBounds_toArray, List.set_cons_zero, List.set_cons_succ, List.drop_succ_cons, List.drop_zero]
      go_wp2_with fail
      refine ⟨rfl, ?_⟩
      go_wp2_with fail
      first | refine wp_gen ?_ | refine calls_gen ?_
      intro W1 hW1
      have hw1 : Below w.heap.size w W1 := by rw [hW1]; go_grown
      have hz1 : w2.heap.size ≤ W1.heap.size := by rw [hW1]; go_size
      have g0 : W1.cell? ⟨bq, 0, none⟩ = some (.int .u32 p.toNat) := by rw [hW1]; first | go_cell | (go_simp; done) | (simp [hc, hf, hc0, hf0]; done) | (refine keep_set ?_ (by (try simp only []); omega); first | assumption | (refine keep_set ?_ (by (try simp only []); omega); assumption))
      have g1 : W1.cell? ⟨bq, 1, none⟩ = some (.int .u32 m.toNat) := by rw [hW1]; first | go_cell | (go_simp; done) | (simp [hc, hf, hc0, hf0]; done) | (refine keep_set ?_ (by (try simp only []); omega); first | assumption | (refine keep_set ?_ (by (try simp only []); omega); assumption))
      clear hW1
      have r0 := g0; have r1 := g1; have hw := hw1; have lbq : bq < W1.heap.size := by omega
      (go_at_call 22; with_reducible refine Gives.then (n_unify p m HV.out _) ?_; intro w1 hb; have hw := chain (B := w.heap.size) (a := w) (by go_grown) (by go_size) hb; obtain ⟨hc, hf, hz⟩ := bcell hb; clear hb; (try simp only [World.size_alloc, World.size_setCell, World.size_drew] at hc hf hz); (first | (have hy := (hc _ _ (by omega)).trans r0; have r0 := hy; clear hy) | (have hy := (hc _ _ (by omega)).trans (cell_past (by omega) r0); have r0 := hy; clear hy) | (have hy := (hc _ _ (by omega)).trans (cell_past_d (by omega) r0); have r0 := hy; clear hy) | skip); (first | (have hy := (hc _ _ (by omega)).trans r1; have r1 := hy; clear hy) | (have hy := (hc _ _ (by omega)).trans (cell_past (by omega) r1); have r1 := hy; clear hy) | (have hy := (hc _ _ (by omega)).trans (cell_past_d (by omega) r1); have r1 := hy; clear hy) | skip); (try (have hy : bq < w1.heap.size := (by omega); have lbq := hy; clear hy)); (try have s0 := fun X => cell_past (X := X) lbq r0); (try have s1 := fun X => cell_past (X := X) lbq r1))
      go_wp2_with fail
      refine wp_gen ?_
      intro W1 hW1
      have hw1 : Below w.heap.size w W1 := by rw [hW1]; go_grown
      have hz1 : w1.heap.size ≤ W1.heap.size := by rw [hW1]; go_size
      have c0 : W1.cell? ⟨bq, 0, none⟩ = some (.int .u32 p.toNat) := by rw [hW1]; first | go_cell | (go_simp; done) | exact cell_past (by first | assumption | omega) (by assumption)
      have c1 : W1.cell? ⟨bq, 1, none⟩ = some (.int .u32 m.toNat) := by rw [hW1]; first | go_cell | (go_simp; done) | exact cell_past (by first | assumption | omega) (by assumption)
      clear hW1
      have k0 := cell_regrown c0
      have k1 := cell_regrown c1
      refine wp_region_quiet_below (by kernel_rfl) (by kernel_rfl) ?_
      try simp only [List.append]
      repeat (go_big_quiet_step (first | (go_at_call 17; with_reducible exact Calls.regrown_of (n_valid p m HV.out _)) | (go_at_call 19; with_reducible exact Calls.regrown_of (n_get p m HV.out _)) | (go_at_call 24; with_reducible exact Calls.regrown_of (n_sat p m HV.out _)) | (go_at_call 41; with_reducible exact Calls.regrown_of (made_p _)) | (go_at_call 30; with_reducible exact Calls.regrown_of (n_diff p m HV.out _)) | (go_at_call 28; with_reducible exact Calls.regrown_of (n_meet p m HV.out _))))
      refine wpQuiet_nil ?_
      intro w2 hw2
      have hb : Below W1.heap.size W1 w2 := by obtain ⟨q, rfl⟩ := hw2; exact below_regrown _ _ _
      clear hw2
      clear k0 k1
      have hw := chain hw1 (by omega) hb
      obtain ⟨hc, hf, hz⟩ := bcell hb
      clear hb
      try have r0 : w2.cell? ⟨bq, 0, none⟩ = some (.int .u32 p.toNat) := (hc _ _ (by omega)).trans c0
      try have r1 : w2.cell? ⟨bq, 1, none⟩ = some (.int .u32 m.toNat) := (hc _ _ (by omega)).trans c1
      go_wp2_with fail
      go_roundw
      case rel => exact ⟨k + 1, by omega, by go_num, HB.out.below (by omega) hw, HW0.out.trans (hw.mono HW0.out.size), by have := hw.size; omega⟩
      case measure => simp [intOf]; omega
    · have hTw : Tab w := hT.below hw0 ht
      have htw : 0 < w.heap.size := by have := hw0.size; omega
      have HW0 := Lib.hid hw0; clear hB hw0
      go_wp2_with (first | (go_at_call 41; with_reducible refine Gives.then (made_p _) ?_; intro w1 hb; have hw := chain (B := w.heap.size) (a := w) (by go_grown) (by go_size) hb; obtain ⟨hc, hf, hz⟩ := bcell hb; clear hb; (try simp only [World.size_alloc, World.size_setCell, World.size_drew] at hc hf hz); (first | (have hy := (hc _ _ (by omega)).trans r0; have r0 := hy; clear hy) | (have hy := (hc _ _ (by omega)).trans (cell_past (by omega) r0); have r0 := hy; clear hy) | (have hy := (hc _ _ (by omega)).trans (cell_past_d (by omega) r0); have r0 := hy; clear hy) | skip); (first | (have hy := (hc _ _ (by omega)).trans r1; have r1 := hy; clear hy) | (have hy := (hc _ _ (by omega)).trans (cell_past (by omega) r1); have r1 := hy; clear hy) | (have hy := (hc _ _ (by omega)).trans (cell_past_d (by omega) r1); have r1 := hy; clear hy) | skip); (try (have hy : bq < w1.heap.size := (by omega); have lbq := hy; clear hy)); (try have s0 := fun X => cell_past (X := X) lbq r0); (try have s1 := fun X => cell_past (X := X) lbq r1)) | (go_at_call 15; with_reducible refine Gives.then (o_with1 _) ?_; intro w1 hb; have hw := chain (B := w.heap.size) (a := w) (by go_grown) (by go_size) hb; obtain ⟨hc, hf, hz⟩ := bcell hb; clear hb; (try simp only [World.size_alloc, World.size_setCell, World.size_drew] at hc hf hz); (first | (have hy := (hc _ _ (by omega)).trans r0; have r0 := hy; clear hy) | (have hy := (hc _ _ (by omega)).trans (cell_past (by omega) r0); have r0 := hy; clear hy) | (have hy := (hc _ _ (by omega)).trans (cell_past_d (by omega) r0); have r0 := hy; clear hy) | skip); (first | (have hy := (hc _ _ (by omega)).trans r1; have r1 := hy; clear hy) | (have hy := (hc _ _ (by omega)).trans (cell_past (by omega) r1); have r1 := hy; clear hy) | (have hy := (hc _ _ (by omega)).trans (cell_past_d (by omega) r1); have r1 := hy; clear hy) | skip); (try (have hy : bq < w1.heap.size := (by omega); have lbq := hy; clear hy)); (try have s0 := fun X => cell_past (X := X) lbq r0); (try have s1 := fun X => cell_past (X := X) lbq r1)) | (go_at_call 15; with_reducible refine Gives.then (o_with2 _) ?_; intro w1 hb; have hw := chain (B := w.heap.size) (a := w) (by go_grown) (by go_size) hb; obtain ⟨hc, hf, hz⟩ := bcell hb; clear hb; (try simp only [World.size_alloc, World.size_setCell, World.size_drew] at hc hf hz); (first | (have hy := (hc _ _ (by omega)).trans r0; have r0 := hy; clear hy) | (have hy := (hc _ _ (by omega)).trans (cell_past (by omega) r0); have r0 := hy; clear hy) | (have hy := (hc _ _ (by omega)).trans (cell_past_d (by omega) r0); have r0 := hy; clear hy) | skip); (first | (have hy := (hc _ _ (by omega)).trans r1; have r1 := hy; clear hy) | (have hy := (hc _ _ (by omega)).trans (cell_past (by omega) r1); have r1 := hy; clear hy) | (have hy := (hc _ _ (by omega)).trans (cell_past_d (by omega) r1); have r1 := hy; clear hy) | skip); (try (have hy : bq < w1.heap.size := (by omega); have lbq := hy; clear hy)); (try have s0 := fun X => cell_past (X := X) lbq r0); (try have s1 := fun X => cell_past (X := X) lbq r1)))
      (go_at_call 36; with_reducible refine Gives.then (o_change1 _) ?_; intro w1 hb; have hw := chain (B := w.heap.size) (a := w) (by go_grown) (by go_size) hb; obtain ⟨hc, hf, hz⟩ := bcell hb; clear hb; (try simp only [World.size_alloc, World.size_setCell, World.size_drew] at hc hf hz); (first | (have hy := (hc _ _ (by omega)).trans r0; have r0 := hy; clear hy) | (have hy := (hc _ _ (by omega)).trans (cell_past (by omega) r0); have r0 := hy; clear hy) | (have hy := (hc _ _ (by omega)).trans (cell_past_d (by omega) r0); have r0 := hy; clear hy) | skip); (first | (have hy := (hc _ _ (by omega)).trans r1; have r1 := hy; clear hy) | (have hy := (hc _ _ (by omega)).trans (cell_past (by omega) r1); have r1 := hy; clear hy) | (have hy := (hc _ _ (by omega)).trans (cell_past_d (by omega) r1); have r1 := hy; clear hy) | skip); (try (have hy : bq < w1.heap.size := (by omega); have lbq := hy; clear hy)); (try have s0 := fun X => cell_past (X := X) lbq r0); (try have s1 := fun X => cell_past (X := X) lbq r1))
      go_wp2_with fail
      (go_at_call 41; with_reducible refine Gives.then (made_p _) ?_; intro w1 hb; have hw := chain (B := w.heap.size) (a := w) (by go_grown) (by go_size) hb; obtain ⟨hc, hf, hz⟩ := bcell hb; clear hb; (try simp only [World.size_alloc, World.size_setCell, World.size_drew] at hc hf hz); (first | (have hy := (hc _ _ (by omega)).trans r0; have r0 := hy; clear hy) | (have hy := (hc _ _ (by omega)).trans (cell_past (by omega) r0); have r0 := hy; clear hy) | (have hy := (hc _ _ (by omega)).trans (cell_past_d (by omega) r0); have r0 := hy; clear hy) | skip); (first | (have hy := (hc _ _ (by omega)).trans r1; have r1 := hy; clear hy) | (have hy := (hc _ _ (by omega)).trans (cell_past (by omega) r1); have r1 := hy; clear hy) | (have hy := (hc _ _ (by omega)).trans (cell_past_d (by omega) r1); have r1 := hy; clear hy) | skip); (try (have hy : bq < w1.heap.size := (by omega); have lbq := hy; clear hy)); (try have s0 := fun X => cell_past (X := X) lbq r0); (try have s1 := fun X => cell_past (X := X) lbq r1))
      obtain ⟨bq, hbq, lbq, hx⟩ := cell_fresh hc hz; have r0 := hx 0; have r1 := hx 1; clear hx; simp only [World.cell?_alloc_at, List.getElem?_toArray, List.getElem?_cons_zero, List.getElem?_cons_succ] at r0 r1; simp only [hbq]
      go_wp2_with (first | (go_at_call 41; with_reducible refine Gives.then (made_p _) ?_; intro w1 hb; have hw := chain (B := w.heap.size) (a := w) (by go_grown) (by go_size) hb; obtain ⟨hc, hf, hz⟩ := bcell hb; clear hb; (try simp only [World.size_alloc, World.size_setCell, World.size_drew] at hc hf hz); (first | (have hy := (hc _ _ (by omega)).trans r0; have r0 := hy; clear hy) | (have hy := (hc _ _ (by omega)).trans (cell_past (by omega) r0); have r0 := hy; clear hy) | (have hy := (hc _ _ (by omega)).trans (cell_past_d (by omega) r0); have r0 := hy; clear hy) | skip); (first | (have hy := (hc _ _ (by omega)).trans r1; have r1 := hy; clear hy) | (have hy := (hc _ _ (by omega)).trans (cell_past (by omega) r1); have r1 := hy; clear hy) | (have hy := (hc _ _ (by omega)).trans (cell_past_d (by omega) r1); have r1 := hy; clear hy) | skip); (try (have hy : bq < w1.heap.size := (by omega); have lbq := hy; clear hy)); (try have s0 := fun X => cell_past (X := X) lbq r0); (try have s1 := fun X => cell_past (X := X) lbq r1)) | (go_at_call 36; with_reducible refine Gives.then (o_change2 _) ?_; intro w1 hb; have hw := chain (B := w.heap.size) (a := w) (by go_grown) (by go_size) hb; obtain ⟨hc, hf, hz⟩ := bcell hb; clear hb; (try simp only [World.size_alloc, World.size_setCell, World.size_drew] at hc hf hz); (first | (have hy := (hc _ _ (by omega)).trans r0; have r0 := hy; clear hy) | (have hy := (hc _ _ (by omega)).trans (cell_past (by omega) r0); have r0 := hy; clear hy) | (have hy := (hc _ _ (by omega)).trans (cell_past_d (by omega) r0); have r0 := hy; clear hy) | skip); (first | (have hy := (hc _ _ (by omega)).trans r1; have r1 := hy; clear hy) | (have hy := (hc _ _ (by omega)).trans (cell_past (by omega) r1); have r1 := hy; clear hy) | (have hy := (hc _ _ (by omega)).trans (cell_past_d (by omega) r1); have r1 := hy; clear hy) | skip); (try (have hy : bq < w1.heap.size := (by omega); have lbq := hy; clear hy)); (try have s0 := fun X => cell_past (X := X) lbq r0); (try have s1 := fun X => cell_past (X := X) lbq r1)) | (go_at_call 38; with_reducible refine Gives.then (o_take _) ?_; intro w1 hb; have hw := chain (B := w.heap.size) (a := w) (by go_grown) (by go_size) hb; obtain ⟨hc, hf, hz⟩ := bcell hb; clear hb; (try simp only [World.size_alloc, World.size_setCell, World.size_drew] at hc hf hz); (first | (have hy := (hc _ _ (by omega)).trans r0; have r0 := hy; clear hy) | (have hy := (hc _ _ (by omega)).trans (cell_past (by omega) r0); have r0 := hy; clear hy) | (have hy := (hc _ _ (by omega)).trans (cell_past_d (by omega) r0); have r0 := hy; clear hy) | skip); (first | (have hy := (hc _ _ (by omega)).trans r1; have r1 := hy; clear hy) | (have hy := (hc _ _ (by omega)).trans (cell_past (by omega) r1); have r1 := hy; clear hy) | (have hy := (hc _ _ (by omega)).trans (cell_past_d (by omega) r1); have r1 := hy; clear hy) | skip); (try (have hy : bq < w1.heap.size := (by omega); have lbq := hy; clear hy)); (try have s0 := fun X => cell_past (X := X) lbq r0); (try have s1 := fun X => cell_past (X := X) lbq r1)))
      first | refine wp_gen ?_ | refine calls_gen ?_
      intro W1 hW1
      have hw1 : Below w.heap.size w W1 := by rw [hW1]; go_grown
      have hz1 : w1.heap.size ≤ W1.heap.size := by rw [hW1]; go_size
      have g0 : W1.cell? ⟨bq, 0, none⟩ = some (.int .u32 1) := by rw [hW1]; first | go_cell | (go_simp; done) | (simp [hc, hf, hc0, hf0]; done) | (refine keep_set ?_ (by (try simp only []); omega); first | assumption | (refine keep_set ?_ (by (try simp only []); omega); assumption))
      have g1 : W1.cell? ⟨bq, 1, none⟩ = some (.int .u32 4) := by rw [hW1]; first | go_cell | (go_simp; done) | (simp [hc, hf, hc0, hf0]; done) | (refine keep_set ?_ (by (try simp only []); omega); first | assumption | (refine keep_set ?_ (by (try simp only []); omega); assumption))
      clear hW1
      have r0 := g0; have r1 := g1; have hw := hw1; have lbq : bq < W1.heap.size := by omega
      clear g0 g1 hw1 s0 s1 hc hf hz
      have hmk : ∀ w, Sem.run Tryd.prog (Instr.makeSlice 38 (Value.int IntKind.i64 25) (Value.int IntKind.i64 25)) w = .ok (.slice (some ⟨w.heap.size, 0, none⟩) 25 25) (w.alloc (.cells (Array.replicate 25 (.int .i64 0)) 2)) := fun _ => by kernel_rfl
      go_cut [23, 24] from 142 to 149 (fun a b wx => a = .int .i64 0 ∧ b = .int .i64 2 ∧ wx.cell? ⟨bq, 0, none⟩ = some (.int .u32 1) ∧ wx.cell? ⟨bq, 1, none⟩ = some (.int .u32 4) ∧ bq < wx.heap.size ∧ Below w.heap.size w wx ∧ w.heap.size ≤ wx.heap.size)
      case first =>
        have q0 : W1.drew.cell? ⟨bq, 0, none⟩ = some (.int .u32 1) := r0
        have q1 : W1.drew.cell? ⟨bq, 1, none⟩ = some (.int .u32 4) := r1
        clear r0 r1
        have r0 := q0; have r1 := q1; clear q0 q1
        go_region_with (first | ((go_at_call 41; with_reducible refine Gives.then (made_p _) ?_; intro w1 hb; have hw := chain (B := w.heap.size) (a := w) (by go_grown) (by go_size) hb; obtain ⟨hc, hf, hz⟩ := bcell hb; clear hb; (try simp only [World.size_alloc, World.size_setCell, World.size_drew] at hc hf hz); (first | (have hy := (hc _ _ (by omega)).trans r0; have r0 := hy; clear hy) | (have hy := (hc _ _ (by omega)).trans (cell_past (by omega) r0); have r0 := hy; clear hy) | (have hy := (hc _ _ (by omega)).trans (cell_past_d (by omega) r0); have r0 := hy; clear hy) | skip); (first | (have hy := (hc _ _ (by omega)).trans r1; have r1 := hy; clear hy) | (have hy := (hc _ _ (by omega)).trans (cell_past (by omega) r1); have r1 := hy; clear hy) | (have hy := (hc _ _ (by omega)).trans (cell_past_d (by omega) r1); have r1 := hy; clear hy) | skip); (try (have hy : bq < w1.heap.size := (by omega); have lbq := hy; clear hy)); (try have s0 := fun X => cell_past (X := X) lbq r0); (try have s1 := fun X => cell_past (X := X) lbq r1)); first | (have zz := fun i (hi : i < 25) => (hc _ i (by omega)).trans (z25_new _ i hi)) | (have zy := fun i (hi : i < 25) => (hc _ i (by omega)).trans (zz i hi); clear zz; have zz := zy; clear zy) | skip) | (go_at_call 32; with_reducible refine Gives.then (o_dist1 _ _ ?_ ?_) ?_; (next => (first | go_size | (simp only [World.size_alloc]; omega) | omega)); (next => (first | exact zz | exact z25_new _)); intro w1 hb; have hw := chain (B := w.heap.size) (a := w) (by go_grown) (by go_size) hb; obtain ⟨hc, hf, hz⟩ := bcell hb; clear hb; (try simp only [World.size_alloc, World.size_setCell, World.size_drew] at hc hf hz); (first | (have hy := (hc _ _ (by omega)).trans r0; have r0 := hy; clear hy) | (have hy := (hc _ _ (by omega)).trans (cell_past (by omega) r0); have r0 := hy; clear hy) | (have hy := (hc _ _ (by omega)).trans (cell_past_d (by omega) r0); have r0 := hy; clear hy) | skip); (first | (have hy := (hc _ _ (by omega)).trans r1; have r1 := hy; clear hy) | (have hy := (hc _ _ (by omega)).trans (cell_past (by omega) r1); have r1 := hy; clear hy) | (have hy := (hc _ _ (by omega)).trans (cell_past_d (by omega) r1); have r1 := hy; clear hy) | skip); (try (have hy : bq < w1.heap.size := (by omega); have lbq := hy; clear hy)); (try have s0 := fun X => cell_past (X := X) lbq r0); (try have s1 := fun X => cell_past (X := X) lbq r1)))
        all_goals (go_wp2_with fail; go_meet; exact ⟨rfl, rfl, r0, r1, lbq, hw, hw.size⟩)
      case rest =>
        obtain ⟨rfl, rfl, r0, r1, lbq, hw, hws⟩ := hcut
        clear s0 s1 hc hf hz
        go_wp2_with (first | (go_at_call 41; with_reducible refine Gives.then (made_p _) ?_; intro w1 hb; have hw := chain (B := w.heap.size) (a := w) (by go_grown) (by go_size) hb; obtain ⟨hc, hf, hz⟩ := bcell hb; clear hb; (try simp only [World.size_alloc, World.size_setCell, World.size_drew] at hc hf hz); (first | (have hy := (hc _ _ (by omega)).trans r0; have r0 := hy; clear hy) | (have hy := (hc _ _ (by omega)).trans (cell_past (by omega) r0); have r0 := hy; clear hy) | (have hy := (hc _ _ (by omega)).trans (cell_past_d (by omega) r0); have r0 := hy; clear hy) | skip); (first | (have hy := (hc _ _ (by omega)).trans r1; have r1 := hy; clear hy) | (have hy := (hc _ _ (by omega)).trans (cell_past (by omega) r1); have r1 := hy; clear hy) | (have hy := (hc _ _ (by omega)).trans (cell_past_d (by omega) r1); have r1 := hy; clear hy) | skip); (try (have hy : bq < w1.heap.size := (by omega); have lbq := hy; clear hy)); (try have s0 := fun X => cell_past (X := X) lbq r0); (try have s1 := fun X => cell_past (X := X) lbq r1)) | (go_at_call 42; with_reducible refine Gives.then (made_a _) ?_; intro w1 hb; have hw := chain (B := w.heap.size) (a := w) (by go_grown) (by go_size) hb; obtain ⟨hc, hf, hz⟩ := bcell hb; clear hb; (try simp only [World.size_alloc, World.size_setCell, World.size_drew] at hc hf hz); (first | (have hy := (hc _ _ (by omega)).trans r0; have r0 := hy; clear hy) | (have hy := (hc _ _ (by omega)).trans (cell_past (by omega) r0); have r0 := hy; clear hy) | (have hy := (hc _ _ (by omega)).trans (cell_past_d (by omega) r0); have r0 := hy; clear hy) | skip); (first | (have hy := (hc _ _ (by omega)).trans r1; have r1 := hy; clear hy) | (have hy := (hc _ _ (by omega)).trans (cell_past (by omega) r1); have r1 := hy; clear hy) | (have hy := (hc _ _ (by omega)).trans (cell_past_d (by omega) r1); have r1 := hy; clear hy) | skip); (try (have hy : bq < w1.heap.size := (by omega); have lbq := hy; clear hy)); (try have s0 := fun X => cell_past (X := X) lbq r0); (try have s1 := fun X => cell_past (X := X) lbq r1)))
        (go_at_call 32; with_reducible refine Gives.then (o_dist2 _ _ ?_ ?_ ?_ ?_) ?_; (next => (go_size)); (next => (exact z3_new _)); (next => (exact Tab.below (n₀ := w.heap.size) (by go_grown) htw hTw)); (next => ((simp only [World.size_alloc]; have := hw.size; omega))); intro w1 hb; have hw := chain (B := w.heap.size) (a := w) (by go_grown) (by go_size) hb; obtain ⟨hc, hf, hz⟩ := bcell hb; clear hb; (try simp only [World.size_alloc, World.size_setCell, World.size_drew] at hc hf hz); (first | (have hy := (hc _ _ (by omega)).trans r0; have r0 := hy; clear hy) | (have hy := (hc _ _ (by omega)).trans (cell_past (by omega) r0); have r0 := hy; clear hy) | (have hy := (hc _ _ (by omega)).trans (cell_past_d (by omega) r0); have r0 := hy; clear hy) | skip); (first | (have hy := (hc _ _ (by omega)).trans r1; have r1 := hy; clear hy) | (have hy := (hc _ _ (by omega)).trans (cell_past (by omega) r1); have r1 := hy; clear hy) | (have hy := (hc _ _ (by omega)).trans (cell_past_d (by omega) r1); have r1 := hy; clear hy) | skip); (try (have hy : bq < w1.heap.size := (by omega); have lbq := hy; clear hy)); (try have s0 := fun X => cell_past (X := X) lbq r0); (try have s1 := fun X => cell_past (X := X) lbq r1))
        go_wp2_with fail
        (go_at_call 22; with_reducible refine Gives.then (o_unify _) ?_; intro w1 hb; have hw := chain (B := w.heap.size) (a := w) (by go_grown) (by go_size) hb; obtain ⟨hc, hf, hz⟩ := bcell hb; clear hb; (try simp only [World.size_alloc, World.size_setCell, World.size_drew] at hc hf hz); (first | (have hy := (hc _ _ (by omega)).trans r0; have r0 := hy; clear hy) | (have hy := (hc _ _ (by omega)).trans (cell_past (by omega) r0); have r0 := hy; clear hy) | (have hy := (hc _ _ (by omega)).trans (cell_past_d (by omega) r0); have r0 := hy; clear hy) | skip); (first | (have hy := (hc _ _ (by omega)).trans r1; have r1 := hy; clear hy) | (have hy := (hc _ _ (by omega)).trans (cell_past (by omega) r1); have r1 := hy; clear hy) | (have hy := (hc _ _ (by omega)).trans (cell_past_d (by omega) r1); have r1 := hy; clear hy) | skip); (try (have hy : bq < w1.heap.size := (by omega); have lbq := hy; clear hy)); (try have s0 := fun X => cell_past (X := X) lbq r0); (try have s1 := fun X => cell_past (X := X) lbq r1))
        go_wp2_with (first | (go_at_call 41; with_reducible refine Gives.then (made_p _) ?_; intro w1 hb; have hw := chain (B := w.heap.size) (a := w) (by go_grown) (by go_size) hb; obtain ⟨hc, hf, hz⟩ := bcell hb; clear hb; (try simp only [World.size_alloc, World.size_setCell, World.size_drew] at hc hf hz); (first | (have hy := (hc _ _ (by omega)).trans r0; have r0 := hy; clear hy) | (have hy := (hc _ _ (by omega)).trans (cell_past (by omega) r0); have r0 := hy; clear hy) | (have hy := (hc _ _ (by omega)).trans (cell_past_d (by omega) r0); have r0 := hy; clear hy) | skip); (first | (have hy := (hc _ _ (by omega)).trans r1; have r1 := hy; clear hy) | (have hy := (hc _ _ (by omega)).trans (cell_past (by omega) r1); have r1 := hy; clear hy) | (have hy := (hc _ _ (by omega)).trans (cell_past_d (by omega) r1); have r1 := hy; clear hy) | skip); (try (have hy : bq < w1.heap.size := (by omega); have lbq := hy; clear hy)); (try have s0 := fun X => cell_past (X := X) lbq r0); (try have s1 := fun X => cell_past (X := X) lbq r1)) | (go_at_call 43; with_reducible refine Gives.then (made_b _) ?_; intro w1 hb; have hw := chain (B := w.heap.size) (a := w) (by go_grown) (by go_size) hb; obtain ⟨hc, hf, hz⟩ := bcell hb; clear hb; (try simp only [World.size_alloc, World.size_setCell, World.size_drew] at hc hf hz); (first | (have hy := (hc _ _ (by omega)).trans r0; have r0 := hy; clear hy) | (have hy := (hc _ _ (by omega)).trans (cell_past (by omega) r0); have r0 := hy; clear hy) | (have hy := (hc _ _ (by omega)).trans (cell_past_d (by omega) r0); have r0 := hy; clear hy) | skip); (first | (have hy := (hc _ _ (by omega)).trans r1; have r1 := hy; clear hy) | (have hy := (hc _ _ (by omega)).trans (cell_past (by omega) r1); have r1 := hy; clear hy) | (have hy := (hc _ _ (by omega)).trans (cell_past_d (by omega) r1); have r1 := hy; clear hy) | skip); (try (have hy : bq < w1.heap.size := (by omega); have lbq := hy; clear hy)); (try have s0 := fun X => cell_past (X := X) lbq r0); (try have s1 := fun X => cell_past (X := X) lbq r1)) | (go_at_call 30; with_reducible refine Gives.then (o_diff _) ?_; intro w1 hb; have hw := chain (B := w.heap.size) (a := w) (by go_grown) (by go_size) hb; obtain ⟨hc, hf, hz⟩ := bcell hb; clear hb; (try simp only [World.size_alloc, World.size_setCell, World.size_drew] at hc hf hz); (first | (have hy := (hc _ _ (by omega)).trans r0; have r0 := hy; clear hy) | (have hy := (hc _ _ (by omega)).trans (cell_past (by omega) r0); have r0 := hy; clear hy) | (have hy := (hc _ _ (by omega)).trans (cell_past_d (by omega) r0); have r0 := hy; clear hy) | skip); (first | (have hy := (hc _ _ (by omega)).trans r1; have r1 := hy; clear hy) | (have hy := (hc _ _ (by omega)).trans (cell_past (by omega) r1); have r1 := hy; clear hy) | (have hy := (hc _ _ (by omega)).trans (cell_past_d (by omega) r1); have r1 := hy; clear hy) | skip); (try (have hy : bq < w1.heap.size := (by omega); have lbq := hy; clear hy)); (try have s0 := fun X => cell_past (X := X) lbq r0); (try have s1 := fun X => cell_past (X := X) lbq r1)) | (go_at_call 34; with_reducible refine Gives.then (o_costs2 _ _ ?_ ?_) ?_; (next => (go_size)); (next => (exact z1_new _)); intro w1 hb; have hw := chain (B := w.heap.size) (a := w) (by go_grown) (by go_size) hb; obtain ⟨hc, hf, hz⟩ := bcell hb; clear hb; (try simp only [World.size_alloc, World.size_setCell, World.size_drew] at hc hf hz); (first | (have hy := (hc _ _ (by omega)).trans r0; have r0 := hy; clear hy) | (have hy := (hc _ _ (by omega)).trans (cell_past (by omega) r0); have r0 := hy; clear hy) | (have hy := (hc _ _ (by omega)).trans (cell_past_d (by omega) r0); have r0 := hy; clear hy) | skip); (first | (have hy := (hc _ _ (by omega)).trans r1; have r1 := hy; clear hy) | (have hy := (hc _ _ (by omega)).trans (cell_past (by omega) r1); have r1 := hy; clear hy) | (have hy := (hc _ _ (by omega)).trans (cell_past_d (by omega) r1); have r1 := hy; clear hy) | skip); (try (have hy : bq < w1.heap.size := (by omega); have lbq := hy; clear hy)); (try have s0 := fun X => cell_past (X := X) lbq r0); (try have s1 := fun X => cell_past (X := X) lbq r1)) | (go_at_call 34; with_reducible refine Gives.then (o_costs1 _) ?_; intro w1 hb; have hw := chain (B := w.heap.size) (a := w) (by go_grown) (by go_size) hb; obtain ⟨hc, hf, hz⟩ := bcell hb; clear hb; (try simp only [World.size_alloc, World.size_setCell, World.size_drew] at hc hf hz); (first | (have hy := (hc _ _ (by omega)).trans r0; have r0 := hy; clear hy) | (have hy := (hc _ _ (by omega)).trans (cell_past (by omega) r0); have r0 := hy; clear hy) | (have hy := (hc _ _ (by omega)).trans (cell_past_d (by omega) r0); have r0 := hy; clear hy) | skip); (first | (have hy := (hc _ _ (by omega)).trans r1; have r1 := hy; clear hy) | (have hy := (hc _ _ (by omega)).trans (cell_past (by omega) r1); have r1 := hy; clear hy) | (have hy := (hc _ _ (by omega)).trans (cell_past_d (by omega) r1); have r1 := hy; clear hy) | skip); (try (have hy : bq < w1.heap.size := (by omega); have lbq := hy; clear hy)); (try have s0 := fun X => cell_past (X := X) lbq r0); (try have s1 := fun X => cell_past (X := X) lbq r1)) | (go_at_call 34; with_reducible refine Gives.then (o_costs0 _) ?_; intro w1 hb; have hw := chain (B := w.heap.size) (a := w) (by go_grown) (by go_size) hb; obtain ⟨hc, hf, hz⟩ := bcell hb; clear hb; (try simp only [World.size_alloc, World.size_setCell, World.size_drew] at hc hf hz); (first | (have hy := (hc _ _ (by omega)).trans r0; have r0 := hy; clear hy) | (have hy := (hc _ _ (by omega)).trans (cell_past (by omega) r0); have r0 := hy; clear hy) | (have hy := (hc _ _ (by omega)).trans (cell_past_d (by omega) r0); have r0 := hy; clear hy) | skip); (first | (have hy := (hc _ _ (by omega)).trans r1; have r1 := hy; clear hy) | (have hy := (hc _ _ (by omega)).trans (cell_past (by omega) r1); have r1 := hy; clear hy) | (have hy := (hc _ _ (by omega)).trans (cell_past_d (by omega) r1); have r1 := hy; clear hy) | skip); (try (have hy : bq < w1.heap.size := (by omega); have lbq := hy; clear hy)); (try have s0 := fun X => cell_past (X := X) lbq r0); (try have s1 := fun X => cell_past (X := X) lbq r1)) | (go_at_call 21; with_reducible refine Gives.then (works_any _ ?_ ?_) ?_; (next => (exact Tab.below (n₀ := w.heap.size) (by go_grown) htw hTw)); (next => (first | go_size | (have := hw.size; omega))); intro w1 hb; have hw := chain (B := w.heap.size) (a := w) (by go_grown) (by go_size) hb; obtain ⟨hc, hf, hz⟩ := bcell hb; clear hb; (try simp only [World.size_alloc, World.size_setCell, World.size_drew] at hc hf hz); (first | (have hy := (hc _ _ (by omega)).trans r0; have r0 := hy; clear hy) | (have hy := (hc _ _ (by omega)).trans (cell_past (by omega) r0); have r0 := hy; clear hy) | (have hy := (hc _ _ (by omega)).trans (cell_past_d (by omega) r0); have r0 := hy; clear hy) | skip); (first | (have hy := (hc _ _ (by omega)).trans r1; have r1 := hy; clear hy) | (have hy := (hc _ _ (by omega)).trans (cell_past (by omega) r1); have r1 := hy; clear hy) | (have hy := (hc _ _ (by omega)).trans (cell_past_d (by omega) r1); have r1 := hy; clear hy) | skip); (try (have hy : bq < w1.heap.size := (by omega); have lbq := hy; clear hy)); (try have s0 := fun X => cell_past (X := X) lbq r0); (try have s1 := fun X => cell_past (X := X) lbq r1)))
        go_returns
        exact ⟨rfl, HW0.out.trans (hw.mono HW0.out.size)⟩
end Go.Proofs.YtacfopopaieliaaDoor
