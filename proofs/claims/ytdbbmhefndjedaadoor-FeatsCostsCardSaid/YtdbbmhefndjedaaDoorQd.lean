/-
  FeatsCosts, walked.
-/
import Derived.Test.YtdbbmhefndjedaaDoorMt
import Derived.Deep.CutRange
import Derived.Deep.RegionHeld3
namespace Go.Proofs.YtdbbmhefndjedaaDoor
open Go.RowKit Go.Sort
attribute [local go_sem ↓] snd_eql snd_neq
theorem costs_keep {W1 w' : World} {b : Nat} {u v : Value} (g4 : W1.cell? ⟨b, 0, none⟩ = some u) (g5 : W1.cell? ⟨b, 1, none⟩ = some v) (hb : b < W1.heap.size) (hB : Below W1.heap.size W1 w') : w'.cell? ⟨b, 0, none⟩ = some u ∧ w'.cell? ⟨b, 1, none⟩ = some v ∧ W1.heap.size ≤ w'.heap.size ∧ Below W1.heap.size W1 w' :=
  ⟨(hB.cell (p := ⟨b, 0, none⟩) hb).trans g4, (hB.cell (p := ⟨b, 1, none⟩) hb).trans g5, hB.size, hB⟩
theorem Tab.below2 {A B : World} (h : Tab A) (hb : Below A.heap.size A B) (h0 : 0 < A.heap.size) : Tab B := Tab.below (n₀ := A.heap.size) hb h0 h
theorem cell_heap {w w' : World} {b : Nat} (h : w'.heap[b]? = w.heap[b]?) (o : Nat) : w'.cell? ⟨b, o, none⟩ = w.cell? ⟨b, o, none⟩ := by simp [World.cell?, h]
theorem frozen_heap {w w' : World} {b : Nat} (h : w'.heap[b]? = w.heap[b]?) (o : Nat) : w'.frozen? ⟨b, o, none⟩ = w.frozen? ⟨b, o, none⟩ := by simp [World.frozen?, h]
set_option maxRecDepth 100000 in
set_option maxHeartbeats 8000000 in
theorem costs_core (x y s t gap X E C : Int) (sl : Value) (zs : List Int) (w : World) (hm : zs.length ≤ 9223372036854775807) (hs : Wts w sl zs) (hT : Tab w) (ht : 0 < w.heap.size)
    (j1 : ∀ W u, Wts W u zs → Tab W → 0 < W.heap.size → Gives 32 #[sn x y, sn s t, .agg #[u, .int .i64 gap]] W (.tuple #[.int .i64 X, .int .i64 E]))
    (j2 : ∀ W u, Wts W u zs → Gives 33 #[sn x y, sn s t, .agg #[u, .int .i64 gap]] W (.tuple #[.int .i64 X, .int .i64 E]))
    (j3 : ∀ W u, Wts W u zs → Gives 34 #[.agg #[u, .int .i64 gap]] W (.int .i64 C))
    (j4 : ∀ W u, Wts W u zs → Gives 35 #[.agg #[u, .int .i64 gap]] W (.int .i64 C)) :
    Gives 5 #[sn x y, sn s t, .agg #[sl, .int .i64 gap]] w (.bool true) := by
  unfold Gives
  have J1 := Lib.hid j1; have J2 := Lib.hid j2; have J3 := Lib.hid j3; have J4 := Lib.hid j4
  obtain ⟨ao, cap, rfl, hel⟩ := hs.open
  obtain ⟨n, hn⟩ : ∃ n, zs.length = n := ⟨_, rfl⟩
  have HN := Lib.hid hn
  rw [hn] at hm hs ⊢
  have HS := Lib.hid hs; have HT := Lib.hid hT
  clear hn hel hs hT j1 j2 j3 j4
  by_cases h50 : n ≤ 50
  · go_enter Tryd.func5, Tryd.ntmps5
    go_wp2_with fail
    first | refine wp_gen ?_ | refine calls_gen ?_
    intro W1 hW1
    have hw1 : Below w.heap.size w W1 := by rw [hW1]; go_grown
    have hz1 : w.heap.size + 1 + 1 + 1 ≤ W1.heap.size := by rw [hW1]; go_size
    have g0 : W1.cell? ⟨w.heap.size, 0, none⟩ = some (.int .u32 x) := by rw [hW1]; first | go_cell | (go_simp; done) | (simp [hc, hf, hc0, hf0]; done) | (refine cell_past (by omega) ?_; rw [hc0 _ _ (by omega)]; first | go_cell | (go_simp; done)) | (refine frozen_past (by omega) ?_; rw [hf0 _ _ (by omega)]; first | (go_simp; done) | (simp; done)) | (refine keep_set ?_ (by (try simp only []); omega); first | assumption | (refine keep_set ?_ (by (try simp only []); omega); assumption))
    have g1 : W1.cell? ⟨w.heap.size, 1, none⟩ = some (.int .u32 y) := by rw [hW1]; first | go_cell | (go_simp; done) | (simp [hc, hf, hc0, hf0]; done) | (refine cell_past (by omega) ?_; rw [hc0 _ _ (by omega)]; first | go_cell | (go_simp; done)) | (refine frozen_past (by omega) ?_; rw [hf0 _ _ (by omega)]; first | (go_simp; done) | (simp; done)) | (refine keep_set ?_ (by (try simp only []); omega); first | assumption | (refine keep_set ?_ (by (try simp only []); omega); assumption))
    have g2 : W1.cell? ⟨w.heap.size + 1, 0, none⟩ = some (.int .u32 s) := by rw [hW1]; first | go_cell | (go_simp; done) | (simp [hc, hf, hc0, hf0]; done) | (refine cell_past (by omega) ?_; rw [hc0 _ _ (by omega)]; first | go_cell | (go_simp; done)) | (refine frozen_past (by omega) ?_; rw [hf0 _ _ (by omega)]; first | (go_simp; done) | (simp; done)) | (refine keep_set ?_ (by (try simp only []); omega); first | assumption | (refine keep_set ?_ (by (try simp only []); omega); assumption))
    have g3 : W1.cell? ⟨w.heap.size + 1, 1, none⟩ = some (.int .u32 t) := by rw [hW1]; first | go_cell | (go_simp; done) | (simp [hc, hf, hc0, hf0]; done) | (refine cell_past (by omega) ?_; rw [hc0 _ _ (by omega)]; first | go_cell | (go_simp; done)) | (refine frozen_past (by omega) ?_; rw [hf0 _ _ (by omega)]; first | (go_simp; done) | (simp; done)) | (refine keep_set ?_ (by (try simp only []); omega); first | assumption | (refine keep_set ?_ (by (try simp only []); omega); assumption))
    have g4 : W1.cell? ⟨w.heap.size + 1 + 1, 0, none⟩ = some (.slice ao n cap) := by rw [hW1]; first | go_cell | (go_simp; done) | (simp [hc, hf, hc0, hf0]; done) | (refine cell_past (by omega) ?_; rw [hc0 _ _ (by omega)]; first | go_cell | (go_simp; done)) | (refine frozen_past (by omega) ?_; rw [hf0 _ _ (by omega)]; first | (go_simp; done) | (simp; done)) | (refine keep_set ?_ (by (try simp only []); omega); first | assumption | (refine keep_set ?_ (by (try simp only []); omega); assumption))
    have g5 : W1.cell? ⟨w.heap.size + 1 + 1, 1, none⟩ = some (.int .i64 gap) := by rw [hW1]; first | go_cell | (go_simp; done) | (simp [hc, hf, hc0, hf0]; done) | (refine cell_past (by omega) ?_; rw [hc0 _ _ (by omega)]; first | go_cell | (go_simp; done)) | (refine frozen_past (by omega) ?_; rw [hf0 _ _ (by omega)]; first | (go_simp; done) | (simp; done)) | (refine keep_set ?_ (by (try simp only []); omega); first | assumption | (refine keep_set ?_ (by (try simp only []); omega); assumption))
    clear hW1
    have HSW := Lib.hid (HS.out.below hw1)
    have HZ : Hid (zs.length ≤ 1000000000000) := Lib.hid (by rw [HN.out]; omega)
    go_cut [7] from 18 to 24 (fun p wx => ∃ (bt : Nat) (u : Value), p = .pointer (some ⟨bt, 0, none⟩) ∧ wx.cell? ⟨bt, 0, none⟩ = some u ∧ wx.cell? ⟨bt, 1, none⟩ = some (.int .i64 gap) ∧ Wts wx u zs ∧ bt < wx.heap.size ∧ W1.heap.size ≤ bt ∧ Below W1.heap.size W1 wx)
    case first =>
      have hfr : Below W1.heap.size W1 W1.drew := (Below.refl _ _).drew
      go_region_held3 (fun w' => w'.cell? ⟨w.heap.size + 1 + 1, 0, none⟩ = some (.slice ao n cap) ∧ w'.cell? ⟨w.heap.size + 1 + 1, 1, none⟩ = some (.int .i64 gap) ∧ W1.heap.size ≤ w'.heap.size ∧ Below W1.heap.size W1 w')
        (((try go_split_ands); refine costs_keep g4 g5 (by omega) ?_; first | assumption | exact keep_b_alloc hB4 hB4.size | exact hB4.setCell (Nat.le_refl _) _ | exact (hB4.setCell (Nat.le_refl _) _).setCell (Nat.le_refl _) _ | exact hB4.setCell (Nat.le_succ _) _ | exact (hB4.setCell (Nat.le_succ _) _).setCell (Nat.le_succ _) _ | (refine re_below_d (by assumption) ?_; omega) | (refine keep_b_alloc_d ?_ ?_ <;> first | assumption | omega | (simp; omega)) | (refine keep_b_alloc ?_ ?_ <;> first | assumption | omega | (simp; omega)) | (refine keep_b_set ?_ ?_ <;> first | assumption | omega | (simp; omega)) | (refine keep_b_set (keep_b_set ?_ ?_) ?_ <;> first | assumption | omega | (simp; omega))))
        (first
          | (refine step_appI rfl (.tmp 18) (.tmp 20) rfl (W1.heap.size) (.slice ao n cap) zs rfl rfl ?_ ?_ HZ.out ?_ ?_; (next => (exact World.ownsRow.drew (ownI_empty W1 W1.heap.size rfl))); (next => (exact HSW.out.below (by first | assumption | (go_grown; done)))); (next => (first | omega | (simp; done) | (simp; omega))); intro v4 w4 hv4 hk4 hf4 hz4; obtain ⟨uo, uc, ev, -⟩ := (wts_own hv4).open; subst ev; rw [HN.out] at hv4 ⊢; have hB4 : Below W1.heap.size W1 w4 := hk4 _ _ (Nat.le_refl _) (by first | assumption | (go_grown; done)))
          | (refine step_appI rfl (.tmp 18) (.tmp 20) rfl (W1.heap.size) (.slice ao n cap) zs rfl rfl ?_ ?_ HZ.out ?_ ?_; (next => (exact World.ownsRow.drew ((ownI_empty W1 W1.heap.size rfl).alloc _))); (next => (exact HSW.out.below (by first | assumption | (go_grown; done)))); (next => (first | omega | (simp; done) | (simp; omega))); intro v4 w4 hv4 hk4 hf4 hz4; obtain ⟨uo, uc, ev, -⟩ := (wts_own hv4).open; subst ev; rw [HN.out] at hv4 ⊢; have hB4 : Below W1.heap.size W1 w4 := hk4 _ _ (Nat.le_refl _) (by first | assumption | (go_grown; done)); have q : w4.heap[W1.heap.size + 1]? = some (.cells #[.slice none 0 0, .int .i64 0] 40 (0, 0)) := (hf4 (W1.heap.size + 1) (by show _ < _; first | (simp; done) | (simp; omega)) (by omega)).trans (heap_new2 W1 _ _); have q0 := cell_block q (o := 0) rfl; have q1 := cell_block q (o := 1) rfl; have qf := frozen_block (o := 0) q; have qf1 := frozen_block (o := 1) q)
          | (refine step_appI rfl (.tmp 18) (.tmp 20) rfl (W1.heap.size + 1) (.slice ao n cap) zs rfl rfl ?_ ?_ HZ.out ?_ ?_; (next => (exact World.ownsRow.drew (ownI_empty (W1.alloc _) (W1.heap.size + 1) (by rw [World.size_alloc])))); (next => (exact HSW.out.below (by first | assumption | (go_grown; done)))); (next => (first | omega | (simp; done) | (simp; omega))); intro v4 w4 hv4 hk4 hf4 hz4; obtain ⟨uo, uc, ev, -⟩ := (wts_own hv4).open; subst ev; rw [HN.out] at hv4 ⊢; have hB4 : Below W1.heap.size W1 w4 := hk4 _ _ (Nat.le_succ _) (by first | assumption | (go_grown; done)); have q : w4.heap[W1.heap.size]? = some (.cells #[.slice none 0 0, .int .i64 0] 40 (0, 0)) := (hf4 (W1.heap.size) (by show _ < _; first | (simp; done) | (simp; omega)) (by omega)).trans (heap_old2 W1 _ _); have q0 := cell_block q (o := 0) rfl; have q1 := cell_block q (o := 1) rfl; have qf := frozen_block (o := 0) q; have qf1 := frozen_block (o := 1) q))
      all_goals (go_wp2_with fail; go_meet; first
        | exact ⟨w4.heap.size, _, rfl, cell_block (World.alloc_heap_new w4 _) rfl, cell_block (World.alloc_heap_new w4 _) rfl, wtsN HN.out (World.ownsRow.alloc hv4 _), by rw [World.size_alloc]; omega, hB4.size, keep_b_alloc hB4 hB4.size⟩
        | exact ⟨W1.heap.size + 1, _, rfl, (stored2 costs_ne q hv4 hB4 (Nat.le_succ _)).1, (stored2 costs_ne q hv4 hB4 (Nat.le_succ _)).2.1, wtsN HN.out (stored2 costs_ne q hv4 hB4 (Nat.le_succ _)).2.2.1, (stored2 costs_ne q hv4 hB4 (Nat.le_succ _)).2.2.2.1, Nat.le_succ _, (stored2 costs_ne q hv4 hB4 (Nat.le_succ _)).2.2.2.2⟩
        | exact ⟨W1.heap.size, _, rfl, (stored2 costs_ne q hv4 hB4 (Nat.le_refl _)).1, (stored2 costs_ne q hv4 hB4 (Nat.le_refl _)).2.1, wtsN HN.out (stored2 costs_ne q hv4 hB4 (Nat.le_refl _)).2.2.1, (stored2 costs_ne q hv4 hB4 (Nat.le_refl _)).2.2.2.1, Nat.le_refl _, (stored2 costs_ne q hv4 hB4 (Nat.le_refl _)).2.2.2.2⟩)
    case rest =>
      obtain ⟨bt, u, rfl, r6, r7, hu, lbt, hbt, hw2⟩ := hcut
      obtain ⟨uo, uc, rfl, -⟩ := hu.open
      rw [HN.out] at hu r6
      have r0 := (hw2.cell (p := ⟨w.heap.size, 0, none⟩) (by simp only []; omega)).trans g0
      have r1 := (hw2.cell (p := ⟨w.heap.size, 1, none⟩) (by simp only []; omega)).trans g1
      have r2 := (hw2.cell (p := ⟨w.heap.size + 1, 0, none⟩) (by simp only []; omega)).trans g2
      have r3 := (hw2.cell (p := ⟨w.heap.size + 1, 1, none⟩) (by simp only []; omega)).trans g3
      have r4 := (hw2.cell (p := ⟨w.heap.size + 1 + 1, 0, none⟩) (by simp only []; omega)).trans g4
      have r5 := (hw2.cell (p := ⟨w.heap.size + 1 + 1, 1, none⟩) (by simp only []; omega)).trans g5
      have hw := hw1.trans (hw2.mono hw1.size)
      have hsl := HSW.out.below hw2
      have hsz := Nat.le_trans hz1 hw2.size
      have hTw := Tab.below (n₀ := w.heap.size) hw ht HT.out
      have htw := Nat.lt_of_lt_of_le ht hw.size
      clear g0 g1 g2 g3 g4 g5 hw1 hz1 hw2 HSW hbt
      go_wp2_with (first | (go_at_call 32; with_reducible refine Gives.then (J1.out _ _ hu hTw htw) ?_; intro w1 hb; have r0 := (hb.cell (p := ⟨w.heap.size, 0, none⟩) (by simp only []; omega)).trans r0; have r1 := (hb.cell (p := ⟨w.heap.size, 1, none⟩) (by simp only []; omega)).trans r1; have r2 := (hb.cell (p := ⟨w.heap.size + 1, 0, none⟩) (by simp only []; omega)).trans r2; have r3 := (hb.cell (p := ⟨w.heap.size + 1, 1, none⟩) (by simp only []; omega)).trans r3; have r4 := (hb.cell (p := ⟨w.heap.size + 1 + 1, 0, none⟩) (by simp only []; omega)).trans r4; have r5 := (hb.cell (p := ⟨w.heap.size + 1 + 1, 1, none⟩) (by simp only []; omega)).trans r5; have r6 := (hb.cell (p := ⟨bt, 0, none⟩) (by simp only []; omega)).trans r6; have r7 := (hb.cell (p := ⟨bt, 1, none⟩) (by simp only []; omega)).trans r7; have hu := hu.below hb; have hsl := hsl.below hb; have lbt := Nat.lt_of_lt_of_le lbt hb.size; have hw := hw.trans (hb.mono hw.size); have hsz := Nat.le_trans hsz hb.size; have hTw := Tab.below2 hTw hb htw; have htw := Nat.lt_of_lt_of_le htw hb.size; clear hb) | (go_at_call 33; with_reducible refine Gives.then (J2.out _ _ hsl) ?_; intro w1 hb; have r0 := (hb.cell (p := ⟨w.heap.size, 0, none⟩) (by simp only []; omega)).trans r0; have r1 := (hb.cell (p := ⟨w.heap.size, 1, none⟩) (by simp only []; omega)).trans r1; have r2 := (hb.cell (p := ⟨w.heap.size + 1, 0, none⟩) (by simp only []; omega)).trans r2; have r3 := (hb.cell (p := ⟨w.heap.size + 1, 1, none⟩) (by simp only []; omega)).trans r3; have r4 := (hb.cell (p := ⟨w.heap.size + 1 + 1, 0, none⟩) (by simp only []; omega)).trans r4; have r5 := (hb.cell (p := ⟨w.heap.size + 1 + 1, 1, none⟩) (by simp only []; omega)).trans r5; have r6 := (hb.cell (p := ⟨bt, 0, none⟩) (by simp only []; omega)).trans r6; have r7 := (hb.cell (p := ⟨bt, 1, none⟩) (by simp only []; omega)).trans r7; have hu := hu.below hb; have hsl := hsl.below hb; have lbt := Nat.lt_of_lt_of_le lbt hb.size; have hw := hw.trans (hb.mono hw.size); have hsz := Nat.le_trans hsz hb.size; have hTw := Tab.below2 hTw hb htw; have htw := Nat.lt_of_lt_of_le htw hb.size; clear hb))
      obtain ⟨wq, hwq⟩ : ∃ x, x = w := ⟨_, rfl⟩
      subst hwq
      obtain ⟨w, hww⟩ : ∃ x, x = w1 := ⟨_, rfl⟩
      subst hww
      have HW := Lib.hid hw; have HU := Lib.hid hu; have HSL := Lib.hid hsl; have HTW := Lib.hid hTw
      clear hw hu hsl hTw r0 r1 r2 r3
      go_loopw [12] (fun i wr => ∃ k : Nat, k ≤ n ∧ i = .int .i64 (k : Int) ∧ Below w.heap.size w wr ∧ w.heap.size ≤ wr.heap.size) (fun i _ => n - (intOf i).toNat)
      case atStart => exact ⟨0, by omega, rfl, Below.refl _ _, Nat.le_refl _⟩
      case round =>
        obtain ⟨k, hk, rfl, hw, hszr⟩ := hrel
        have q4 := (hw.cell (p := ⟨wq.heap.size + 1 + 1, 0, none⟩) (by simp only []; omega)).trans r4
        have q5 := (hw.cell (p := ⟨wq.heap.size + 1 + 1, 1, none⟩) (by simp only []; omega)).trans r5
        have q6 := (hw.cell (p := ⟨bt, 0, none⟩) lbt).trans r6
        have q7 := (hw.cell (p := ⟨bt, 1, none⟩) lbt).trans r7
        clear r4 r5 r6 r7
        by_cases hlt : k < n
        · have hlz : k < zs.length := by rw [HN.out]; exact hlt
          obtain ⟨b1, o1, e1, lb1, c1⟩ := (HSL.out.at' hlz).2
          obtain ⟨b2, o2, e2, lb2, c2⟩ := (HU.out.at' hlz).2
          subst e1
          subst e2
          have d1 := (hw.cell (p := ⟨b1, o1 + k, none⟩) lb1).trans c1
          have d2 := (hw.cell (p := ⟨b2, o2 + k, none⟩) lb2).trans c2
          generalize zs.getD k 0 = z at *
          clear c1 c2 hlz
          go_wp2_with fail
          refine wp_gen ?_
          intro W1 hW1
          have hw1 : Below w.heap.size w W1 := by rw [hW1]; go_grown
          have hz1 : w.heap.size ≤ W1.heap.size := by rw [hW1]; go_size
          have c0 : W1.cell? ⟨wq.heap.size + 1 + 1, 0, none⟩ = some (.slice (some ⟨b1, o1, none⟩) n cap) := by rw [hW1]; first | assumption | go_cell | (go_simp; done) | exact cell_past (by first | assumption | omega) (by assumption)
          have c1 : W1.cell? ⟨bt, 0, none⟩ = some (.slice (some ⟨b2, o2, none⟩) n uc) := by rw [hW1]; first | assumption | go_cell | (go_simp; done) | exact cell_past (by first | assumption | omega) (by assumption)
          have c2 : W1.cell? ⟨b1, o1 + k, none⟩ = some (.int .i64 z) := by rw [hW1]; first | assumption | go_cell | (go_simp; done) | exact cell_past (by first | assumption | omega) (by assumption)
          have c3 : W1.cell? ⟨b2, o2 + k, none⟩ = some (.int .i64 z) := by rw [hW1]; first | assumption | go_cell | (go_simp; done) | exact cell_past (by first | assumption | omega) (by assumption)
          clear hW1
          have k0 := cell_regrown c0
          have k1 := cell_regrown c1
          have k2 := cell_regrown c2
          have k3 := cell_regrown c3
          refine wp_region_quiet_below (by kernel_rfl) (by kernel_rfl) ?_
          try simp only [List.append]
          repeat (go_big_quiet_step (first | exact Calls.regrown_of (trivial)))
          refine wpQuiet_nil ?_
          intro w2 hw2
          have hb : Below W1.heap.size W1 w2 := by obtain ⟨q, rfl⟩ := hw2; exact below_regrown _ _ _
          clear hw2
          clear k0 k1 k2 k3
          have hw := chain hw1 (by omega) hb
          obtain ⟨hc, hf, hz⟩ := bcell hb
          clear hb
          try have r0 : w2.cell? ⟨wq.heap.size + 1 + 1, 0, none⟩ = some (.slice (some ⟨b1, o1, none⟩) n cap) := (hc _ _ (by omega)).trans c0
          try have r1 : w2.cell? ⟨bt, 0, none⟩ = some (.slice (some ⟨b2, o2, none⟩) n uc) := (hc _ _ (by omega)).trans c1
          try have r2 : w2.cell? ⟨b1, o1 + k, none⟩ = some (.int .i64 z) := (hc _ _ (by omega)).trans c2
          try have r3 : w2.cell? ⟨b2, o2 + k, none⟩ = some (.int .i64 z) := (hc _ _ (by omega)).trans c3
          clear r0 r1 r2 r3
          go_wp2_with fail
          go_roundw
          case rel => exact ⟨k + 1, by omega, by go_num, hw, hw.size⟩
          case measure => simp [intOf]; omega
        · obtain rfl : k = n := by omega
          go_wp2_with fail
          refine wp_gen ?_
          intro W1 hW1
          have hw1 : Below w.heap.size w W1 := by rw [hW1]; go_grown
          have hz1 : w.heap.size ≤ W1.heap.size := by rw [hW1]; go_size
          have c0 : W1.cell? ⟨wq.heap.size + 1 + 1, 0, none⟩ = some (.slice ao k cap) := by rw [hW1]; first | assumption | go_cell | (go_simp; done) | exact cell_past (by first | assumption | omega) (by assumption)
          have c1 : W1.cell? ⟨wq.heap.size + 1 + 1, 1, none⟩ = some (.int .i64 gap) := by rw [hW1]; first | assumption | go_cell | (go_simp; done) | exact cell_past (by first | assumption | omega) (by assumption)
          have c2 : W1.cell? ⟨bt, 0, none⟩ = some (.slice uo k uc) := by rw [hW1]; first | assumption | go_cell | (go_simp; done) | exact cell_past (by first | assumption | omega) (by assumption)
          have c3 : W1.cell? ⟨bt, 1, none⟩ = some (.int .i64 gap) := by rw [hW1]; first | assumption | go_cell | (go_simp; done) | exact cell_past (by first | assumption | omega) (by assumption)
          clear hW1
          have k0 := cell_regrown c0
          have k1 := cell_regrown c1
          have k2 := cell_regrown c2
          have k3 := cell_regrown c3
          refine wp_region_quiet_below (by kernel_rfl) (by kernel_rfl) ?_
          try simp only [List.append]
          repeat (go_big_quiet_step (first | (go_at_call 34; with_reducible exact Calls.regrown_of (J3.out _ _ (HU.out.below (hw1.trans ((below_regrown _ _ _).mono hw1.size))))) | (go_at_call 35; with_reducible exact Calls.regrown_of (J4.out _ _ (HSL.out.below (hw1.trans ((below_regrown _ _ _).mono hw1.size))))) | (go_at_call 21; with_reducible exact Calls.regrown_of (works_any _ (Tab.below2 HTW.out (hw1.trans ((below_regrown _ _ _).mono hw1.size)) htw) (Nat.lt_of_lt_of_le htw (hw1.trans ((below_regrown _ _ _).mono hw1.size)).size)))))
          refine wpQuiet_nil ?_
          intro w2 hw2
          have hb : Below W1.heap.size W1 w2 := by obtain ⟨q, rfl⟩ := hw2; exact below_regrown _ _ _
          clear hw2
          clear k0 k1 k2 k3
          have hw := chain hw1 (by omega) hb
          obtain ⟨hc, hf, hz⟩ := bcell hb
          clear hb
          try have r0 : w2.cell? ⟨wq.heap.size + 1 + 1, 0, none⟩ = some (.slice ao k cap) := (hc _ _ (by omega)).trans c0
          try have r1 : w2.cell? ⟨wq.heap.size + 1 + 1, 1, none⟩ = some (.int .i64 gap) := (hc _ _ (by omega)).trans c1
          try have r2 : w2.cell? ⟨bt, 0, none⟩ = some (.slice uo k uc) := (hc _ _ (by omega)).trans c2
          try have r3 : w2.cell? ⟨bt, 1, none⟩ = some (.int .i64 gap) := (hc _ _ (by omega)).trans c3
          go_wp2
          go_returns
          exact ⟨rfl, HW.out.trans (hw.mono HW.out.size)⟩
  · have hw := Below.refl w.heap.size w
    have hTw := HT.out
    go_enter Tryd.func5, Tryd.ntmps5
    go_wp2_with (go_at_call 21; with_reducible refine Gives.then (works_any _ ?_ ?_) ?_; (next => (exact Tab.below (n₀ := w.heap.size) (by go_grown) ht hTw)); (next => (first | go_size | (have := hw.size; simp only [World.size_alloc]; omega))); intro w1 hb; have hw := chain (B := w.heap.size) (a := w) (by go_grown) (by go_size) hb; obtain ⟨hc, hf, hz⟩ := bcell hb; clear hb; (try simp only [World.size_alloc, World.size_setCell, World.size_drew] at hc hf hz))
    go_returns
    exact ⟨rfl, hw⟩
end Go.Proofs.YtdbbmhefndjedaaDoor
