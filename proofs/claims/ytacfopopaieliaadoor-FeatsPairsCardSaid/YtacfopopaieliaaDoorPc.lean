/-
  The specification's Meet: what it returns.
-/
import Derived.Test.YtacfopopaieliaaDoorPb
namespace Go.Proofs.YtacfopopaieliaaDoor
open Go.RowKit Go.Sort
attribute [local go_sem ↓] snd_eql snd_neq
theorem frozen_past {w : World} {X : Obj} {b o : Nat} (hl : b < w.heap.size) (h : w.frozen? ⟨b, o, none⟩ = false) : (w.alloc X).frozen? ⟨b, o, none⟩ = false := (((Below.refl _ w).alloc (Nat.le_refl _) X).frozen (p := ⟨b, o, none⟩) hl).trans h
/-- A block that holds two numbers. -/
def Two (w : World) (b : Nat) (x y : Int) : Prop := w.cell? ⟨b, 0, none⟩ = some (.int .u32 x) ∧ w.cell? ⟨b, 1, none⟩ = some (.int .u32 y)
def Thaw (w : World) (b : Nat) : Prop := w.frozen? ⟨b, 0, none⟩ = false ∧ w.frozen? ⟨b, 1, none⟩ = false
theorem Two.other {w : World} {b A : Nat} {x y : Int} {u v : Value} (h : Two w b x y) (hne : b ≠ A) : Two ((w.setCell ⟨A, 0, none⟩ u).setCell ⟨A, 1, none⟩ v) b x y :=
  ⟨by rw [World.cell?_setCell_far _ _ _ _ (by simpa using Ne.symm hne), World.cell?_setCell_far _ _ _ _ (by simpa using Ne.symm hne)]; exact h.1, by rw [World.cell?_setCell_far _ _ _ _ (by simpa using Ne.symm hne), World.cell?_setCell_far _ _ _ _ (by simpa using Ne.symm hne)]; exact h.2⟩
theorem Two.same {w : World} {A : Nat} {x y u v : Int} (h : Two w A x y) : Two ((w.setCell ⟨A, 0, none⟩ (.int .u32 u)).setCell ⟨A, 1, none⟩ (.int .u32 v)) A u v := by
  refine ⟨?_, ?_⟩
  · exact (World.cell?_setCell_other _ ⟨A, 1, none⟩ ⟨A, 0, none⟩ _ (by simp)).trans (World.cell?_setCell_same' _ _ _ (by rw [h.1]; rfl))
  · exact World.cell?_setCell_same' _ _ _ (by rw [World.cell?_setCell_other _ ⟨A, 0, none⟩ ⟨A, 1, none⟩ _ (by simp), h.2]; rfl)
theorem Thaw.set {w : World} {b A : Nat} {u v : Value} (h : Thaw w b) : Thaw ((w.setCell ⟨A, 0, none⟩ u).setCell ⟨A, 1, none⟩ v) b :=
  ⟨by rw [World.frozen?_setCell, World.frozen?_setCell]; exact h.1, by rw [World.frozen?_setCell, World.frozen?_setCell]; exact h.2⟩
theorem below_set2 {B A : Nat} {a w : World} {u v : Value} (h : Below B a w) (hB : B ≤ A) : Below B a ((w.setCell ⟨A, 0, none⟩ u).setCell ⟨A, 1, none⟩ v) := keep_b_set (keep_b_set h hB) hB
theorem size_set2 {n A : Nat} {w : World} {u v : Value} (h : n ≤ w.heap.size) : n ≤ ((w.setCell ⟨A, 0, none⟩ u).setCell ⟨A, 1, none⟩ v).heap.size := keep_size2 (keep_size2 h)
/-- Both have this value. -/
def sameP (F : BitVec 32) (M : BitVec 32) (g1 g2 : Nat → Int) : Prop := ∀ k, k < 24 → F.getLsbD k = (decide (g1 k = g2 k) && decide (g1 k = 1)) ∧ M.getLsbD k = (decide (g1 k = g2 k) && decide (g1 k = -1))
set_option maxHeartbeats 4000000 in
theorem rmeet_of (p m q n F M : BitVec 32) (hB : sameP F M (gV p m) (gV q n)) (hF : ∀ j, j < 32 → 24 ≤ j → F.getLsbD j = false ∧ M.getLsbD j = false) (w : World) : Gives 29 #[sn p.toNat m.toNat, sn q.toNat n.toNat] w (sn F.toNat M.toNat) := by
  unfold Gives
  have hend : mix F 0#32 24 = F ∧ mix M 0#32 24 = M := ⟨mix_all fun j hj h24 => by rw [(hF j hj h24).1]; simp, mix_all fun j hj h24 => by rw [(hF j hj h24).2]; simp⟩
  have HE := Lib.hid hend; have HB := Lib.hid hB; clear hend hB hF
  go_enter Tryd.func29, Tryd.ntmps29
  go_wp2_with fail
  first | refine wp_gen ?_ | refine calls_gen ?_
  intro W1 hW1
  have hw1 : Below w.heap.size w W1 := by rw [hW1]; go_grown
  have hz1 : w.heap.size + 1 + 1 + 1 + 1 ≤ W1.heap.size := by rw [hW1]; go_size
  have g0 : W1.cell? ⟨w.heap.size, 0, none⟩ = some (.int .u32 p.toNat) := by rw [hW1]; first | go_cell | (go_simp; done) | (simp [hc, hf, hc0, hf0]; done) | (refine cell_past (by omega) ?_; rw [hc0 _ _ (by omega)]; first | go_cell | (go_simp; done)) | (refine frozen_past (by omega) ?_; rw [hf0 _ _ (by omega)]; first | (go_simp; done) | (simp; done)) | (refine keep_set ?_ (by (try simp only []); omega); first | assumption | (refine keep_set ?_ (by (try simp only []); omega); assumption))
  have g1 : W1.cell? ⟨w.heap.size, 1, none⟩ = some (.int .u32 m.toNat) := by rw [hW1]; first | go_cell | (go_simp; done) | (simp [hc, hf, hc0, hf0]; done) | (refine cell_past (by omega) ?_; rw [hc0 _ _ (by omega)]; first | go_cell | (go_simp; done)) | (refine frozen_past (by omega) ?_; rw [hf0 _ _ (by omega)]; first | (go_simp; done) | (simp; done)) | (refine keep_set ?_ (by (try simp only []); omega); first | assumption | (refine keep_set ?_ (by (try simp only []); omega); assumption))
  have g2 : W1.cell? ⟨w.heap.size + 1, 0, none⟩ = some (.int .u32 q.toNat) := by rw [hW1]; first | go_cell | (go_simp; done) | (simp [hc, hf, hc0, hf0]; done) | (refine cell_past (by omega) ?_; rw [hc0 _ _ (by omega)]; first | go_cell | (go_simp; done)) | (refine frozen_past (by omega) ?_; rw [hf0 _ _ (by omega)]; first | (go_simp; done) | (simp; done)) | (refine keep_set ?_ (by (try simp only []); omega); first | assumption | (refine keep_set ?_ (by (try simp only []); omega); assumption))
  have g3 : W1.cell? ⟨w.heap.size + 1, 1, none⟩ = some (.int .u32 n.toNat) := by rw [hW1]; first | go_cell | (go_simp; done) | (simp [hc, hf, hc0, hf0]; done) | (refine cell_past (by omega) ?_; rw [hc0 _ _ (by omega)]; first | go_cell | (go_simp; done)) | (refine frozen_past (by omega) ?_; rw [hf0 _ _ (by omega)]; first | (go_simp; done) | (simp; done)) | (refine keep_set ?_ (by (try simp only []); omega); first | assumption | (refine keep_set ?_ (by (try simp only []); omega); assumption))
  have g4 : W1.cell? ⟨w.heap.size + 1 + 1 + 1, 0, none⟩ = some (.int .u32 0) := by rw [hW1]; first | go_cell | (go_simp; done) | (simp [hc, hf, hc0, hf0]; done) | (refine cell_past (by omega) ?_; rw [hc0 _ _ (by omega)]; first | go_cell | (go_simp; done)) | (refine frozen_past (by omega) ?_; rw [hf0 _ _ (by omega)]; first | (go_simp; done) | (simp; done)) | (refine keep_set ?_ (by (try simp only []); omega); first | assumption | (refine keep_set ?_ (by (try simp only []); omega); assumption))
  have g5 : W1.cell? ⟨w.heap.size + 1 + 1 + 1, 1, none⟩ = some (.int .u32 0) := by rw [hW1]; first | go_cell | (go_simp; done) | (simp [hc, hf, hc0, hf0]; done) | (refine cell_past (by omega) ?_; rw [hc0 _ _ (by omega)]; first | go_cell | (go_simp; done)) | (refine frozen_past (by omega) ?_; rw [hf0 _ _ (by omega)]; first | (go_simp; done) | (simp; done)) | (refine keep_set ?_ (by (try simp only []); omega); first | assumption | (refine keep_set ?_ (by (try simp only []); omega); assumption))
  have g6 : W1.cell? ⟨w.heap.size + 1 + 1, 0, none⟩ = some (.int .u32 0) := by rw [hW1]; first | go_cell | (go_simp; done) | (simp [hc, hf, hc0, hf0]; done) | (refine cell_past (by omega) ?_; rw [hc0 _ _ (by omega)]; first | go_cell | (go_simp; done)) | (refine frozen_past (by omega) ?_; rw [hf0 _ _ (by omega)]; first | (go_simp; done) | (simp; done)) | (refine keep_set ?_ (by (try simp only []); omega); first | assumption | (refine keep_set ?_ (by (try simp only []); omega); assumption))
  have g7 : W1.cell? ⟨w.heap.size + 1 + 1, 1, none⟩ = some (.int .u32 0) := by rw [hW1]; first | go_cell | (go_simp; done) | (simp [hc, hf, hc0, hf0]; done) | (refine cell_past (by omega) ?_; rw [hc0 _ _ (by omega)]; first | go_cell | (go_simp; done)) | (refine frozen_past (by omega) ?_; rw [hf0 _ _ (by omega)]; first | (go_simp; done) | (simp; done)) | (refine keep_set ?_ (by (try simp only []); omega); first | assumption | (refine keep_set ?_ (by (try simp only []); omega); assumption))
  have z0 : W1.frozen? ⟨w.heap.size + 1 + 1 + 1, 0, none⟩ = false := by rw [hW1]; first | go_cell | (go_simp; done) | (simp [hc, hf, hc0, hf0]; done) | (refine cell_past (by omega) ?_; rw [hc0 _ _ (by omega)]; first | go_cell | (go_simp; done)) | (refine frozen_past (by omega) ?_; rw [hf0 _ _ (by omega)]; first | (go_simp; done) | (simp; done)) | (refine keep_set ?_ (by (try simp only []); omega); first | assumption | (refine keep_set ?_ (by (try simp only []); omega); assumption))
  have z1 : W1.frozen? ⟨w.heap.size + 1 + 1 + 1, 1, none⟩ = false := by rw [hW1]; first | go_cell | (go_simp; done) | (simp [hc, hf, hc0, hf0]; done) | (refine cell_past (by omega) ?_; rw [hc0 _ _ (by omega)]; first | go_cell | (go_simp; done)) | (refine frozen_past (by omega) ?_; rw [hf0 _ _ (by omega)]; first | (go_simp; done) | (simp; done)) | (refine keep_set ?_ (by (try simp only []); omega); first | assumption | (refine keep_set ?_ (by (try simp only []); omega); assumption))
  have z2 : W1.frozen? ⟨w.heap.size + 1 + 1, 0, none⟩ = false := by rw [hW1]; first | go_cell | (go_simp; done) | (simp [hc, hf, hc0, hf0]; done) | (refine cell_past (by omega) ?_; rw [hc0 _ _ (by omega)]; first | go_cell | (go_simp; done)) | (refine frozen_past (by omega) ?_; rw [hf0 _ _ (by omega)]; first | (go_simp; done) | (simp; done)) | (refine keep_set ?_ (by (try simp only []); omega); first | assumption | (refine keep_set ?_ (by (try simp only []); omega); assumption))
  have z3 : W1.frozen? ⟨w.heap.size + 1 + 1, 1, none⟩ = false := by rw [hW1]; first | go_cell | (go_simp; done) | (simp [hc, hf, hc0, hf0]; done) | (refine cell_past (by omega) ?_; rw [hc0 _ _ (by omega)]; first | go_cell | (go_simp; done)) | (refine frozen_past (by omega) ?_; rw [hf0 _ _ (by omega)]; first | (go_simp; done) | (simp; done)) | (refine keep_set ?_ (by (try simp only []); omega); first | assumption | (refine keep_set ?_ (by (try simp only []); omega); assumption))
  clear hW1
  go_loopw [6] (fun i wr => ∃ k : Nat, k ≤ 24 ∧ i = .int .i64 (k : Int) ∧ Two wr w.heap.size p.toNat m.toNat ∧ Two wr (w.heap.size + 1) q.toNat n.toNat ∧ Two wr (w.heap.size + 1 + 1 + 1) (mix F 0#32 k).toNat (mix M 0#32 k).toNat ∧ Thaw wr (w.heap.size + 1 + 1 + 1) ∧ Two wr (w.heap.size + 1 + 1) 0 0 ∧ Thaw wr (w.heap.size + 1 + 1) ∧ Below w.heap.size w wr ∧ w.heap.size + 4 ≤ wr.heap.size) (fun i _ => 24 - (intOf i).toNat)
  case atStart => exact ⟨0, by omega, rfl, ⟨g0, g1⟩, ⟨g2, g3⟩, by rw [mix_zero, mix_zero]; exact ⟨g4, g5⟩, ⟨z0, z1⟩, ⟨g6, g7⟩, ⟨z2, z3⟩, hw1, by omega⟩
  case round =>
    clear g0 g1 g2 g3 g4 g5 g6 g7 z0 z1 z2 z3 hw1 hz1
    obtain ⟨k, hk, rfl, ⟨r0, r1⟩, ⟨r2, r3⟩, ⟨r4, r5⟩, ⟨q0, q1⟩, ⟨r6, r7⟩, ⟨q2, q3⟩, hw, hsz⟩ := hrel
    by_cases hlt : k < 24
    · have hg1 := rgv p m k hlt
      have hg2 := rgv q n k hlt
      obtain ⟨b1, b2⟩ := HB.out k hlt
      have hput := rput_any (mix F 0#32 k) (mix M 0#32 k) k (gV p m k) hlt
      generalize gV p m k = a at *
      generalize gV q n k = b at *
      by_cases hab : a = b
      · have e1 : withP (mix F 0#32 k) k a = mix F 0#32 (k + 1) := mix_putP _ _ k a (by omega) (by rw [b1, hab]; simp)
        have e2 : withM (mix M 0#32 k) k a = mix M 0#32 (k + 1) := mix_putM _ _ k a (by omega) (by rw [b2, hab]; simp)
        rw [e1, e2] at hput
        clear e1 e2 b1 b2
        obtain ⟨F1, hF1⟩ : ∃ F1, mix F 0#32 (k + 1) = F1 := ⟨_, rfl⟩
        obtain ⟨M1, hM1⟩ : ∃ M1, mix M 0#32 (k + 1) = M1 := ⟨_, rfl⟩
        rw [hF1, hM1] at hput
        have HF1 := Lib.hid hF1; have HM1 := Lib.hid hM1; clear hF1 hM1
        generalize mix F 0#32 k = F0 at *
        generalize mix M 0#32 k = M0 at *
        subst hab
        go_wp2_with fail
        refine wp_gen ?_
        intro W1 hW1
        have hw1 : Below w.heap.size w W1 := by rw [hW1]; go_grown
        have hz1 : wr.heap.size ≤ W1.heap.size := by rw [hW1]; go_size
        have c0 : W1.cell? ⟨w.heap.size, 0, none⟩ = some (.int .u32 p.toNat) := by rw [hW1]; first | go_cell | (go_simp; done) | exact cell_past (by first | assumption | omega) (by assumption)
        have c1 : W1.cell? ⟨w.heap.size, 1, none⟩ = some (.int .u32 m.toNat) := by rw [hW1]; first | go_cell | (go_simp; done) | exact cell_past (by first | assumption | omega) (by assumption)
        have c2 : W1.cell? ⟨w.heap.size + 1, 0, none⟩ = some (.int .u32 q.toNat) := by rw [hW1]; first | go_cell | (go_simp; done) | exact cell_past (by first | assumption | omega) (by assumption)
        have c3 : W1.cell? ⟨w.heap.size + 1, 1, none⟩ = some (.int .u32 n.toNat) := by rw [hW1]; first | go_cell | (go_simp; done) | exact cell_past (by first | assumption | omega) (by assumption)
        have c4 : W1.cell? ⟨w.heap.size + 1 + 1 + 1, 0, none⟩ = some (.int .u32 F0.toNat) := by rw [hW1]; first | go_cell | (go_simp; done) | exact cell_past (by first | assumption | omega) (by assumption)
        have c5 : W1.cell? ⟨w.heap.size + 1 + 1 + 1, 1, none⟩ = some (.int .u32 M0.toNat) := by rw [hW1]; first | go_cell | (go_simp; done) | exact cell_past (by first | assumption | omega) (by assumption)
        have c6 : W1.cell? ⟨w.heap.size + 1 + 1, 0, none⟩ = some (.int .u32 0) := by rw [hW1]; first | go_cell | (go_simp; done) | exact cell_past (by first | assumption | omega) (by assumption)
        have c7 : W1.cell? ⟨w.heap.size + 1 + 1, 1, none⟩ = some (.int .u32 0) := by rw [hW1]; first | go_cell | (go_simp; done) | exact cell_past (by first | assumption | omega) (by assumption)
        have y0 : W1.frozen? ⟨w.heap.size + 1 + 1 + 1, 0, none⟩ = false := by rw [hW1]; first | assumption | (go_simp; done) | (simp [*]; done)
        have y1 : W1.frozen? ⟨w.heap.size + 1 + 1 + 1, 1, none⟩ = false := by rw [hW1]; first | assumption | (go_simp; done) | (simp [*]; done)
        have y2 : W1.frozen? ⟨w.heap.size + 1 + 1, 0, none⟩ = false := by rw [hW1]; first | assumption | (go_simp; done) | (simp [*]; done)
        have y3 : W1.frozen? ⟨w.heap.size + 1 + 1, 1, none⟩ = false := by rw [hW1]; first | assumption | (go_simp; done) | (simp [*]; done)
        clear hW1
        have k0 := cell_regrown c0
        have k1 := cell_regrown c1
        have k2 := cell_regrown c2
        have k3 := cell_regrown c3
        have k4 := cell_regrown c4
        have k5 := cell_regrown c5
        have k6 := cell_regrown c6
        have k7 := cell_regrown c7
        refine wp_region_quiet_below (by kernel_rfl) (by kernel_rfl) ?_
        try simp only [List.append]
        repeat (go_big_quiet_step (first | (go_at_call 20; with_reducible exact Calls.regrown_of (hg1 _)) | (go_at_call 20; with_reducible exact Calls.regrown_of (hg2 _))))
        refine wpQuiet_nil ?_
        intro w2 hw2
        have hb : Below W1.heap.size W1 w2 := by obtain ⟨q, rfl⟩ := hw2; exact below_regrown _ _ _
        clear hw2
        clear k0 k1 k2 k3 k4 k5 k6 k7
        have hw := chain hw1 (by omega) hb
        obtain ⟨hc, hf, hz⟩ := bcell hb
        clear hb
        try have r0 : w2.cell? ⟨w.heap.size, 0, none⟩ = some (.int .u32 p.toNat) := (hc _ _ (by omega)).trans c0
        try have r1 : w2.cell? ⟨w.heap.size, 1, none⟩ = some (.int .u32 m.toNat) := (hc _ _ (by omega)).trans c1
        try have r2 : w2.cell? ⟨w.heap.size + 1, 0, none⟩ = some (.int .u32 q.toNat) := (hc _ _ (by omega)).trans c2
        try have r3 : w2.cell? ⟨w.heap.size + 1, 1, none⟩ = some (.int .u32 n.toNat) := (hc _ _ (by omega)).trans c3
        try have r4 : w2.cell? ⟨w.heap.size + 1 + 1 + 1, 0, none⟩ = some (.int .u32 F0.toNat) := (hc _ _ (by omega)).trans c4
        try have r5 : w2.cell? ⟨w.heap.size + 1 + 1 + 1, 1, none⟩ = some (.int .u32 M0.toNat) := (hc _ _ (by omega)).trans c5
        try have r6 : w2.cell? ⟨w.heap.size + 1 + 1, 0, none⟩ = some (.int .u32 0) := (hc _ _ (by omega)).trans c6
        try have r7 : w2.cell? ⟨w.heap.size + 1 + 1, 1, none⟩ = some (.int .u32 0) := (hc _ _ (by omega)).trans c7
        have q0 : w2.frozen? ⟨w.heap.size + 1 + 1 + 1, 0, none⟩ = false := (hf _ _ (by omega)).trans y0
        have q1 : w2.frozen? ⟨w.heap.size + 1 + 1 + 1, 1, none⟩ = false := (hf _ _ (by omega)).trans y1
        have q2 : w2.frozen? ⟨w.heap.size + 1 + 1, 0, none⟩ = false := (hf _ _ (by omega)).trans y2
        have q3 : w2.frozen? ⟨w.heap.size + 1 + 1, 1, none⟩ = false := (hf _ _ (by omega)).trans y3
        go_wp2_with fail
        refine wp_gen ?_
        intro W1 hW1
        have hw1 : Below w.heap.size w W1 := by rw [hW1]; go_grown
        have hz1 : w2.heap.size ≤ W1.heap.size := by rw [hW1]; go_size
        have g0 : W1.cell? ⟨w.heap.size, 0, none⟩ = some (.int .u32 p.toNat) := by rw [hW1]; first | assumption | go_cell | (go_simp; done) | (simp [hc, hf, hc0, hf0]; done) | (refine keep_set ?_ (by (try simp only []); omega); first | assumption | (refine keep_set ?_ (by (try simp only []); omega); assumption)) | (simp [*]; done)
        have g1 : W1.cell? ⟨w.heap.size, 1, none⟩ = some (.int .u32 m.toNat) := by rw [hW1]; first | assumption | go_cell | (go_simp; done) | (simp [hc, hf, hc0, hf0]; done) | (refine keep_set ?_ (by (try simp only []); omega); first | assumption | (refine keep_set ?_ (by (try simp only []); omega); assumption)) | (simp [*]; done)
        have g2 : W1.cell? ⟨w.heap.size + 1, 0, none⟩ = some (.int .u32 q.toNat) := by rw [hW1]; first | assumption | go_cell | (go_simp; done) | (simp [hc, hf, hc0, hf0]; done) | (refine keep_set ?_ (by (try simp only []); omega); first | assumption | (refine keep_set ?_ (by (try simp only []); omega); assumption)) | (simp [*]; done)
        have g3 : W1.cell? ⟨w.heap.size + 1, 1, none⟩ = some (.int .u32 n.toNat) := by rw [hW1]; first | assumption | go_cell | (go_simp; done) | (simp [hc, hf, hc0, hf0]; done) | (refine keep_set ?_ (by (try simp only []); omega); first | assumption | (refine keep_set ?_ (by (try simp only []); omega); assumption)) | (simp [*]; done)
        have g4 : W1.cell? ⟨w.heap.size + 1 + 1 + 1, 0, none⟩ = some (.int .u32 F0.toNat) := by rw [hW1]; first | assumption | go_cell | (go_simp; done) | (simp [hc, hf, hc0, hf0]; done) | (refine keep_set ?_ (by (try simp only []); omega); first | assumption | (refine keep_set ?_ (by (try simp only []); omega); assumption)) | (simp [*]; done)
        have g5 : W1.cell? ⟨w.heap.size + 1 + 1 + 1, 1, none⟩ = some (.int .u32 M0.toNat) := by rw [hW1]; first | assumption | go_cell | (go_simp; done) | (simp [hc, hf, hc0, hf0]; done) | (refine keep_set ?_ (by (try simp only []); omega); first | assumption | (refine keep_set ?_ (by (try simp only []); omega); assumption)) | (simp [*]; done)
        have g6 : W1.cell? ⟨w.heap.size + 1 + 1, 0, none⟩ = some (.int .u32 0) := by rw [hW1]; first | assumption | go_cell | (go_simp; done) | (simp [hc, hf, hc0, hf0]; done) | (refine keep_set ?_ (by (try simp only []); omega); first | assumption | (refine keep_set ?_ (by (try simp only []); omega); assumption)) | (simp [*]; done)
        have g7 : W1.cell? ⟨w.heap.size + 1 + 1, 1, none⟩ = some (.int .u32 0) := by rw [hW1]; first | assumption | go_cell | (go_simp; done) | (simp [hc, hf, hc0, hf0]; done) | (refine keep_set ?_ (by (try simp only []); omega); first | assumption | (refine keep_set ?_ (by (try simp only []); omega); assumption)) | (simp [*]; done)
        have z0 : W1.frozen? ⟨w.heap.size + 1 + 1 + 1, 0, none⟩ = false := by rw [hW1]; first | assumption | go_cell | (go_simp; done) | (simp [hc, hf, hc0, hf0]; done) | (refine keep_set ?_ (by (try simp only []); omega); first | assumption | (refine keep_set ?_ (by (try simp only []); omega); assumption)) | (simp [*]; done)
        have z1 : W1.frozen? ⟨w.heap.size + 1 + 1 + 1, 1, none⟩ = false := by rw [hW1]; first | assumption | go_cell | (go_simp; done) | (simp [hc, hf, hc0, hf0]; done) | (refine keep_set ?_ (by (try simp only []); omega); first | assumption | (refine keep_set ?_ (by (try simp only []); omega); assumption)) | (simp [*]; done)
        have z2 : W1.frozen? ⟨w.heap.size + 1 + 1, 0, none⟩ = false := by rw [hW1]; first | assumption | go_cell | (go_simp; done) | (simp [hc, hf, hc0, hf0]; done) | (refine keep_set ?_ (by (try simp only []); omega); first | assumption | (refine keep_set ?_ (by (try simp only []); omega); assumption)) | (simp [*]; done)
        have z3 : W1.frozen? ⟨w.heap.size + 1 + 1, 1, none⟩ = false := by rw [hW1]; first | assumption | go_cell | (go_simp; done) | (simp [hc, hf, hc0, hf0]; done) | (refine keep_set ?_ (by (try simp only []); omega); first | assumption | (refine keep_set ?_ (by (try simp only []); omega); assumption)) | (simp [*]; done)
        clear hW1
        refine wp_region_makers 6 [] [0, 1, 2, 3, 4, 5] ?A1 _ (by kernel_rfl) (by kernel_rfl) ?hrun1 (by simp [quiets, mkOf]; rfl) ?walk1 ?fin1
        case hrun1 =>
          intro x hx
          cases hx
        case walk1 =>
          intro W2 hW2
          have e0 : W2.cell? ⟨w.heap.size, 0, none⟩ = some (.int .u32 p.toNat) := (hW2.cell (p := ⟨w.heap.size, 0, none⟩) (by (try simp only []); omega)).trans g0
          have k0 := cell_regrown e0
          have e1 : W2.cell? ⟨w.heap.size, 1, none⟩ = some (.int .u32 m.toNat) := (hW2.cell (p := ⟨w.heap.size, 1, none⟩) (by (try simp only []); omega)).trans g1
          have k1 := cell_regrown e1
          have e2 : W2.cell? ⟨w.heap.size + 1, 0, none⟩ = some (.int .u32 q.toNat) := (hW2.cell (p := ⟨w.heap.size + 1, 0, none⟩) (by (try simp only []); omega)).trans g2
          have k2 := cell_regrown e2
          have e3 : W2.cell? ⟨w.heap.size + 1, 1, none⟩ = some (.int .u32 n.toNat) := (hW2.cell (p := ⟨w.heap.size + 1, 1, none⟩) (by (try simp only []); omega)).trans g3
          have k3 := cell_regrown e3
          have e4 : W2.cell? ⟨w.heap.size + 1 + 1 + 1, 0, none⟩ = some (.int .u32 F0.toNat) := (hW2.cell (p := ⟨w.heap.size + 1 + 1 + 1, 0, none⟩) (by (try simp only []); omega)).trans g4
          have k4 := cell_regrown e4
          have e5 : W2.cell? ⟨w.heap.size + 1 + 1 + 1, 1, none⟩ = some (.int .u32 M0.toNat) := (hW2.cell (p := ⟨w.heap.size + 1 + 1 + 1, 1, none⟩) (by (try simp only []); omega)).trans g5
          have k5 := cell_regrown e5
          have e6 : W2.cell? ⟨w.heap.size + 1 + 1, 0, none⟩ = some (.int .u32 0) := (hW2.cell (p := ⟨w.heap.size + 1 + 1, 0, none⟩) (by (try simp only []); omega)).trans g6
          have k6 := cell_regrown e6
          have e7 : W2.cell? ⟨w.heap.size + 1 + 1, 1, none⟩ = some (.int .u32 0) := (hW2.cell (p := ⟨w.heap.size + 1 + 1, 1, none⟩) (by (try simp only []); omega)).trans g7
          have k7 := cell_regrown e7
          repeat (go_big_quiet_step (first | (go_at_call 20; with_reducible exact Calls.regrown_of (hg1 _)) | (go_at_call 48; with_reducible exact Calls.regrown_of (hput _))))
          refine wpQuiet_nil ?_
          rfl
        intro bs w2 hb hF hN
        have hw := chain hw1 (by omega) hb
        obtain ⟨hc, hf, hz⟩ := bcell hb
        have r0 : w2.cell? ⟨w.heap.size, 0, none⟩ = some (.int .u32 p.toNat) := (hc _ _ (by omega)).trans g0
        have r1 : w2.cell? ⟨w.heap.size, 1, none⟩ = some (.int .u32 m.toNat) := (hc _ _ (by omega)).trans g1
        have r2 : w2.cell? ⟨w.heap.size + 1, 0, none⟩ = some (.int .u32 q.toNat) := (hc _ _ (by omega)).trans g2
        have r3 : w2.cell? ⟨w.heap.size + 1, 1, none⟩ = some (.int .u32 n.toNat) := (hc _ _ (by omega)).trans g3
        have r4 : w2.cell? ⟨w.heap.size + 1 + 1 + 1, 0, none⟩ = some (.int .u32 F0.toNat) := (hc _ _ (by omega)).trans g4
        have r5 : w2.cell? ⟨w.heap.size + 1 + 1 + 1, 1, none⟩ = some (.int .u32 M0.toNat) := (hc _ _ (by omega)).trans g5
        have r6 : w2.cell? ⟨w.heap.size + 1 + 1, 0, none⟩ = some (.int .u32 0) := (hc _ _ (by omega)).trans g6
        have r7 : w2.cell? ⟨w.heap.size + 1 + 1, 1, none⟩ = some (.int .u32 0) := (hc _ _ (by omega)).trans g7
        have q0 : w2.frozen? ⟨w.heap.size + 1 + 1 + 1, 0, none⟩ = false := (hf _ _ (by omega)).trans z0
        have q1 : w2.frozen? ⟨w.heap.size + 1 + 1 + 1, 1, none⟩ = false := (hf _ _ (by omega)).trans z1
        have q2 : w2.frozen? ⟨w.heap.size + 1 + 1, 0, none⟩ = false := (hf _ _ (by omega)).trans z2
        have q3 : w2.frozen? ⟨w.heap.size + 1 + 1, 1, none⟩ = false := (hf _ _ (by omega)).trans z3
        clear hb hF hN hw1 g0 g1 g2 g3 g4 g5 g6 g7 z0 z1 z2 z3
        simp only [List.map_cons, List.map_nil, List.foldr_cons, List.foldr_nil] at *
        clear bs
        simp only [dstOf, ptr, Act.put, List.getElem?_toArray, List.getElem?_cons_succ, List.getElem?_cons_zero, Option.bind_some, List.setIfInBounds_toArray, List.set_cons_zero, List.set_cons_succ, List.drop_succ_cons, List.drop_zero]
        go_wp2_with fail
        go_roundw
        case rel => exact ⟨k + 1, by omega, by go_num, Two.other ⟨r0, r1⟩ (by omega), Two.other ⟨r2, r3⟩ (by omega), by rw [HF1.out, HM1.out]; exact Two.same ⟨r4, r5⟩, Thaw.set ⟨q0, q1⟩, Two.other ⟨r6, r7⟩ (by omega), Thaw.set ⟨q2, q3⟩, below_set2 hw (by omega), size_set2 (by omega)⟩
        case measure => simp [intOf]; omega
      · have ha1 : (a == b) = false := by simpa using hab
        have e1 : mix F 0#32 (k + 1) = mix F 0#32 k := mix_keep _ _ k (by rw [b1]; simp [hab])
        have e2 : mix M 0#32 (k + 1) = mix M 0#32 k := mix_keep _ _ k (by rw [b2]; simp [hab])
        have E1 := Lib.hid e1; have E2 := Lib.hid e2
        clear e1 e2 b1 b2
        obtain ⟨F0, hF0⟩ : ∃ F0, mix F 0#32 k = F0 := ⟨_, rfl⟩
        obtain ⟨M0, hM0⟩ : ∃ M0, mix M 0#32 k = M0 := ⟨_, rfl⟩
        rw [hF0] at r4 hput
        rw [hM0] at r5 hput
        have HF0 := Lib.hid hF0; have HM0 := Lib.hid hM0; clear hF0 hM0
        go_wp2_with fail
        refine wp_gen ?_
        intro W1 hW1
        have hw1 : Below w.heap.size w W1 := by rw [hW1]; go_grown
        have hz1 : wr.heap.size ≤ W1.heap.size := by rw [hW1]; go_size
        have c0 : W1.cell? ⟨w.heap.size, 0, none⟩ = some (.int .u32 p.toNat) := by rw [hW1]; first | go_cell | (go_simp; done) | exact cell_past (by first | assumption | omega) (by assumption)
        have c1 : W1.cell? ⟨w.heap.size, 1, none⟩ = some (.int .u32 m.toNat) := by rw [hW1]; first | go_cell | (go_simp; done) | exact cell_past (by first | assumption | omega) (by assumption)
        have c2 : W1.cell? ⟨w.heap.size + 1, 0, none⟩ = some (.int .u32 q.toNat) := by rw [hW1]; first | go_cell | (go_simp; done) | exact cell_past (by first | assumption | omega) (by assumption)
        have c3 : W1.cell? ⟨w.heap.size + 1, 1, none⟩ = some (.int .u32 n.toNat) := by rw [hW1]; first | go_cell | (go_simp; done) | exact cell_past (by first | assumption | omega) (by assumption)
        have c4 : W1.cell? ⟨w.heap.size + 1 + 1 + 1, 0, none⟩ = some (.int .u32 F0.toNat) := by rw [hW1]; first | go_cell | (go_simp; done) | exact cell_past (by first | assumption | omega) (by assumption)
        have c5 : W1.cell? ⟨w.heap.size + 1 + 1 + 1, 1, none⟩ = some (.int .u32 M0.toNat) := by rw [hW1]; first | go_cell | (go_simp; done) | exact cell_past (by first | assumption | omega) (by assumption)
        have c6 : W1.cell? ⟨w.heap.size + 1 + 1, 0, none⟩ = some (.int .u32 0) := by rw [hW1]; first | go_cell | (go_simp; done) | exact cell_past (by first | assumption | omega) (by assumption)
        have c7 : W1.cell? ⟨w.heap.size + 1 + 1, 1, none⟩ = some (.int .u32 0) := by rw [hW1]; first | go_cell | (go_simp; done) | exact cell_past (by first | assumption | omega) (by assumption)
        have y0 : W1.frozen? ⟨w.heap.size + 1 + 1 + 1, 0, none⟩ = false := by rw [hW1]; first | assumption | (go_simp; done) | (simp [*]; done)
        have y1 : W1.frozen? ⟨w.heap.size + 1 + 1 + 1, 1, none⟩ = false := by rw [hW1]; first | assumption | (go_simp; done) | (simp [*]; done)
        have y2 : W1.frozen? ⟨w.heap.size + 1 + 1, 0, none⟩ = false := by rw [hW1]; first | assumption | (go_simp; done) | (simp [*]; done)
        have y3 : W1.frozen? ⟨w.heap.size + 1 + 1, 1, none⟩ = false := by rw [hW1]; first | assumption | (go_simp; done) | (simp [*]; done)
        clear hW1
        have k0 := cell_regrown c0
        have k1 := cell_regrown c1
        have k2 := cell_regrown c2
        have k3 := cell_regrown c3
        have k4 := cell_regrown c4
        have k5 := cell_regrown c5
        have k6 := cell_regrown c6
        have k7 := cell_regrown c7
        refine wp_region_quiet_below (by kernel_rfl) (by kernel_rfl) ?_
        try simp only [List.append]
        repeat (go_big_quiet_step (first | (go_at_call 20; with_reducible exact Calls.regrown_of (hg1 _)) | (go_at_call 20; with_reducible exact Calls.regrown_of (hg2 _))))
        refine wpQuiet_nil ?_
        intro w2 hw2
        have hb : Below W1.heap.size W1 w2 := by obtain ⟨q, rfl⟩ := hw2; exact below_regrown _ _ _
        clear hw2
        clear k0 k1 k2 k3 k4 k5 k6 k7
        have hw := chain hw1 (by omega) hb
        obtain ⟨hc, hf, hz⟩ := bcell hb
        clear hb
        try have r0 : w2.cell? ⟨w.heap.size, 0, none⟩ = some (.int .u32 p.toNat) := (hc _ _ (by omega)).trans c0
        try have r1 : w2.cell? ⟨w.heap.size, 1, none⟩ = some (.int .u32 m.toNat) := (hc _ _ (by omega)).trans c1
        try have r2 : w2.cell? ⟨w.heap.size + 1, 0, none⟩ = some (.int .u32 q.toNat) := (hc _ _ (by omega)).trans c2
        try have r3 : w2.cell? ⟨w.heap.size + 1, 1, none⟩ = some (.int .u32 n.toNat) := (hc _ _ (by omega)).trans c3
        try have r4 : w2.cell? ⟨w.heap.size + 1 + 1 + 1, 0, none⟩ = some (.int .u32 F0.toNat) := (hc _ _ (by omega)).trans c4
        try have r5 : w2.cell? ⟨w.heap.size + 1 + 1 + 1, 1, none⟩ = some (.int .u32 M0.toNat) := (hc _ _ (by omega)).trans c5
        try have r6 : w2.cell? ⟨w.heap.size + 1 + 1, 0, none⟩ = some (.int .u32 0) := (hc _ _ (by omega)).trans c6
        try have r7 : w2.cell? ⟨w.heap.size + 1 + 1, 1, none⟩ = some (.int .u32 0) := (hc _ _ (by omega)).trans c7
        have q0 : w2.frozen? ⟨w.heap.size + 1 + 1 + 1, 0, none⟩ = false := (hf _ _ (by omega)).trans y0
        have q1 : w2.frozen? ⟨w.heap.size + 1 + 1 + 1, 1, none⟩ = false := (hf _ _ (by omega)).trans y1
        have q2 : w2.frozen? ⟨w.heap.size + 1 + 1, 0, none⟩ = false := (hf _ _ (by omega)).trans y2
        have q3 : w2.frozen? ⟨w.heap.size + 1 + 1, 1, none⟩ = false := (hf _ _ (by omega)).trans y3
        go_wp2_with fail
        go_roundw
        case rel => exact ⟨k + 1, by omega, by go_num, ⟨r0, r1⟩, ⟨r2, r3⟩, by rw [E1.out, E2.out, HF0.out, HM0.out]; exact ⟨r4, r5⟩, ⟨q0, q1⟩, ⟨r6, r7⟩, ⟨q2, q3⟩, hw, by omega⟩
        case measure => simp [intOf]; omega
    · obtain rfl : k = 24 := by omega
      rw [HE.out.1] at r4
      rw [HE.out.2] at r5
      go_wp2_with fail
      refine bodyPost_ret (v := sn F.toNat M.toNat) (by simp [results, Tryd.results29, go_sem, *]) rfl ⟨rfl, below_set2 hw (by omega)⟩
theorem rmeet_bad (p m q n : BitVec 32) (hv : (vld p m && vld q n) = false) (w : World) : Gives 29 #[sn p.toNat m.toNat, sn q.toNat n.toNat] w (sn 0 0) := by
  refine rmeet_of p m q n 0#32 0#32 (fun k hk => ?_) (fun j hj h24 => by simp) w
  rcases h1 : vld p m with _ | _
  · rw [gV_not h1]; rcases gV_three q n k with e | e | e <;> simp [e]
  · rw [h1, Bool.true_and] at hv
    rw [gV_not hv]; rcases gV_three p m k with e | e | e <;> simp [e]
theorem rmeet_ok (p m q n : BitVec 32) (h1 : vld p m = true) (h2 : vld q n = true) (w : World) : Gives 29 #[sn p.toNat m.toNat, sn q.toNat n.toNat] w (sn (p &&& q).toNat (m &&& n).toNat) := by
  refine rmeet_of p m q n _ _ (fun k hk => ?_) (fun j hj h24 => ?_) w
  · obtain ⟨a1, a2⟩ := getV_bits h1 k (by omega)
    obtain ⟨b1, b2⟩ := getV_bits h2 k (by omega)
    rw [gV_of h1, gV_of h2, BitVec.getLsbD_and, BitVec.getLsbD_and, a1, a2, b1, b2]
    rcases getV_three p m k with e | e | e <;> rcases getV_three q n k with f | f | f <;> simp [e, f]
  · obtain ⟨a1, a2⟩ := vld_high h1 j hj h24
    simp [a1, a2]
end Go.Proofs.YtacfopopaieliaaDoor
