/-
  What With and Unify return.
-/
import Derived.Test.YtdbbmhefndjedaaDoorFc
import Derived.Test.YtdbbmhefndjedaaDoorReg
import Derived.RegionCalls
namespace Go.Proofs.YtdbbmhefndjedaaDoor
open Go.RowKit Go.Sort
attribute [local go_sem] sv bv_and bv_or bv_xor bv_andNot ofInt32_nat nat_beq nat_beq0
attribute [local go_sem ↓] snd_eql snd_neq

set_option maxHeartbeats 400000 in
theorem without_any (p m s : BitVec 32) (w : World) :
    Calls Tryd.prog 45 #[sv p m, .int .u32 (s.toNat : Int)] w fun e w' => e = .returned (sv (p &&& ~~~s) (m &&& ~~~s)) ∧ Below w.heap.size w w' := by
  unfold sv
  go_enter Tryd.func45, Tryd.ntmps45
  go_wp2
  refine bodyPost_ret (v := sv (p &&& ~~~s) (m &&& ~~~s)) (by simp [results, Tryd.results45, go_sem]) rfl ⟨rfl, by go_grown⟩
theorem without_of (p m s : BitVec 32) {x : Int} (hx : x = (s.toNat : Int)) (w : World) :
    Calls Tryd.prog 45 #[sv p m, .int .u32 x] w fun e w' => e = .returned (sv (p &&& ~~~s) (m &&& ~~~s)) ∧ Below w.heap.size w w' := by
  subst hx; exact without_any p m s w
set_option maxHeartbeats 400000 in
theorem union_any (p m q n : BitVec 32) (w : World) :
    Calls Tryd.prog 51 #[sv p m, sv q n] w fun e w' => e = .returned (sv (p ||| q) (m ||| n)) ∧ Below w.heap.size w w' := by
  unfold sv
  go_enter Tryd.func51, Tryd.ntmps51
  go_wp2
  refine bodyPost_ret (v := sv (p ||| q) (m ||| n)) (by simp [results, Tryd.results51, go_sem]) rfl ⟨rfl, by go_grown⟩
theorem union_of (p m q n : BitVec 32) {x1 x2 x3 x4 : Int} (h1 : x1 = (p.toNat : Int)) (h2 : x2 = (m.toNat : Int)) (h3 : x3 = (q.toNat : Int)) (h4 : x4 = (n.toNat : Int)) (w : World) :
    Calls Tryd.prog 51 #[.agg #[.int .u32 x1, .int .u32 x2], .agg #[.int .u32 x3, .int .u32 x4]] w fun e w' => e = .returned (sv (p ||| q) (m ||| n)) ∧ Below w.heap.size w w' := by
  subst h1 h2 h3 h4; exact union_any p m q n w
set_option maxHeartbeats 400000 in
theorem with_badS (p m : BitVec 32) (k v : Int) (hv : vld p m = false) (w : World) :
    Calls Tryd.prog 15 #[sv p m, .int .i64 k, .int .i64 v] w fun e w' => e = .returned (.tuple #[sv 0 0, .int .i64 14]) ∧ Below w.heap.size w w' := by
  have H := Lib.hid hv; clear hv
  unfold sv
  go_enter Tryd.func15, Tryd.ntmps15
  go_wp2_with (go_at_call 17; refine (valid_any _ _ _ H.out _).mono ?_; rintro e w1 ⟨rfl, hb⟩; have hw := chain (B := w.heap.size) (a := w) (by go_grown) (by go_size) hb; (first | have h0 := chain (h0.trans (by go_grown)) (by go_size) hb | have h0 := hb); obtain ⟨hc, hf, hz⟩ := bcell hb; obtain ⟨hc0, hf0, hz0⟩ := bcell h0; clear hb; (try simp only [World.size_alloc, World.size_setCell, World.size_drew] at hc hf hz hc0 hf0 hz0))
  refine bodyPost_ret (v := .tuple #[sv 0 0, .int .i64 14]) (by simp [results, Tryd.results15, go_sem, hc, hz]) rfl ⟨rfl, by go_grown⟩
set_option maxHeartbeats 400000 in
theorem with_badF (p m : BitVec 32) (k v : Int) (hv : vld p m = true) (hk : k < 0 ∨ 24 ≤ k) (w : World) :
    Calls Tryd.prog 15 #[sv p m, .int .i64 k, .int .i64 v] w fun e w' => e = .returned (.tuple #[sv 0 0, .int .i64 3]) ∧ Below w.heap.size w w' := by
  have H := Lib.hid hv; clear hv
  unfold sv
  have HK := Lib.hid hk; clear hk
  go_enter Tryd.func15, Tryd.ntmps15
  go_wp2_with (first | (go_at_call 17; refine (valid_any _ _ _ H.out _).mono ?_; rintro e w1 ⟨rfl, hb⟩; have hw := chain (B := w.heap.size) (a := w) (by go_grown) (by go_size) hb; (first | have h0 := chain (h0.trans (by go_grown)) (by go_size) hb | have h0 := hb); obtain ⟨hc, hf, hz⟩ := bcell hb; obtain ⟨hc0, hf0, hz0⟩ := bcell h0; clear hb; (try simp only [World.size_alloc, World.size_setCell, World.size_drew] at hc hf hz hc0 hf0 hz0)) | (go_at_call 44; refine (exists_no _ HK.out _).mono ?_; rintro e w1 ⟨rfl, rfl⟩))
  refine bodyPost_ret (v := .tuple #[sv 0 0, .int .i64 3]) (by simp [results, Tryd.results15, go_sem, hc, hz]) rfl ⟨rfl, by go_grown⟩
/-- What With returns for a valid sound and a feature. -/
def withV (p m : BitVec 32) (k : Nat) (v : Int) : Value :=
  if v = 1 ∨ v = 0 ∨ v = -1 then .tuple #[sv (withP p k v) (withM m k v), .int .i64 0] else .tuple #[sv 0 0, .int .i64 2]
set_option maxHeartbeats 2000000 in
theorem with_ok (p m : BitVec 32) (k : Nat) (v : Int) (hv : vld p m = true) (hk : k < 24) (w : World) :
    Calls Tryd.prog 15 #[sv p m, .int .i64 (k : Int), .int .i64 v] w fun e w' => e = .returned (withV p m k v) ∧ Below w.heap.size w w' := by
  have H := Lib.hid hv; clear hv
  unfold sv
  go_enter Tryd.func15, Tryd.ntmps15
  go_wp2_with (first | (go_at_call 17; refine (valid_any _ _ _ H.out _).mono ?_; rintro e w1 ⟨rfl, hb⟩; have hw := chain (B := w.heap.size) (a := w) (by go_grown) (by go_size) hb; (first | have h0 := chain (h0.trans (by go_grown)) (by go_size) hb | have h0 := hb); obtain ⟨hc, hf, hz⟩ := bcell hb; obtain ⟨hc0, hf0, hz0⟩ := bcell h0; clear hb; (try simp only [World.size_alloc, World.size_setCell, World.size_drew] at hc hf hz hc0 hf0 hz0)) | (go_at_call 44; refine (exists_yes _ (by omega) (by omega) _).mono ?_; rintro e w1 ⟨rfl, rfl⟩))
  refine wp_gen ?_
  intro W1 hW1
  have hw1 : Below w.heap.size w W1 := by rw [hW1]; go_grown
  have hz1 : w.heap.size + 1 + 1 ≤ W1.heap.size := by rw [hW1]; first | assumption | go_size
  have g0 : W1.cell? ⟨w.heap.size, 0, none⟩ = some (.int .u32 (p.toNat : Int)) := by rw [hW1]; first | assumption | go_cell | (go_simp; done) | (simp [hc, hf, hc0, hf0]; done) | (refine keep_set ?_ (by (try simp only []); omega); first | assumption | (refine keep_set ?_ (by (try simp only []); omega); assumption)) | (simp [*]; done)
  have g1 : W1.cell? ⟨w.heap.size, 1, none⟩ = some (.int .u32 (m.toNat : Int)) := by rw [hW1]; first | assumption | go_cell | (go_simp; done) | (simp [hc, hf, hc0, hf0]; done) | (refine keep_set ?_ (by (try simp only []); omega); first | assumption | (refine keep_set ?_ (by (try simp only []); omega); assumption)) | (simp [*]; done)
  have g2 : W1.cell? ⟨w.heap.size + 1, 0, none⟩ = some (.int .u32 0) := by rw [hW1]; first | assumption | go_cell | (go_simp; done) | (simp [hc, hf, hc0, hf0]; done) | (refine keep_set ?_ (by (try simp only []); omega); first | assumption | (refine keep_set ?_ (by (try simp only []); omega); assumption)) | (simp [*]; done)
  have g3 : W1.cell? ⟨w.heap.size + 1, 1, none⟩ = some (.int .u32 0) := by rw [hW1]; first | assumption | go_cell | (go_simp; done) | (simp [hc, hf, hc0, hf0]; done) | (refine keep_set ?_ (by (try simp only []); omega); first | assumption | (refine keep_set ?_ (by (try simp only []); omega); assumption)) | (simp [*]; done)
  have z0 : W1.frozen? ⟨w.heap.size + 1, 0, none⟩ = false := by rw [hW1]; first | assumption | go_cell | (go_simp; done) | (simp [hc, hf, hc0, hf0]; done) | (refine keep_set ?_ (by (try simp only []); omega); first | assumption | (refine keep_set ?_ (by (try simp only []); omega); assumption)) | (simp [*]; done)
  have z1 : W1.frozen? ⟨w.heap.size + 1, 1, none⟩ = false := by rw [hW1]; first | assumption | go_cell | (go_simp; done) | (simp [hc, hf, hc0, hf0]; done) | (refine keep_set ?_ (by (try simp only []); omega); first | assumption | (refine keep_set ?_ (by (try simp only []); omega); assumption)) | (simp [*]; done)
  clear hW1
  refine wp_region_makers 5 [(4, .cells #[.int .u32 0, .int .u32 0] 24 (0, 0))] [0, 1, 2, 3, 4] ?A1 _ (by kernel_rfl) (by kernel_rfl) ?hrun1 (by simp [quiets, mkOf]; rfl) ?walk1 ?fin1
  case hrun1 =>
    intro x hx
    simp only [List.mem_cons, List.not_mem_nil, or_false] at hx
    rcases hx with rfl
    all_goals exact ⟨_, rfl, rfl, fun a w => by simp [go_sem, ptr]⟩
  case walk1 =>
    intro W2 hW2
    have e0 : W2.cell? ⟨w.heap.size, 0, none⟩ = some (.int .u32 (p.toNat : Int)) := (hW2.cell (p := ⟨w.heap.size, 0, none⟩) (by (try simp only []); omega)).trans g0
    have k0 := cell_regrown e0
    have e1 : W2.cell? ⟨w.heap.size, 1, none⟩ = some (.int .u32 (m.toNat : Int)) := (hW2.cell (p := ⟨w.heap.size, 1, none⟩) (by (try simp only []); omega)).trans g1
    have k1 := cell_regrown e1
    have e2 : W2.cell? ⟨w.heap.size + 1, 0, none⟩ = some (.int .u32 0) := (hW2.cell (p := ⟨w.heap.size + 1, 0, none⟩) (by (try simp only []); omega)).trans g2
    have k2 := cell_regrown e2
    have e3 : W2.cell? ⟨w.heap.size + 1, 1, none⟩ = some (.int .u32 0) := (hW2.cell (p := ⟨w.heap.size + 1, 1, none⟩) (by (try simp only []); omega)).trans g3
    have k3 := cell_regrown e3
    repeat (go_big_quiet_step (first | exact Calls.regrown_of (without_any _ _ _ _) | exact Calls.regrown_of (((single_any _ hk _).mono (by rintro e w' ⟨rfl, rfl⟩; exact ⟨rfl, Below.refl _ _⟩)))))
    refine wpQuiet_nil ?_
    rfl
  intro bs w2 hb hF hN
  have hw := chain hw1 (by omega) hb
  obtain ⟨hc, hf, hz⟩ := bcell hb
  have r0 : w2.cell? ⟨w.heap.size, 0, none⟩ = some (.int .u32 (p.toNat : Int)) := (hc _ _ (by omega)).trans g0
  have r1 : w2.cell? ⟨w.heap.size, 1, none⟩ = some (.int .u32 (m.toNat : Int)) := (hc _ _ (by omega)).trans g1
  have r2 : w2.cell? ⟨w.heap.size + 1, 0, none⟩ = some (.int .u32 0) := (hc _ _ (by omega)).trans g2
  have r3 : w2.cell? ⟨w.heap.size + 1, 1, none⟩ = some (.int .u32 0) := (hc _ _ (by omega)).trans g3
  have q0 : w2.frozen? ⟨w.heap.size + 1, 0, none⟩ = false := (hf _ _ (by omega)).trans z0
  have q1 : w2.frozen? ⟨w.heap.size + 1, 1, none⟩ = false := (hf _ _ (by omega)).trans z1
  have m4 := hF (4, .cells #[.int .u32 0, .int .u32 0] 24 (0, 0)) (by simp)
  clear hb hF hN hw1 g0 g1 g2 g3 z0 z1
  simp only [List.map_cons, List.map_nil, List.foldr_cons, List.foldr_nil] at *
  generalize bs 4 = b4 at *
  obtain ⟨m4a, m4b⟩ := m4
  have u4_0 := cell_block (o := 0) (v := .int .u32 0) m4b rfl
  have v4_0 := frozen_block (o := 0) m4b
  have u4_1 := cell_block (o := 1) (v := .int .u32 0) m4b rfl
  have v4_1 := frozen_block (o := 1) m4b
  have l4 := lt_block m4b
  clear m4b
  clear bs
  simp only [dstOf, ptr, Act.put, List.getElem?_toArray, List.getElem?_cons_succ, List.getElem?_cons_zero, Option.bind_some, List.setIfInBounds_toArray, List.set_cons_zero, List.set_cons_succ, List.drop_succ_cons, List.drop_zero]
  clear hc hf
  generalize hP : p &&& ~~~bit k = P at *
  generalize hM : m &&& ~~~bit k = M at *
  have HP := Lib.hid hP; have HM := Lib.hid hM; clear hP hM
  by_cases v1 : v = 1
  · subst v1
    go_wp2_with fail
    refine wp_gen ?_
    intro W1 hW1
    have hw1 : Below w.heap.size w W1 := by rw [hW1]; go_grown
    have hz1 : b4 + 1 ≤ W1.heap.size := by rw [hW1]; first | assumption | go_size
    have g0 : W1.cell? ⟨b4, 0, none⟩ = some (.int .u32 (P.toNat : Int)) := by rw [hW1]; first | assumption | go_cell | (go_simp; done) | (simp [hc, hf, hc0, hf0]; done) | (refine keep_set ?_ (by (try simp only []); omega); first | assumption | (refine keep_set ?_ (by (try simp only []); omega); assumption)) | (simp [*]; done)
    have g1 : W1.cell? ⟨b4, 1, none⟩ = some (.int .u32 (M.toNat : Int)) := by rw [hW1]; first | assumption | go_cell | (go_simp; done) | (simp [hc, hf, hc0, hf0]; done) | (refine keep_set ?_ (by (try simp only []); omega); first | assumption | (refine keep_set ?_ (by (try simp only []); omega); assumption)) | (simp [*]; done)
    have g2 : W1.cell? ⟨w.heap.size + 1, 0, none⟩ = some (.int .u32 0) := by rw [hW1]; first | assumption | go_cell | (go_simp; done) | (simp [hc, hf, hc0, hf0]; done) | (refine keep_set ?_ (by (try simp only []); omega); first | assumption | (refine keep_set ?_ (by (try simp only []); omega); assumption)) | (simp [*]; done)
    have g3 : W1.cell? ⟨w.heap.size + 1, 1, none⟩ = some (.int .u32 0) := by rw [hW1]; first | assumption | go_cell | (go_simp; done) | (simp [hc, hf, hc0, hf0]; done) | (refine keep_set ?_ (by (try simp only []); omega); first | assumption | (refine keep_set ?_ (by (try simp only []); omega); assumption)) | (simp [*]; done)
    have z0 : W1.frozen? ⟨b4, 0, none⟩ = false := by rw [hW1]; first | assumption | go_cell | (go_simp; done) | (simp [hc, hf, hc0, hf0]; done) | (refine keep_set ?_ (by (try simp only []); omega); first | assumption | (refine keep_set ?_ (by (try simp only []); omega); assumption)) | (simp [*]; done)
    have z1 : W1.frozen? ⟨b4, 1, none⟩ = false := by rw [hW1]; first | assumption | go_cell | (go_simp; done) | (simp [hc, hf, hc0, hf0]; done) | (refine keep_set ?_ (by (try simp only []); omega); first | assumption | (refine keep_set ?_ (by (try simp only []); omega); assumption)) | (simp [*]; done)
    have z2 : W1.frozen? ⟨w.heap.size + 1, 0, none⟩ = false := by rw [hW1]; first | assumption | go_cell | (go_simp; done) | (simp [hc, hf, hc0, hf0]; done) | (refine keep_set ?_ (by (try simp only []); omega); first | assumption | (refine keep_set ?_ (by (try simp only []); omega); assumption)) | (simp [*]; done)
    have z3 : W1.frozen? ⟨w.heap.size + 1, 1, none⟩ = false := by rw [hW1]; first | assumption | go_cell | (go_simp; done) | (simp [hc, hf, hc0, hf0]; done) | (refine keep_set ?_ (by (try simp only []); omega); first | assumption | (refine keep_set ?_ (by (try simp only []); omega); assumption)) | (simp [*]; done)
    clear hW1
    refine wp_region_makers 5 [] [0, 1, 2, 3, 4] ?A2 _ (by kernel_rfl) (by kernel_rfl) ?hrun2 (by simp [quiets, mkOf]; rfl) ?walk2 ?fin2
    case hrun2 =>
      intro x hx
      cases hx
    case walk2 =>
      intro W2 hW2
      have e0 : W2.cell? ⟨b4, 0, none⟩ = some (.int .u32 (P.toNat : Int)) := (hW2.cell (p := ⟨b4, 0, none⟩) (by (try simp only []); omega)).trans g0
      have k0 := cell_regrown e0
      have e1 : W2.cell? ⟨b4, 1, none⟩ = some (.int .u32 (M.toNat : Int)) := (hW2.cell (p := ⟨b4, 1, none⟩) (by (try simp only []); omega)).trans g1
      have k1 := cell_regrown e1
      have e2 : W2.cell? ⟨w.heap.size + 1, 0, none⟩ = some (.int .u32 0) := (hW2.cell (p := ⟨w.heap.size + 1, 0, none⟩) (by (try simp only []); omega)).trans g2
      have k2 := cell_regrown e2
      have e3 : W2.cell? ⟨w.heap.size + 1, 1, none⟩ = some (.int .u32 0) := (hW2.cell (p := ⟨w.heap.size + 1, 1, none⟩) (by (try simp only []); omega)).trans g3
      have k3 := cell_regrown e3
      repeat (go_big_quiet_step (first | exact Calls.regrown_of (((single_any _ hk _).mono (by rintro e w' ⟨rfl, rfl⟩; exact ⟨rfl, Below.refl _ _⟩)))))
      refine wpQuiet_nil ?_
      rfl
    intro bs w2 hb hF hN
    have hw := chain hw1 (by omega) hb
    obtain ⟨hc, hf, hz⟩ := bcell hb
    have r0 : w2.cell? ⟨b4, 0, none⟩ = some (.int .u32 (P.toNat : Int)) := (hc _ _ (by omega)).trans g0
    have r1 : w2.cell? ⟨b4, 1, none⟩ = some (.int .u32 (M.toNat : Int)) := (hc _ _ (by omega)).trans g1
    have r2 : w2.cell? ⟨w.heap.size + 1, 0, none⟩ = some (.int .u32 0) := (hc _ _ (by omega)).trans g2
    have r3 : w2.cell? ⟨w.heap.size + 1, 1, none⟩ = some (.int .u32 0) := (hc _ _ (by omega)).trans g3
    have q0 : w2.frozen? ⟨b4, 0, none⟩ = false := (hf _ _ (by omega)).trans z0
    have q1 : w2.frozen? ⟨b4, 1, none⟩ = false := (hf _ _ (by omega)).trans z1
    have q2 : w2.frozen? ⟨w.heap.size + 1, 0, none⟩ = false := (hf _ _ (by omega)).trans z2
    have q3 : w2.frozen? ⟨w.heap.size + 1, 1, none⟩ = false := (hf _ _ (by omega)).trans z3
    clear hb hF hN hw1 g0 g1 g2 g3 z0 z1 z2 z3
    simp only [List.map_cons, List.map_nil, List.foldr_cons, List.foldr_nil] at *
    clear bs
    simp only [dstOf, ptr, Act.put, List.getElem?_toArray, List.getElem?_cons_succ, List.getElem?_cons_zero, Option.bind_some, List.setIfInBounds_toArray, List.set_cons_zero, List.set_cons_succ, List.drop_succ_cons, List.drop_zero]
    go_wp2
    refine bodyPost_ret (v := .tuple #[sv (P ||| bit k) M, .int .i64 0]) (by simp [results, Tryd.results15, go_sem, *]) rfl ⟨by simp [withV, withP, withM, HP.out, HM.out], by go_grown⟩
  · by_cases v2 : v = -1
    · subst v2
      go_wp2_with fail
      refine wp_gen ?_
      intro W1 hW1
      have hw1 : Below w.heap.size w W1 := by rw [hW1]; go_grown
      have hz1 : b4 + 1 ≤ W1.heap.size := by rw [hW1]; first | assumption | go_size
      have g0 : W1.cell? ⟨b4, 0, none⟩ = some (.int .u32 (P.toNat : Int)) := by rw [hW1]; first | assumption | go_cell | (go_simp; done) | (simp [hc, hf, hc0, hf0]; done) | (refine keep_set ?_ (by (try simp only []); omega); first | assumption | (refine keep_set ?_ (by (try simp only []); omega); assumption)) | (simp [*]; done)
      have g1 : W1.cell? ⟨b4, 1, none⟩ = some (.int .u32 (M.toNat : Int)) := by rw [hW1]; first | assumption | go_cell | (go_simp; done) | (simp [hc, hf, hc0, hf0]; done) | (refine keep_set ?_ (by (try simp only []); omega); first | assumption | (refine keep_set ?_ (by (try simp only []); omega); assumption)) | (simp [*]; done)
      have g2 : W1.cell? ⟨w.heap.size + 1, 0, none⟩ = some (.int .u32 0) := by rw [hW1]; first | assumption | go_cell | (go_simp; done) | (simp [hc, hf, hc0, hf0]; done) | (refine keep_set ?_ (by (try simp only []); omega); first | assumption | (refine keep_set ?_ (by (try simp only []); omega); assumption)) | (simp [*]; done)
      have g3 : W1.cell? ⟨w.heap.size + 1, 1, none⟩ = some (.int .u32 0) := by rw [hW1]; first | assumption | go_cell | (go_simp; done) | (simp [hc, hf, hc0, hf0]; done) | (refine keep_set ?_ (by (try simp only []); omega); first | assumption | (refine keep_set ?_ (by (try simp only []); omega); assumption)) | (simp [*]; done)
      have z0 : W1.frozen? ⟨b4, 0, none⟩ = false := by rw [hW1]; first | assumption | go_cell | (go_simp; done) | (simp [hc, hf, hc0, hf0]; done) | (refine keep_set ?_ (by (try simp only []); omega); first | assumption | (refine keep_set ?_ (by (try simp only []); omega); assumption)) | (simp [*]; done)
      have z1 : W1.frozen? ⟨b4, 1, none⟩ = false := by rw [hW1]; first | assumption | go_cell | (go_simp; done) | (simp [hc, hf, hc0, hf0]; done) | (refine keep_set ?_ (by (try simp only []); omega); first | assumption | (refine keep_set ?_ (by (try simp only []); omega); assumption)) | (simp [*]; done)
      have z2 : W1.frozen? ⟨w.heap.size + 1, 0, none⟩ = false := by rw [hW1]; first | assumption | go_cell | (go_simp; done) | (simp [hc, hf, hc0, hf0]; done) | (refine keep_set ?_ (by (try simp only []); omega); first | assumption | (refine keep_set ?_ (by (try simp only []); omega); assumption)) | (simp [*]; done)
      have z3 : W1.frozen? ⟨w.heap.size + 1, 1, none⟩ = false := by rw [hW1]; first | assumption | go_cell | (go_simp; done) | (simp [hc, hf, hc0, hf0]; done) | (refine keep_set ?_ (by (try simp only []); omega); first | assumption | (refine keep_set ?_ (by (try simp only []); omega); assumption)) | (simp [*]; done)
      clear hW1
      refine wp_region_makers 5 [] [0, 1, 2, 3, 4] ?A3 _ (by kernel_rfl) (by kernel_rfl) ?hrun3 (by simp [quiets, mkOf]; rfl) ?walk3 ?fin3
      case hrun3 =>
        intro x hx
        cases hx
      case walk3 =>
        intro W2 hW2
        have e0 : W2.cell? ⟨b4, 0, none⟩ = some (.int .u32 (P.toNat : Int)) := (hW2.cell (p := ⟨b4, 0, none⟩) (by (try simp only []); omega)).trans g0
        have k0 := cell_regrown e0
        have e1 : W2.cell? ⟨b4, 1, none⟩ = some (.int .u32 (M.toNat : Int)) := (hW2.cell (p := ⟨b4, 1, none⟩) (by (try simp only []); omega)).trans g1
        have k1 := cell_regrown e1
        have e2 : W2.cell? ⟨w.heap.size + 1, 0, none⟩ = some (.int .u32 0) := (hW2.cell (p := ⟨w.heap.size + 1, 0, none⟩) (by (try simp only []); omega)).trans g2
        have k2 := cell_regrown e2
        have e3 : W2.cell? ⟨w.heap.size + 1, 1, none⟩ = some (.int .u32 0) := (hW2.cell (p := ⟨w.heap.size + 1, 1, none⟩) (by (try simp only []); omega)).trans g3
        have k3 := cell_regrown e3
        repeat (go_big_quiet_step (first | exact Calls.regrown_of (((single_any _ hk _).mono (by rintro e w' ⟨rfl, rfl⟩; exact ⟨rfl, Below.refl _ _⟩)))))
        refine wpQuiet_nil ?_
        rfl
      intro bs w2 hb hF hN
      have hw := chain hw1 (by omega) hb
      obtain ⟨hc, hf, hz⟩ := bcell hb
      have r0 : w2.cell? ⟨b4, 0, none⟩ = some (.int .u32 (P.toNat : Int)) := (hc _ _ (by omega)).trans g0
      have r1 : w2.cell? ⟨b4, 1, none⟩ = some (.int .u32 (M.toNat : Int)) := (hc _ _ (by omega)).trans g1
      have r2 : w2.cell? ⟨w.heap.size + 1, 0, none⟩ = some (.int .u32 0) := (hc _ _ (by omega)).trans g2
      have r3 : w2.cell? ⟨w.heap.size + 1, 1, none⟩ = some (.int .u32 0) := (hc _ _ (by omega)).trans g3
      have q0 : w2.frozen? ⟨b4, 0, none⟩ = false := (hf _ _ (by omega)).trans z0
      have q1 : w2.frozen? ⟨b4, 1, none⟩ = false := (hf _ _ (by omega)).trans z1
      have q2 : w2.frozen? ⟨w.heap.size + 1, 0, none⟩ = false := (hf _ _ (by omega)).trans z2
      have q3 : w2.frozen? ⟨w.heap.size + 1, 1, none⟩ = false := (hf _ _ (by omega)).trans z3
      clear hb hF hN hw1 g0 g1 g2 g3 z0 z1 z2 z3
      simp only [List.map_cons, List.map_nil, List.foldr_cons, List.foldr_nil] at *
      clear bs
      simp only [dstOf, ptr, Act.put, List.getElem?_toArray, List.getElem?_cons_succ, List.getElem?_cons_zero, Option.bind_some, List.setIfInBounds_toArray, List.set_cons_zero, List.set_cons_succ, List.drop_succ_cons, List.drop_zero]
      go_wp2
      refine bodyPost_ret (v := .tuple #[sv P (M ||| bit k), .int .i64 0]) (by simp [results, Tryd.results15, go_sem, *]) rfl ⟨by simp [withV, withP, withM, HP.out, HM.out], by go_grown⟩
    · by_cases v3 : v = 0
      · subst v3
        go_wp2
        refine bodyPost_ret (v := .tuple #[sv P M, .int .i64 0]) (by simp [results, Tryd.results15, go_sem, *]) rfl ⟨by simp [withV, withP, withM, HP.out, HM.out], by go_grown⟩
      · go_wp2
        refine bodyPost_ret (v := .tuple #[sv 0 0, .int .i64 2]) (by simp [results, Tryd.results15, go_sem, *]) rfl ⟨by simp [withV, withP, withM, HP.out, HM.out, v1, v2, v3], by go_grown⟩
end Go.Proofs.YtdbbmhefndjedaaDoor
