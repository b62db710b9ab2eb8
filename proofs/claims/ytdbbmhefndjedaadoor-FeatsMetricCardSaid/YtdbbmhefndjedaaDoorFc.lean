/-
  More of what the functions of package feats return.
-/
import Derived.Test.YtdbbmhefndjedaaDoorFb
namespace Go.Proofs.YtdbbmhefndjedaaDoor
open Go.RowKit Go.Sort
attribute [local go_sem] sv bv_and bv_or bv_xor bv_andNot ofInt32_nat nat_beq nat_beq0

theorem snd_eql (a b c d : Int) (w : World) : (binOp .eql 24 (.agg #[.int .u32 a, .int .u32 b]) (.agg #[.int .u32 c, .int .u32 d])).run Tryd.prog w = .ok (.bool (a == c && b == d)) w := by
  by_cases h1 : a = c
  · by_cases h2 : b = d
    · simp [go_sem, h1, h2]
    · simp [go_sem, h1, h2]
  · simp [go_sem, h1]
theorem snd_neq (a b c d : Int) (w : World) : (binOp .neq 24 (.agg #[.int .u32 a, .int .u32 b]) (.agg #[.int .u32 c, .int .u32 d])).run Tryd.prog w = .ok (.bool (!(a == c && b == d))) w := by
  by_cases h1 : a = c
  · by_cases h2 : b = d
    · simp [go_sem, h1, h2]
    · simp [go_sem, h1, h2]
  · simp [go_sem, h1]
attribute [local go_sem ↓] snd_eql snd_neq
set_option maxHeartbeats 400000 in
theorem satisfies_ok (p m q n : BitVec 32) (hv : (vld p m && vld q n) = true) (w : World) :
    Calls Tryd.prog 24 #[sv p m, sv q n] w fun e w' => e = .returned (.bool ((p &&& q == q) && (m &&& n == n))) ∧ Below w.heap.size w w' := by
  have H := Lib.hid hv; clear hv
  unfold sv
  go_enter Tryd.func24, Tryd.ntmps24
  go_wp2_with fail
  refine wp_gen ?_
  intro W1 hW1
  have hw1 : Below w.heap.size w W1 := by rw [hW1]; go_grown
  have hz1 : w.heap.size + 1 + 1 ≤ W1.heap.size := by rw [hW1]; go_size
  have c0 : W1.cell? ⟨w.heap.size, 0, none⟩ = some (.int .u32 (p.toNat : Int)) := by rw [hW1]; first | assumption | go_cell | (go_simp; done) | exact cell_past (by first | assumption | omega) (by assumption)
  have c1 : W1.cell? ⟨w.heap.size, 1, none⟩ = some (.int .u32 (m.toNat : Int)) := by rw [hW1]; first | assumption | go_cell | (go_simp; done) | exact cell_past (by first | assumption | omega) (by assumption)
  have c2 : W1.cell? ⟨w.heap.size + 1, 0, none⟩ = some (.int .u32 (q.toNat : Int)) := by rw [hW1]; first | assumption | go_cell | (go_simp; done) | exact cell_past (by first | assumption | omega) (by assumption)
  have c3 : W1.cell? ⟨w.heap.size + 1, 1, none⟩ = some (.int .u32 (n.toNat : Int)) := by rw [hW1]; first | assumption | go_cell | (go_simp; done) | exact cell_past (by first | assumption | omega) (by assumption)
  clear hW1
  have k0 := cell_regrown c0
  have k1 := cell_regrown c1
  have k2 := cell_regrown c2
  have k3 := cell_regrown c3
  refine wp_region_quiet_below (by kernel_rfl) (by kernel_rfl) ?_
  try simp only [List.append]
  repeat (go_big_quiet_step (first | exact Calls.regrown_of (bothValid_any _ _ _ _ _ H.out _) | exact Calls.regrown_of (meet_ok _ _ _ _ H.out _)))
  refine wpQuiet_nil ?_
  intro w2 hw2
  have hb : Below W1.heap.size W1 w2 := by obtain ⟨q, rfl⟩ := hw2; exact below_regrown _ _ _
  clear hw2
  clear k0 k1 k2 k3
  have hw := chain hw1 (by omega) hb
  obtain ⟨hc, hf, hz⟩ := bcell hb
  clear hb
  try have r0 : w2.cell? ⟨w.heap.size, 0, none⟩ = some (.int .u32 (p.toNat : Int)) := (hc _ _ (by omega)).trans c0
  try have r1 : w2.cell? ⟨w.heap.size, 1, none⟩ = some (.int .u32 (m.toNat : Int)) := (hc _ _ (by omega)).trans c1
  try have r2 : w2.cell? ⟨w.heap.size + 1, 0, none⟩ = some (.int .u32 (q.toNat : Int)) := (hc _ _ (by omega)).trans c2
  try have r3 : w2.cell? ⟨w.heap.size + 1, 1, none⟩ = some (.int .u32 (n.toNat : Int)) := (hc _ _ (by omega)).trans c3
  go_wp2
  go_returns
  exact ⟨ret_bool (by rw [← nat_beq, ← nat_beq]; simp), by go_grown⟩

set_option maxHeartbeats 400000 in
theorem single_any (k : Nat) (hk : k < 24) (w : World) :
    Calls Tryd.prog 46 #[.int .i64 (k : Int)] w fun e w' => e = .returned (.int .u32 ((bit k).toNat : Int)) ∧ w = w' := by
  have hb := bit_toNat k (by omega)
  have h2 : 2 ^ k < 2 ^ 32 := Nat.pow_lt_pow_right (by omega) (by omega)
  have HB := Lib.hid hb; clear hb
  have H2 := Lib.hid h2; clear h2
  go_enter Tryd.func46, Tryd.ntmps46
  go_wp2
  go_returns
  refine ⟨?_, rfl⟩
  have h2 := H2.out
  rw [HB.out]
  have e : ((2 ^ k : Int)) % 4294967296 = ((2 ^ k : Nat) : Int) := by
    rw [show (2 ^ k : Int) = ((2 ^ k : Nat) : Int) from by simp]; generalize 2 ^ k = z at *; omega
  simp [e]

set_option maxHeartbeats 400000 in
theorem exists_yes (k : Int) (h1 : 0 ≤ k) (h2 : k < 24) (w : World) :
    Calls Tryd.prog 44 #[.int .i64 k] w fun e w' => e = .returned (.bool true) ∧ w = w' := by
  go_enter Tryd.func44, Tryd.ntmps44
  go_wp2
  go_returns
  exact ⟨rfl, rfl⟩
set_option maxHeartbeats 400000 in
theorem exists_no (k : Int) (h : k < 0 ∨ 24 ≤ k) (w : World) :
    Calls Tryd.prog 44 #[.int .i64 k] w fun e w' => e = .returned (.bool false) ∧ w = w' := by
  rcases h with h | h
  all_goals (
    go_enter Tryd.func44, Tryd.ntmps44
    go_wp2
    go_returns
    exact ⟨by first | rfl | (simp; done) | (simp; omega), rfl⟩)
set_option maxHeartbeats 400000 in
theorem get_badS (p m : BitVec 32) (k : Int) (hv : vld p m = false) (w : World) :
    Calls Tryd.prog 19 #[sv p m, .int .i64 k] w fun e w' => e = .returned (.int .i64 0) ∧ Below w.heap.size w w' := by
  have H := Lib.hid hv; clear hv
  unfold sv
  go_enter Tryd.func19, Tryd.ntmps19
  go_wp2_with (go_at_call 17; refine (valid_any _ _ _ H.out _).mono ?_; rintro e w1 ⟨rfl, hb⟩; have hw := chain (B := w.heap.size) (a := w) (by go_grown) (by go_size) hb; (first | have h0 := chain (h0.trans (by go_grown)) (by go_size) hb | have h0 := hb); obtain ⟨hc, hf, hz⟩ := bcell hb; obtain ⟨hc0, hf0, hz0⟩ := bcell h0; clear hb; (try simp only [World.size_alloc, World.size_setCell, World.size_drew] at hc hf hz hc0 hf0 hz0))
  go_returns
  exact ⟨rfl, by go_grown⟩
set_option maxHeartbeats 400000 in
theorem get_badF (p m : BitVec 32) (k : Int) (hv : vld p m = true) (hk : k < 0 ∨ 24 ≤ k) (w : World) :
    Calls Tryd.prog 19 #[sv p m, .int .i64 k] w fun e w' => e = .returned (.int .i64 0) ∧ Below w.heap.size w w' := by
  have H := Lib.hid hv; clear hv
  unfold sv
  rcases hk with hk | hk
  all_goals (
    go_enter Tryd.func19, Tryd.ntmps19
    go_wp2_with (first | (go_at_call 17; refine (valid_any _ _ _ H.out _).mono ?_; rintro e w1 ⟨rfl, hb⟩; have hw := chain (B := w.heap.size) (a := w) (by go_grown) (by go_size) hb; (first | have h0 := chain (h0.trans (by go_grown)) (by go_size) hb | have h0 := hb); obtain ⟨hc, hf, hz⟩ := bcell hb; obtain ⟨hc0, hf0, hz0⟩ := bcell h0; clear hb; (try simp only [World.size_alloc, World.size_setCell, World.size_drew] at hc hf hz hc0 hf0 hz0)) | (go_at_call 44; refine (exists_no _ (by omega) _).mono ?_; rintro e w1 ⟨rfl, rfl⟩))
    go_returns
    exact ⟨rfl, by go_grown⟩)
set_option maxHeartbeats 400000 in
theorem get_ok (p m : BitVec 32) (k : Nat) (hv : vld p m = true) (hk : k < 24) (w : World) :
    Calls Tryd.prog 19 #[sv p m, .int .i64 (k : Int)] w fun e w' => e = .returned (.int .i64 (getV p m k)) ∧ Below w.heap.size w w' := by
  have H := Lib.hid hv; clear hv
  have h1 := and_bit p k (by omega)
  have h2 := and_bit m k (by omega)
  have H1 := Lib.hid h1; have H2 := Lib.hid h2; clear h1 h2
  unfold sv
  go_enter Tryd.func19, Tryd.ntmps19
  go_wp2_with (first | (go_at_call 17; refine (valid_any _ _ _ H.out _).mono ?_; rintro e w1 ⟨rfl, hb⟩; have hw := chain (B := w.heap.size) (a := w) (by go_grown) (by go_size) hb; (first | have h0 := chain (h0.trans (by go_grown)) (by go_size) hb | have h0 := hb); obtain ⟨hc, hf, hz⟩ := bcell hb; obtain ⟨hc0, hf0, hz0⟩ := bcell h0; clear hb; (try simp only [World.size_alloc, World.size_setCell, World.size_drew] at hc hf hz hc0 hf0 hz0)) | (go_at_call 46; refine (single_any _ hk _).mono ?_; rintro e w1 ⟨rfl, rfl⟩) | (go_at_call 44; refine (exists_yes _ (by omega) (by omega) _).mono ?_; rintro e w1 ⟨rfl, rfl⟩))
  all_goals go_returns
  all_goals (refine ⟨?_, by go_grown⟩)
  all_goals (have h1 := H1.out; have h2 := H2.out; unfold getV; simp_all)
end Go.Proofs.YtdbbmhefndjedaaDoor
