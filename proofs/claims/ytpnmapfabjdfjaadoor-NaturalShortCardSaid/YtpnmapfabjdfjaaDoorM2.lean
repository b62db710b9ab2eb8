/-
  Lemmas that the theorem of this claim rests on: 9 texts, one behind the other.
-/
import Derived.Test.YtpnmapfabjdfjaaDoorM1
import Derived.Test.YtpnmapfabjdfjaaDoorProg
import Derived.WalkKit
import Derived.WalkSpells
import Derived.WalkLawsBesides
import Derived.BigQuiet
import Derived.Handy
import Derived.Lib.Hide
import Derived.Deep.RegionHeld3
import Derived.Lib.QuietBelow
import Derived.RegionCalls
set_option linter.unusedSimpArgs false
set_option linter.unusedVariables false

/-
  What the functions of package feats that have no loop return, and that they change nothing that was there.
-/
namespace Go.Proofs.YtpnmapfabjdfjaaDoor
open Go.RowKit Go.Sort
attribute [local go_sem] sv bv_and bv_or bv_xor bv_andNot ofInt32_nat nat_beq nat_beq0

set_option maxHeartbeats 400000 in
theorem valid_any (p m : BitVec 32) (b : Bool) (hb : vld p m = b) (w : World) :
    Calls Tryd.prog 40 #[sv p m] w fun e w' => e = .returned (.bool b) ∧ Below w.heap.size w w' := by
  subst hb
  have hv := vld_iff p m
  have HV := Lib.hid hv; clear hv
  unfold sv
  go_enter Tryd.func40, Tryd.ntmps40
  go_wp2
  all_goals go_returns
  · refine ⟨ret_bool ?_, by go_grown⟩
    rw [Bool.eq_iff_iff, HV.out]; simp [*]
  · refine ⟨ret_bool ?_, by go_grown⟩
    rw [Bool.eq_iff_iff, HV.out]; simp [*]

set_option maxHeartbeats 400000 in
theorem bothValid_any (p m q n : BitVec 32) (b : Bool) (hb : (vld p m && vld q n) = b) (w : World) :
    Calls Tryd.prog 70 #[sv p m, sv q n] w fun e w' => e = .returned (.bool b) ∧ Below w.heap.size w w' := by
  subst hb
  rcases h1 : vld p m with _ | _
  all_goals rcases h2 : vld q n with _ | _
  all_goals (
    have H1 := Lib.hid h1; have H2 := Lib.hid h2; clear h1 h2
    unfold sv
    go_enter Tryd.func70, Tryd.ntmps70
    go_wp2_with (go_at_call 40; refine (valid_any _ _ _ (by first | exact H1.out | exact H2.out) _).mono ?_; rintro e w1 ⟨rfl, hb⟩; have hw := chain (B := w.heap.size) (a := w) (by go_grown) (by go_size) hb; (first | have h0 := chain (h0.trans (by go_grown)) (by go_size) hb | have h0 := hb); obtain ⟨hc, hf, hz⟩ := bcell hb; obtain ⟨hc0, hf0, hz0⟩ := bcell h0; clear hb; (try simp only [World.size_alloc, World.size_setCell, World.size_drew] at hc hf hz hc0 hf0 hz0))
    go_returns
    exact ⟨rfl, by go_grown⟩)

set_option maxHeartbeats 400000 in
theorem meet_ok (p m q n : BitVec 32) (hv : (vld p m && vld q n) = true) (w : World) :
    Calls Tryd.prog 71 #[sv p m, sv q n] w fun e w' => e = .returned (sv (p &&& q) (m &&& n)) ∧ Below w.heap.size w w' := by
  have H := Lib.hid hv; clear hv
  unfold sv
  go_enter Tryd.func71, Tryd.ntmps71
  go_wp2_with (go_at_call 70; refine (bothValid_any _ _ _ _ _ H.out _).mono ?_; rintro e w1 ⟨rfl, hb⟩; have hw := chain (B := w.heap.size) (a := w) (by go_grown) (by go_size) hb; (first | have h0 := chain (h0.trans (by go_grown)) (by go_size) hb | have h0 := hb); obtain ⟨hc, hf, hz⟩ := bcell hb; obtain ⟨hc0, hf0, hz0⟩ := bcell h0; clear hb; (try simp only [World.size_alloc, World.size_setCell, World.size_drew] at hc hf hz hc0 hf0 hz0))
  refine bodyPost_ret (v := sv (p &&& q) (m &&& n)) (by simp [results, Tryd.results71, go_sem, hc, hz]) rfl ⟨rfl, by go_grown⟩
set_option maxHeartbeats 400000 in
theorem meet_bad (p m q n : BitVec 32) (hv : (vld p m && vld q n) = false) (w : World) :
    Calls Tryd.prog 71 #[sv p m, sv q n] w fun e w' => e = .returned (sv 0 0) ∧ Below w.heap.size w w' := by
  have H := Lib.hid hv; clear hv
  unfold sv
  go_enter Tryd.func71, Tryd.ntmps71
  go_wp2_with (go_at_call 70; refine (bothValid_any _ _ _ _ _ H.out _).mono ?_; rintro e w1 ⟨rfl, hb⟩; have hw := chain (B := w.heap.size) (a := w) (by go_grown) (by go_size) hb; (first | have h0 := chain (h0.trans (by go_grown)) (by go_size) hb | have h0 := hb); obtain ⟨hc, hf, hz⟩ := bcell hb; obtain ⟨hc0, hf0, hz0⟩ := bcell h0; clear hb; (try simp only [World.size_alloc, World.size_setCell, World.size_drew] at hc hf hz hc0 hf0 hz0))
  refine bodyPost_ret (v := sv 0 0) (by simp [results, Tryd.results71, go_sem, hc, hz]) rfl ⟨rfl, by go_grown⟩
set_option maxHeartbeats 400000 in
theorem diff_ok (p m q n : BitVec 32) (hv : (vld p m && vld q n) = true) (w : World) :
    Calls Tryd.prog 39 #[sv p m, sv q n] w fun e w' => e = .returned (.int .u32 (((p ^^^ q) ||| (m ^^^ n)).toNat : Int)) ∧ Below w.heap.size w w' := by
  have H := Lib.hid hv; clear hv
  unfold sv
  go_enter Tryd.func39, Tryd.ntmps39
  go_wp2_with (go_at_call 70; refine (bothValid_any _ _ _ _ _ H.out _).mono ?_; rintro e w1 ⟨rfl, hb⟩; have hw := chain (B := w.heap.size) (a := w) (by go_grown) (by go_size) hb; (first | have h0 := chain (h0.trans (by go_grown)) (by go_size) hb | have h0 := hb); obtain ⟨hc, hf, hz⟩ := bcell hb; obtain ⟨hc0, hf0, hz0⟩ := bcell h0; clear hb; (try simp only [World.size_alloc, World.size_setCell, World.size_drew] at hc hf hz hc0 hf0 hz0))
  go_returns
  exact ⟨by simp, by go_grown⟩
set_option maxHeartbeats 400000 in
theorem diff_bad (p m q n : BitVec 32) (hv : (vld p m && vld q n) = false) (w : World) :
    Calls Tryd.prog 39 #[sv p m, sv q n] w fun e w' => e = .returned (.int .u32 0) ∧ Below w.heap.size w w' := by
  have H := Lib.hid hv; clear hv
  unfold sv
  go_enter Tryd.func39, Tryd.ntmps39
  go_wp2_with (go_at_call 70; refine (bothValid_any _ _ _ _ _ H.out _).mono ?_; rintro e w1 ⟨rfl, hb⟩; have hw := chain (B := w.heap.size) (a := w) (by go_grown) (by go_size) hb; (first | have h0 := chain (h0.trans (by go_grown)) (by go_size) hb | have h0 := hb); obtain ⟨hc, hf, hz⟩ := bcell hb; obtain ⟨hc0, hf0, hz0⟩ := bcell h0; clear hb; (try simp only [World.size_alloc, World.size_setCell, World.size_drew] at hc hf hz hc0 hf0 hz0))
  go_returns
  exact ⟨by simp, by go_grown⟩
end Go.Proofs.YtpnmapfabjdfjaaDoor

/-
  What the functions of package feats return whose statements leave their order open.
-/
namespace Go.Proofs.YtpnmapfabjdfjaaDoor
open Go.RowKit Go.Sort
attribute [local go_sem] sv bv_and bv_or bv_xor bv_andNot ofInt32_nat nat_beq nat_beq0

set_option maxHeartbeats 400000 in
theorem satisfies_bad (p m q n : BitVec 32) (hv : (vld p m && vld q n) = false) (w : World) :
    Calls Tryd.prog 36 #[sv p m, sv q n] w fun e w' => e = .returned (.bool false) ∧ Below w.heap.size w w' := by
  have H := Lib.hid hv; clear hv
  unfold sv
  go_enter Tryd.func36, Tryd.ntmps36
  go_wp2_with fail
  refine wp_gen ?_
  intro W1 hW1
  have hw1 : Below w.heap.size w W1 := by rw [hW1]; go_grown
  have hz1 : w.heap.size + 1 + 1 ≤ W1.heap.size := by rw [hW1]; go_size
  have c0 : W1.cell? ⟨w.heap.size, 0, none⟩ = some (.int .u32 (p.toNat : Int)) := by rw [hW1]; first | assumption | go_cell | (go_simp; done) | exact cell_past (by first | assumption | omega) (by assumption)
  have c1 : W1.cell? ⟨w.heap.size, 1, none⟩ = some (.int .u32 (m.toNat : Int)) := by rw [hW1]; first | assumption | go_cell | (go_simp; done) | exact cell_past (by first | assumption | omega) (by assumption)
  have c2 : W1.cell? ⟨w.heap.size + 1, 0, none⟩ = some (.int .u32 (q.toNat : Int)) := by rw [hW1]; first | assumption | go_cell | (go_simp; done) | exact cell_past (by first | assumption | omega) (by assumption)
  have c3 : W1.cell? ⟨w.heap.size + 1, 1, none⟩ = some (.int .u32 (n.toNat : Int)) := by rw [hW1]; first | assumption | go_cell | (go_simp; done) | exact cell_past (by first | assumption | omega) (by assumption)
  clear hW1
  have k0 := cell_regrown c0
  have k1 := cell_regrown c1
  have k2 := cell_regrown c2
  have k3 := cell_regrown c3
  refine wp_region_quiet_below (by kernel_rfl) (by kernel_rfl) ?_
  try simp only [List.append]
  repeat (go_big_quiet_step (first | exact Calls.regrown_of (bothValid_any _ _ _ _ _ H.out _)))
  refine wpQuiet_nil ?_
  intro w2 hw2
  have hb : Below W1.heap.size W1 w2 := by obtain ⟨q, rfl⟩ := hw2; exact below_regrown _ _ _
  clear hw2
  clear k0 k1 k2 k3
  have hw := chain hw1 (by omega) hb
  obtain ⟨hc, hf, hz⟩ := bcell hb
  clear hb
  try have r0 : w2.cell? ⟨w.heap.size, 0, none⟩ = some (.int .u32 (p.toNat : Int)) := (hc _ _ (by omega)).trans c0
  try have r1 : w2.cell? ⟨w.heap.size, 1, none⟩ = some (.int .u32 (m.toNat : Int)) := (hc _ _ (by omega)).trans c1
  try have r2 : w2.cell? ⟨w.heap.size + 1, 0, none⟩ = some (.int .u32 (q.toNat : Int)) := (hc _ _ (by omega)).trans c2
  try have r3 : w2.cell? ⟨w.heap.size + 1, 1, none⟩ = some (.int .u32 (n.toNat : Int)) := (hc _ _ (by omega)).trans c3
  go_wp2
  go_returns
  exact ⟨rfl, by go_grown⟩
end Go.Proofs.YtpnmapfabjdfjaaDoor

/-
  More of what the functions of package feats return.
-/
namespace Go.Proofs.YtpnmapfabjdfjaaDoor
open Go.RowKit Go.Sort
attribute [local go_sem] sv bv_and bv_or bv_xor bv_andNot ofInt32_nat nat_beq nat_beq0

attribute [local go_sem ↓] snd_eql snd_neq
set_option maxHeartbeats 400000 in
theorem satisfies_ok (p m q n : BitVec 32) (hv : (vld p m && vld q n) = true) (w : World) :
    Calls Tryd.prog 36 #[sv p m, sv q n] w fun e w' => e = .returned (.bool ((p &&& q == q) && (m &&& n == n))) ∧ Below w.heap.size w w' := by
  have H := Lib.hid hv; clear hv
  unfold sv
  go_enter Tryd.func36, Tryd.ntmps36
  go_wp2_with fail
  refine wp_gen ?_
  intro W1 hW1
  have hw1 : Below w.heap.size w W1 := by rw [hW1]; go_grown
  have hz1 : w.heap.size + 1 + 1 ≤ W1.heap.size := by rw [hW1]; go_size
  have c0 : W1.cell? ⟨w.heap.size, 0, none⟩ = some (.int .u32 (p.toNat : Int)) := by rw [hW1]; first | assumption | go_cell | (go_simp; done) | exact cell_past (by first | assumption | omega) (by assumption)
  have c1 : W1.cell? ⟨w.heap.size, 1, none⟩ = some (.int .u32 (m.toNat : Int)) := by rw [hW1]; first | assumption | go_cell | (go_simp; done) | exact cell_past (by first | assumption | omega) (by assumption)
  have c2 : W1.cell? ⟨w.heap.size + 1, 0, none⟩ = some (.int .u32 (q.toNat : Int)) := by rw [hW1]; first | assumption | go_cell | (go_simp; done) | exact cell_past (by first | assumption | omega) (by assumption)
  have c3 : W1.cell? ⟨w.heap.size + 1, 1, none⟩ = some (.int .u32 (n.toNat : Int)) := by rw [hW1]; first | assumption | go_cell | (go_simp; done) | exact cell_past (by first | assumption | omega) (by assumption)
  clear hW1
  have k0 := cell_regrown c0
  have k1 := cell_regrown c1
  have k2 := cell_regrown c2
  have k3 := cell_regrown c3
  refine wp_region_quiet_below (by kernel_rfl) (by kernel_rfl) ?_
  try simp only [List.append]
  repeat (go_big_quiet_step (first | exact Calls.regrown_of (bothValid_any _ _ _ _ _ H.out _) | exact Calls.regrown_of (meet_ok _ _ _ _ H.out _)))
  refine wpQuiet_nil ?_
  intro w2 hw2
  have hb : Below W1.heap.size W1 w2 := by obtain ⟨q, rfl⟩ := hw2; exact below_regrown _ _ _
  clear hw2
  clear k0 k1 k2 k3
  have hw := chain hw1 (by omega) hb
  obtain ⟨hc, hf, hz⟩ := bcell hb
  clear hb
  try have r0 : w2.cell? ⟨w.heap.size, 0, none⟩ = some (.int .u32 (p.toNat : Int)) := (hc _ _ (by omega)).trans c0
  try have r1 : w2.cell? ⟨w.heap.size, 1, none⟩ = some (.int .u32 (m.toNat : Int)) := (hc _ _ (by omega)).trans c1
  try have r2 : w2.cell? ⟨w.heap.size + 1, 0, none⟩ = some (.int .u32 (q.toNat : Int)) := (hc _ _ (by omega)).trans c2
  try have r3 : w2.cell? ⟨w.heap.size + 1, 1, none⟩ = some (.int .u32 (n.toNat : Int)) := (hc _ _ (by omega)).trans c3
  go_wp2
  go_returns
  exact ⟨ret_bool (by rw [← nat_beq, ← nat_beq]; simp), by go_grown⟩

set_option maxHeartbeats 400000 in
theorem single_any (k : Nat) (hk : k < 24) (w : World) :
    Calls Tryd.prog 73 #[.int .i64 (k : Int)] w fun e w' => e = .returned (.int .u32 ((bit k).toNat : Int)) ∧ w = w' := by
  have hb := bit_toNat k (by omega)
  have h2 : 2 ^ k < 2 ^ 32 := Nat.pow_lt_pow_right (by omega) (by omega)
  have HB := Lib.hid hb; clear hb
  have H2 := Lib.hid h2; clear h2
  go_enter Tryd.func73, Tryd.ntmps73
  go_wp2
  go_returns
  refine ⟨?_, rfl⟩
  have h2 := H2.out
  rw [HB.out]
  have e : ((2 ^ k : Int)) % 4294967296 = ((2 ^ k : Nat) : Int) := by
    rw [show (2 ^ k : Int) = ((2 ^ k : Nat) : Int) from by simp]; generalize 2 ^ k = z at *; omega
  simp [e]

set_option maxHeartbeats 400000 in
theorem exists_yes (k : Int) (h1 : 0 ≤ k) (h2 : k < 24) (w : World) :
    Calls Tryd.prog 72 #[.int .i64 k] w fun e w' => e = .returned (.bool true) ∧ w = w' := by
  go_enter Tryd.func72, Tryd.ntmps72
  go_wp2
  go_returns
  exact ⟨rfl, rfl⟩
set_option maxHeartbeats 400000 in
theorem exists_no (k : Int) (h : k < 0 ∨ 24 ≤ k) (w : World) :
    Calls Tryd.prog 72 #[.int .i64 k] w fun e w' => e = .returned (.bool false) ∧ w = w' := by
  rcases h with h | h
  all_goals (
    go_enter Tryd.func72, Tryd.ntmps72
    go_wp2
    go_returns
    exact ⟨by first | rfl | (simp; done) | (simp; omega), rfl⟩)
set_option maxHeartbeats 400000 in
theorem get_badS (p m : BitVec 32) (k : Int) (hv : vld p m = false) (w : World) :
    Calls Tryd.prog 37 #[sv p m, .int .i64 k] w fun e w' => e = .returned (.int .i64 0) ∧ Below w.heap.size w w' := by
  have H := Lib.hid hv; clear hv
  unfold sv
  go_enter Tryd.func37, Tryd.ntmps37
  go_wp2_with (go_at_call 40; refine (valid_any _ _ _ H.out _).mono ?_; rintro e w1 ⟨rfl, hb⟩; have hw := chain (B := w.heap.size) (a := w) (by go_grown) (by go_size) hb; (first | have h0 := chain (h0.trans (by go_grown)) (by go_size) hb | have h0 := hb); obtain ⟨hc, hf, hz⟩ := bcell hb; obtain ⟨hc0, hf0, hz0⟩ := bcell h0; clear hb; (try simp only [World.size_alloc, World.size_setCell, World.size_drew] at hc hf hz hc0 hf0 hz0))
  go_returns
  exact ⟨rfl, by go_grown⟩
set_option maxHeartbeats 400000 in
theorem get_badF (p m : BitVec 32) (k : Int) (hv : vld p m = true) (hk : k < 0 ∨ 24 ≤ k) (w : World) :
    Calls Tryd.prog 37 #[sv p m, .int .i64 k] w fun e w' => e = .returned (.int .i64 0) ∧ Below w.heap.size w w' := by
  have H := Lib.hid hv; clear hv
  unfold sv
  rcases hk with hk | hk
  all_goals (
    go_enter Tryd.func37, Tryd.ntmps37
    go_wp2_with (first | (go_at_call 40; refine (valid_any _ _ _ H.out _).mono ?_; rintro e w1 ⟨rfl, hb⟩; have hw := chain (B := w.heap.size) (a := w) (by go_grown) (by go_size) hb; (first | have h0 := chain (h0.trans (by go_grown)) (by go_size) hb | have h0 := hb); obtain ⟨hc, hf, hz⟩ := bcell hb; obtain ⟨hc0, hf0, hz0⟩ := bcell h0; clear hb; (try simp only [World.size_alloc, World.size_setCell, World.size_drew] at hc hf hz hc0 hf0 hz0)) | (go_at_call 72; refine (exists_no _ (by omega) _).mono ?_; rintro e w1 ⟨rfl, rfl⟩))
    go_returns
    exact ⟨rfl, by go_grown⟩)
set_option maxHeartbeats 400000 in
theorem get_ok (p m : BitVec 32) (k : Nat) (hv : vld p m = true) (hk : k < 24) (w : World) :
    Calls Tryd.prog 37 #[sv p m, .int .i64 (k : Int)] w fun e w' => e = .returned (.int .i64 (getV p m k)) ∧ Below w.heap.size w w' := by
  have H := Lib.hid hv; clear hv
  have h1 := and_bit p k (by omega)
  have h2 := and_bit m k (by omega)
  have H1 := Lib.hid h1; have H2 := Lib.hid h2; clear h1 h2
  unfold sv
  go_enter Tryd.func37, Tryd.ntmps37
  go_wp2_with (first | (go_at_call 40; refine (valid_any _ _ _ H.out _).mono ?_; rintro e w1 ⟨rfl, hb⟩; have hw := chain (B := w.heap.size) (a := w) (by go_grown) (by go_size) hb; (first | have h0 := chain (h0.trans (by go_grown)) (by go_size) hb | have h0 := hb); obtain ⟨hc, hf, hz⟩ := bcell hb; obtain ⟨hc0, hf0, hz0⟩ := bcell h0; clear hb; (try simp only [World.size_alloc, World.size_setCell, World.size_drew] at hc hf hz hc0 hf0 hz0)) | (go_at_call 73; refine (single_any _ hk _).mono ?_; rintro e w1 ⟨rfl, rfl⟩) | (go_at_call 72; refine (exists_yes _ (by omega) (by omega) _).mono ?_; rintro e w1 ⟨rfl, rfl⟩))
  all_goals go_returns
  all_goals (refine ⟨?_, by go_grown⟩)
  all_goals (have h1 := H1.out; have h2 := H2.out; unfold getV; simp_all)
end Go.Proofs.YtpnmapfabjdfjaaDoor

/-
  What With and Unify return.
-/
namespace Go.Proofs.YtpnmapfabjdfjaaDoor
open Go.RowKit Go.Sort
attribute [local go_sem] sv bv_and bv_or bv_xor bv_andNot ofInt32_nat nat_beq nat_beq0
attribute [local go_sem ↓] snd_eql snd_neq

set_option maxHeartbeats 400000 in
theorem without_any (p m s : BitVec 32) (w : World) :
    Calls Tryd.prog 74 #[sv p m, .int .u32 (s.toNat : Int)] w fun e w' => e = .returned (sv (p &&& ~~~s) (m &&& ~~~s)) ∧ Below w.heap.size w w' := by
  unfold sv
  go_enter Tryd.func74, Tryd.ntmps74
  go_wp2
  refine bodyPost_ret (v := sv (p &&& ~~~s) (m &&& ~~~s)) (by simp [results, Tryd.results74, go_sem]) rfl ⟨rfl, by go_grown⟩
theorem without_of (p m s : BitVec 32) {x : Int} (hx : x = (s.toNat : Int)) (w : World) :
    Calls Tryd.prog 74 #[sv p m, .int .u32 x] w fun e w' => e = .returned (sv (p &&& ~~~s) (m &&& ~~~s)) ∧ Below w.heap.size w w' := by
  subst hx; exact without_any p m s w
set_option maxHeartbeats 400000 in
theorem union_any (p m q n : BitVec 32) (w : World) :
    Calls Tryd.prog 104 #[sv p m, sv q n] w fun e w' => e = .returned (sv (p ||| q) (m ||| n)) ∧ Below w.heap.size w w' := by
  unfold sv
  go_enter Tryd.func104, Tryd.ntmps104
  go_wp2
  refine bodyPost_ret (v := sv (p ||| q) (m ||| n)) (by simp [results, Tryd.results104, go_sem]) rfl ⟨rfl, by go_grown⟩
theorem union_of (p m q n : BitVec 32) {x1 x2 x3 x4 : Int} (h1 : x1 = (p.toNat : Int)) (h2 : x2 = (m.toNat : Int)) (h3 : x3 = (q.toNat : Int)) (h4 : x4 = (n.toNat : Int)) (w : World) :
    Calls Tryd.prog 104 #[.agg #[.int .u32 x1, .int .u32 x2], .agg #[.int .u32 x3, .int .u32 x4]] w fun e w' => e = .returned (sv (p ||| q) (m ||| n)) ∧ Below w.heap.size w w' := by
  subst h1 h2 h3 h4; exact union_any p m q n w
set_option maxHeartbeats 400000 in
theorem with_badS (p m : BitVec 32) (k v : Int) (hv : vld p m = false) (w : World) :
    Calls Tryd.prog 38 #[sv p m, .int .i64 k, .int .i64 v] w fun e w' => e = .returned (.tuple #[sv 0 0, .int .i64 14]) ∧ Below w.heap.size w w' := by
  have H := Lib.hid hv; clear hv
  unfold sv
  go_enter Tryd.func38, Tryd.ntmps38
  go_wp2_with (go_at_call 40; refine (valid_any _ _ _ H.out _).mono ?_; rintro e w1 ⟨rfl, hb⟩; have hw := chain (B := w.heap.size) (a := w) (by go_grown) (by go_size) hb; (first | have h0 := chain (h0.trans (by go_grown)) (by go_size) hb | have h0 := hb); obtain ⟨hc, hf, hz⟩ := bcell hb; obtain ⟨hc0, hf0, hz0⟩ := bcell h0; clear hb; (try simp only [World.size_alloc, World.size_setCell, World.size_drew] at hc hf hz hc0 hf0 hz0))
  refine bodyPost_ret (v := .tuple #[sv 0 0, .int .i64 14]) (by simp [results, Tryd.results38, go_sem, hc, hz]) rfl ⟨rfl, by go_grown⟩
set_option maxHeartbeats 400000 in
theorem with_badF (p m : BitVec 32) (k v : Int) (hv : vld p m = true) (hk : k < 0 ∨ 24 ≤ k) (w : World) :
    Calls Tryd.prog 38 #[sv p m, .int .i64 k, .int .i64 v] w fun e w' => e = .returned (.tuple #[sv 0 0, .int .i64 3]) ∧ Below w.heap.size w w' := by
  have H := Lib.hid hv; clear hv
  unfold sv
  have HK := Lib.hid hk; clear hk
  go_enter Tryd.func38, Tryd.ntmps38
  go_wp2_with (first | (go_at_call 40; refine (valid_any _ _ _ H.out _).mono ?_; rintro e w1 ⟨rfl, hb⟩; have hw := chain (B := w.heap.size) (a := w) (by go_grown) (by go_size) hb; (first | have h0 := chain (h0.trans (by go_grown)) (by go_size) hb | have h0 := hb); obtain ⟨hc, hf, hz⟩ := bcell hb; obtain ⟨hc0, hf0, hz0⟩ := bcell h0; clear hb; (try simp only [World.size_alloc, World.size_setCell, World.size_drew] at hc hf hz hc0 hf0 hz0)) | (go_at_call 72; refine (exists_no _ HK.out _).mono ?_; rintro e w1 ⟨rfl, rfl⟩))
  refine bodyPost_ret (v := .tuple #[sv 0 0, .int .i64 3]) (by simp [results, Tryd.results38, go_sem, hc, hz]) rfl ⟨rfl, by go_grown⟩
/-- What With returns for a valid sound and a feature. -/
def withV (p m : BitVec 32) (k : Nat) (v : Int) : Value :=
  if v = 1 ∨ v = 0 ∨ v = -1 then .tuple #[sv (withP p k v) (withM m k v), .int .i64 0] else .tuple #[sv 0 0, .int .i64 2]
set_option maxHeartbeats 2000000 in
theorem with_ok (p m : BitVec 32) (k : Nat) (v : Int) (hv : vld p m = true) (hk : k < 24) (w : World) :
    Calls Tryd.prog 38 #[sv p m, .int .i64 (k : Int), .int .i64 v] w fun e w' => e = .returned (withV p m k v) ∧ Below w.heap.size w w' := by
  have H := Lib.hid hv; clear hv
  unfold sv
  go_enter Tryd.func38, Tryd.ntmps38
  go_wp2_with (first | (go_at_call 40; refine (valid_any _ _ _ H.out _).mono ?_; rintro e w1 ⟨rfl, hb⟩; have hw := chain (B := w.heap.size) (a := w) (by go_grown) (by go_size) hb; (first | have h0 := chain (h0.trans (by go_grown)) (by go_size) hb | have h0 := hb); obtain ⟨hc, hf, hz⟩ := bcell hb; obtain ⟨hc0, hf0, hz0⟩ := bcell h0; clear hb; (try simp only [World.size_alloc, World.size_setCell, World.size_drew] at hc hf hz hc0 hf0 hz0)) | (go_at_call 72; refine (exists_yes _ (by omega) (by omega) _).mono ?_; rintro e w1 ⟨rfl, rfl⟩))
  refine wp_gen ?_
  intro W1 hW1
  have hw1 : Below w.heap.size w W1 := by rw [hW1]; go_grown
  have hz1 : w.heap.size + 1 + 1 ≤ W1.heap.size := by rw [hW1]; first | assumption | go_size
  have g0 : W1.cell? ⟨w.heap.size, 0, none⟩ = some (.int .u32 (p.toNat : Int)) := by rw [hW1]; first | assumption | go_cell | (go_simp; done) | (simp [hc, hf, hc0, hf0]; done) | (refine keep_set ?_ (by (try simp only []); omega); first | assumption | (refine keep_set ?_ (by (try simp only []); omega); assumption)) | (simp [*]; done)
  have g1 : W1.cell? ⟨w.heap.size, 1, none⟩ = some (.int .u32 (m.toNat : Int)) := by rw [hW1]; first | assumption | go_cell | (go_simp; done) | (simp [hc, hf, hc0, hf0]; done) | (refine keep_set ?_ (by (try simp only []); omega); first | assumption | (refine keep_set ?_ (by (try simp only []); omega); assumption)) | (simp [*]; done)
  have g2 : W1.cell? ⟨w.heap.size + 1, 0, none⟩ = some (.int .u32 0) := by rw [hW1]; first | assumption | go_cell | (go_simp; done) | (simp [hc, hf, hc0, hf0]; done) | (refine keep_set ?_ (by (try simp only []); omega); first | assumption | (refine keep_set ?_ (by (try simp only []); omega); assumption)) | (simp [*]; done)
  have g3 : W1.cell? ⟨w.heap.size + 1, 1, none⟩ = some (.int .u32 0) := by rw [hW1]; first | assumption | go_cell | (go_simp; done) | (simp [hc, hf, hc0, hf0]; done) | (refine keep_set ?_ (by (try simp only []); omega); first | assumption | (refine keep_set ?_ (by (try simp only []); omega); assumption)) | (simp [*]; done)
  have z0 : W1.frozen? ⟨w.heap.size + 1, 0, none⟩ = false := by rw [hW1]; first | assumption | go_cell | (go_simp; done) | (simp [hc, hf, hc0, hf0]; done) | (refine keep_set ?_ (by (try simp only []); omega); first | assumption | (refine keep_set ?_ (by (try simp only []); omega); assumption)) | (simp [*]; done)
  have z1 : W1.frozen? ⟨w.heap.size + 1, 1, none⟩ = false := by rw [hW1]; first | assumption | go_cell | (go_simp; done) | (simp [hc, hf, hc0, hf0]; done) | (refine keep_set ?_ (by (try simp only []); omega); first | assumption | (refine keep_set ?_ (by (try simp only []); omega); assumption)) | (simp [*]; done)
  clear hW1
  refine wp_region_makers 5 [(4, .cells #[.int .u32 0, .int .u32 0] 27 (0, 0))] [0, 1, 2, 3, 4] ?A1 _ (by kernel_rfl) (by kernel_rfl) ?hrun1 (by simp [quiets, mkOf]; rfl) ?walk1 ?fin1
  case hrun1 =>
    intro x hx
    simp only [List.mem_cons, List.not_mem_nil, or_false] at hx
    rcases hx with rfl
    all_goals exact ⟨_, rfl, rfl, fun a w => by simp [go_sem, ptr]⟩
  case walk1 =>
    intro W2 hW2
    have e0 : W2.cell? ⟨w.heap.size, 0, none⟩ = some (.int .u32 (p.toNat : Int)) := (hW2.cell (p := ⟨w.heap.size, 0, none⟩) (by (try simp only []); omega)).trans g0
    have k0 := cell_regrown e0
    have e1 : W2.cell? ⟨w.heap.size, 1, none⟩ = some (.int .u32 (m.toNat : Int)) := (hW2.cell (p := ⟨w.heap.size, 1, none⟩) (by (try simp only []); omega)).trans g1
    have k1 := cell_regrown e1
    have e2 : W2.cell? ⟨w.heap.size + 1, 0, none⟩ = some (.int .u32 0) := (hW2.cell (p := ⟨w.heap.size + 1, 0, none⟩) (by (try simp only []); omega)).trans g2
    have k2 := cell_regrown e2
    have e3 : W2.cell? ⟨w.heap.size + 1, 1, none⟩ = some (.int .u32 0) := (hW2.cell (p := ⟨w.heap.size + 1, 1, none⟩) (by (try simp only []); omega)).trans g3
    have k3 := cell_regrown e3
    repeat (go_big_quiet_step (first | exact Calls.regrown_of (without_any _ _ _ _) | exact Calls.regrown_of (((single_any _ hk _).mono (by rintro e w' ⟨rfl, rfl⟩; exact ⟨rfl, Below.refl _ _⟩)))))
    refine wpQuiet_nil ?_
    rfl
  intro bs w2 hb hF hN
  have hw := chain hw1 (by omega) hb
  obtain ⟨hc, hf, hz⟩ := bcell hb
  have r0 : w2.cell? ⟨w.heap.size, 0, none⟩ = some (.int .u32 (p.toNat : Int)) := (hc _ _ (by omega)).trans g0
  have r1 : w2.cell? ⟨w.heap.size, 1, none⟩ = some (.int .u32 (m.toNat : Int)) := (hc _ _ (by omega)).trans g1
  have r2 : w2.cell? ⟨w.heap.size + 1, 0, none⟩ = some (.int .u32 0) := (hc _ _ (by omega)).trans g2
  have r3 : w2.cell? ⟨w.heap.size + 1, 1, none⟩ = some (.int .u32 0) := (hc _ _ (by omega)).trans g3
  have q0 : w2.frozen? ⟨w.heap.size + 1, 0, none⟩ = false := (hf _ _ (by omega)).trans z0
  have q1 : w2.frozen? ⟨w.heap.size + 1, 1, none⟩ = false := (hf _ _ (by omega)).trans z1
  have m4 := hF (4, .cells #[.int .u32 0, .int .u32 0] 27 (0, 0)) (by simp)
  clear hb hF hN hw1 g0 g1 g2 g3 z0 z1
  simp only [List.map_cons, List.map_nil, List.foldr_cons, List.foldr_nil] at *
  generalize bs 4 = b4 at *
  obtain ⟨m4a, m4b⟩ := m4
  have u4_0 := cell_block (o := 0) (v := .int .u32 0) m4b rfl
  have v4_0 := frozen_block (o := 0) m4b
  have u4_1 := cell_block (o := 1) (v := .int .u32 0) m4b rfl
  have v4_1 := frozen_block (o := 1) m4b
  have l4 := lt_block m4b
  clear m4b
  clear bs
  simp only [dstOf, ptr, Act.put, List.getElem?_toArray, List.getElem?_cons_succ, List.getElem?_cons_zero, Option.bind_some, List.setIfInBounds_toArray, List.set_cons_zero, List.set_cons_succ, List.drop_succ_cons, List.drop_zero]
  clear hc hf
  generalize hP : p &&& ~~~bit k = P at *
  generalize hM : m &&& ~~~bit k = M at *
  have HP := Lib.hid hP; have HM := Lib.hid hM; clear hP hM
  by_cases v1 : v = 1
  · subst v1
    go_wp2_with fail
    refine wp_gen ?_
    intro W1 hW1
    have hw1 : Below w.heap.size w W1 := by rw [hW1]; go_grown
    have hz1 : b4 + 1 ≤ W1.heap.size := by rw [hW1]; first | assumption | go_size
    have g0 : W1.cell? ⟨b4, 0, none⟩ = some (.int .u32 (P.toNat : Int)) := by rw [hW1]; first | assumption | go_cell | (go_simp; done) | (simp [hc, hf, hc0, hf0]; done) | (refine keep_set ?_ (by (try simp only []); omega); first | assumption | (refine keep_set ?_ (by (try simp only []); omega); assumption)) | (simp [*]; done)
    have g1 : W1.cell? ⟨b4, 1, none⟩ = some (.int .u32 (M.toNat : Int)) := by rw [hW1]; first | assumption | go_cell | (go_simp; done) | (simp [hc, hf, hc0, hf0]; done) | (refine keep_set ?_ (by (try simp only []); omega); first | assumption | (refine keep_set ?_ (by (try simp only []); omega); assumption)) | (simp [*]; done)
    have g2 : W1.cell? ⟨w.heap.size + 1, 0, none⟩ = some (.int .u32 0) := by rw [hW1]; first | assumption | go_cell | (go_simp; done) | (simp [hc, hf, hc0, hf0]; done) | (refine keep_set ?_ (by (try simp only []); omega); first | assumption | (refine keep_set ?_ (by (try simp only []); omega); assumption)) | (simp [*]; done)
    have g3 : W1.cell? ⟨w.heap.size + 1, 1, none⟩ = some (.int .u32 0) := by rw [hW1]; first | assumption | go_cell | (go_simp; done) | (simp [hc, hf, hc0, hf0]; done) | (refine keep_set ?_ (by (try simp only []); omega); first | assumption | (refine keep_set ?_ (by (try simp only []); omega); assumption)) | (simp [*]; done)
    have z0 : W1.frozen? ⟨b4, 0, none⟩ = false := by rw [hW1]; first | assumption | go_cell | (go_simp; done) | (simp [hc, hf, hc0, hf0]; done) | (refine keep_set ?_ (by (try simp only []); omega); first | assumption | (refine keep_set ?_ (by (try simp only []); omega); assumption)) | (simp [*]; done)
    have z1 : W1.frozen? ⟨b4, 1, none⟩ = false := by rw [hW1]; first | assumption | go_cell | (go_simp; done) | (simp [hc, hf, hc0, hf0]; done) | (refine keep_set ?_ (by (try simp only []); omega); first | assumption | (refine keep_set ?_ (by (try simp only []); omega); assumption)) | (simp [*]; done)
    have z2 : W1.frozen? ⟨w.heap.size + 1, 0, none⟩ = false := by rw [hW1]; first | assumption | go_cell | (go_simp; done) | (simp [hc, hf, hc0, hf0]; done) | (refine keep_set ?_ (by (try simp only []); omega); first | assumption | (refine keep_set ?_ (by (try simp only []); omega); assumption)) | (simp [*]; done)
    have z3 : W1.frozen? ⟨w.heap.size + 1, 1, none⟩ = false := by rw [hW1]; first | assumption | go_cell | (go_simp; done) | (simp [hc, hf, hc0, hf0]; done) | (refine keep_set ?_ (by (try simp only []); omega); first | assumption | (refine keep_set ?_ (by (try simp only []); omega); assumption)) | (simp [*]; done)
    clear hW1
    refine wp_region_makers 5 [] [0, 1, 2, 3, 4] ?A2 _ (by kernel_rfl) (by kernel_rfl) ?hrun2 (by simp [quiets, mkOf]; rfl) ?walk2 ?fin2
    case hrun2 =>
      intro x hx
      cases hx
    case walk2 =>
      intro W2 hW2
      have e0 : W2.cell? ⟨b4, 0, none⟩ = some (.int .u32 (P.toNat : Int)) := (hW2.cell (p := ⟨b4, 0, none⟩) (by (try simp only []); omega)).trans g0
      have k0 := cell_regrown e0
      have e1 : W2.cell? ⟨b4, 1, none⟩ = some (.int .u32 (M.toNat : Int)) := (hW2.cell (p := ⟨b4, 1, none⟩) (by (try simp only []); omega)).trans g1
      have k1 := cell_regrown e1
      have e2 : W2.cell? ⟨w.heap.size + 1, 0, none⟩ = some (.int .u32 0) := (hW2.cell (p := ⟨w.heap.size + 1, 0, none⟩) (by (try simp only []); omega)).trans g2
      have k2 := cell_regrown e2
      have e3 : W2.cell? ⟨w.heap.size + 1, 1, none⟩ = some (.int .u32 0) := (hW2.cell (p := ⟨w.heap.size + 1, 1, none⟩) (by (try simp only []); omega)).trans g3
      have k3 := cell_regrown e3
      repeat (go_big_quiet_step (first | exact Calls.regrown_of (((single_any _ hk _).mono (by rintro e w' ⟨rfl, rfl⟩; exact ⟨rfl, Below.refl _ _⟩)))))
      refine wpQuiet_nil ?_
      rfl
    intro bs w2 hb hF hN
    have hw := chain hw1 (by omega) hb
    obtain ⟨hc, hf, hz⟩ := bcell hb
    have r0 : w2.cell? ⟨b4, 0, none⟩ = some (.int .u32 (P.toNat : Int)) := (hc _ _ (by omega)).trans g0
    have r1 : w2.cell? ⟨b4, 1, none⟩ = some (.int .u32 (M.toNat : Int)) := (hc _ _ (by omega)).trans g1
    have r2 : w2.cell? ⟨w.heap.size + 1, 0, none⟩ = some (.int .u32 0) := (hc _ _ (by omega)).trans g2
    have r3 : w2.cell? ⟨w.heap.size + 1, 1, none⟩ = some (.int .u32 0) := (hc _ _ (by omega)).trans g3
    have q0 : w2.frozen? ⟨b4, 0, none⟩ = false := (hf _ _ (by omega)).trans z0
    have q1 : w2.frozen? ⟨b4, 1, none⟩ = false := (hf _ _ (by omega)).trans z1
    have q2 : w2.frozen? ⟨w.heap.size + 1, 0, none⟩ = false := (hf _ _ (by omega)).trans z2
    have q3 : w2.frozen? ⟨w.heap.size + 1, 1, none⟩ = false := (hf _ _ (by omega)).trans z3
    clear hb hF hN hw1 g0 g1 g2 g3 z0 z1 z2 z3
    simp only [List.map_cons, List.map_nil, List.foldr_cons, List.foldr_nil] at *
    clear bs
    simp only [dstOf, ptr, Act.put, List.getElem?_toArray, List.getElem?_cons_succ, List.getElem?_cons_zero, Option.bind_some, List.setIfInBounds_toArray, List.set_cons_zero, List.set_cons_succ, List.drop_succ_cons, List.drop_zero]
    go_wp2
    refine bodyPost_ret (v := .tuple #[sv (P ||| bit k) M, .int .i64 0]) (by simp [results, Tryd.results38, go_sem, *]) rfl ⟨by simp [withV, withP, withM, HP.out, HM.out], by go_grown⟩
  · by_cases v2 : v = -1
    · subst v2
      go_wp2_with fail
      refine wp_gen ?_
      intro W1 hW1
      have hw1 : Below w.heap.size w W1 := by rw [hW1]; go_grown
      have hz1 : b4 + 1 ≤ W1.heap.size := by rw [hW1]; first | assumption | go_size
      have g0 : W1.cell? ⟨b4, 0, none⟩ = some (.int .u32 (P.toNat : Int)) := by rw [hW1]; first | assumption | go_cell | (go_simp; done) | (simp [hc, hf, hc0, hf0]; done) | (refine keep_set ?_ (by (try simp only []); omega); first | assumption | (refine keep_set ?_ (by (try simp only []); omega); assumption)) | (simp [*]; done)
      have g1 : W1.cell? ⟨b4, 1, none⟩ = some (.int .u32 (M.toNat : Int)) := by rw [hW1]; first | assumption | go_cell | (go_simp; done) | (simp [hc, hf, hc0, hf0]; done) | (refine keep_set ?_ (by (try simp only []); omega); first | assumption | (refine keep_set ?_ (by (try simp only []); omega); assumption)) | (simp [*]; done)
      have g2 : W1.cell? ⟨w.heap.size + 1, 0, none⟩ = some (.int .u32 0) := by rw [hW1]; first | assumption | go_cell | (go_simp; done) | (simp [hc, hf, hc0, hf0]; done) | (refine keep_set ?_ (by (try simp only []); omega); first | assumption | (refine keep_set ?_ (by (try simp only []); omega); assumption)) | (simp [*]; done)
      have g3 : W1.cell? ⟨w.heap.size + 1, 1, none⟩ = some (.int .u32 0) := by rw [hW1]; first | assumption | go_cell | (go_simp; done) | (simp [hc, hf, hc0, hf0]; done) | (refine keep_set ?_ (by (try simp only []); omega); first | assumption | (refine keep_set ?_ (by (try simp only []); omega); assumption)) | (simp [*]; done)
      have z0 : W1.frozen? ⟨b4, 0, none⟩ = false := by rw [hW1]; first | assumption | go_cell | (go_simp; done) | (simp [hc, hf, hc0, hf0]; done) | (refine keep_set ?_ (by (try simp only []); omega); first | assumption | (refine keep_set ?_ (by (try simp only []); omega); assumption)) | (simp [*]; done)
      have z1 : W1.frozen? ⟨b4, 1, none⟩ = false := by rw [hW1]; first | assumption | go_cell | (go_simp; done) | (simp [hc, hf, hc0, hf0]; done) | (refine keep_set ?_ (by (try simp only []); omega); first | assumption | (refine keep_set ?_ (by (try simp only []); omega); assumption)) | (simp [*]; done)
      have z2 : W1.frozen? ⟨w.heap.size + 1, 0, none⟩ = false := by rw [hW1]; first | assumption | go_cell | (go_simp; done) | (simp [hc, hf, hc0, hf0]; done) | (refine keep_set ?_ (by (try simp only []); omega); first | assumption | (refine keep_set ?_ (by (try simp only []); omega); assumption)) | (simp [*]; done)
      have z3 : W1.frozen? ⟨w.heap.size + 1, 1, none⟩ = false := by rw [hW1]; first | assumption | go_cell | (go_simp; done) | (simp [hc, hf, hc0, hf0]; done) | (refine keep_set ?_ (by (try simp only []); omega); first | assumption | (refine keep_set ?_ (by (try simp only []); omega); assumption)) | (simp [*]; done)
      clear hW1
      refine wp_region_makers 5 [] [0, 1, 2, 3, 4] ?A3 _ (by kernel_rfl) (by kernel_rfl) ?hrun3 (by simp [quiets, mkOf]; rfl) ?walk3 ?fin3
      case hrun3 =>
        intro x hx
        cases hx
      case walk3 =>
        intro W2 hW2
        have e0 : W2.cell? ⟨b4, 0, none⟩ = some (.int .u32 (P.toNat : Int)) := (hW2.cell (p := ⟨b4, 0, none⟩) (by (try simp only []); omega)).trans g0
        have k0 := cell_regrown e0
        have e1 : W2.cell? ⟨b4, 1, none⟩ = some (.int .u32 (M.toNat : Int)) := (hW2.cell (p := ⟨b4, 1, none⟩) (by (try simp only []); omega)).trans g1
        have k1 := cell_regrown e1
        have e2 : W2.cell? ⟨w.heap.size + 1, 0, none⟩ = some (.int .u32 0) := (hW2.cell (p := ⟨w.heap.size + 1, 0, none⟩) (by (try simp only []); omega)).trans g2
        have k2 := cell_regrown e2
        have e3 : W2.cell? ⟨w.heap.size + 1, 1, none⟩ = some (.int .u32 0) := (hW2.cell (p := ⟨w.heap.size + 1, 1, none⟩) (by (try simp only []); omega)).trans g3
        have k3 := cell_regrown e3
        repeat (go_big_quiet_step (first | exact Calls.regrown_of (((single_any _ hk _).mono (by rintro e w' ⟨rfl, rfl⟩; exact ⟨rfl, Below.refl _ _⟩)))))
        refine wpQuiet_nil ?_
        rfl
      intro bs w2 hb hF hN
      have hw := chain hw1 (by omega) hb
      obtain ⟨hc, hf, hz⟩ := bcell hb
      have r0 : w2.cell? ⟨b4, 0, none⟩ = some (.int .u32 (P.toNat : Int)) := (hc _ _ (by omega)).trans g0
      have r1 : w2.cell? ⟨b4, 1, none⟩ = some (.int .u32 (M.toNat : Int)) := (hc _ _ (by omega)).trans g1
      have r2 : w2.cell? ⟨w.heap.size + 1, 0, none⟩ = some (.int .u32 0) := (hc _ _ (by omega)).trans g2
      have r3 : w2.cell? ⟨w.heap.size + 1, 1, none⟩ = some (.int .u32 0) := (hc _ _ (by omega)).trans g3
      have q0 : w2.frozen? ⟨b4, 0, none⟩ = false := (hf _ _ (by omega)).trans z0
      have q1 : w2.frozen? ⟨b4, 1, none⟩ = false := (hf _ _ (by omega)).trans z1
      have q2 : w2.frozen? ⟨w.heap.size + 1, 0, none⟩ = false := (hf _ _ (by omega)).trans z2
      have q3 : w2.frozen? ⟨w.heap.size + 1, 1, none⟩ = false := (hf _ _ (by omega)).trans z3
      clear hb hF hN hw1 g0 g1 g2 g3 z0 z1 z2 z3
      simp only [List.map_cons, List.map_nil, List.foldr_cons, List.foldr_nil] at *
      clear bs
      simp only [dstOf, ptr, Act.put, List.getElem?_toArray, List.getElem?_cons_succ, List.getElem?_cons_zero, Option.bind_some, List.setIfInBounds_toArray, List.set_cons_zero, List.set_cons_succ, List.drop_succ_cons, List.drop_zero]
      go_wp2
      refine bodyPost_ret (v := .tuple #[sv P (M ||| bit k), .int .i64 0]) (by simp [results, Tryd.results38, go_sem, *]) rfl ⟨by simp [withV, withP, withM, HP.out, HM.out], by go_grown⟩
    · by_cases v3 : v = 0
      · subst v3
        go_wp2
        refine bodyPost_ret (v := .tuple #[sv P M, .int .i64 0]) (by simp [results, Tryd.results38, go_sem, *]) rfl ⟨by simp [withV, withP, withM, HP.out, HM.out], by go_grown⟩
      · go_wp2
        refine bodyPost_ret (v := .tuple #[sv 0 0, .int .i64 2]) (by simp [results, Tryd.results38, go_sem, *]) rfl ⟨by simp [withV, withP, withM, HP.out, HM.out, v1, v2, v3], by go_grown⟩
end Go.Proofs.YtpnmapfabjdfjaaDoor

/-
  What Order returns.
-/
namespace Go.Proofs.YtpnmapfabjdfjaaDoor
open Go.RowKit Go.Sort
attribute [local go_sem] sv

/-- How two numbers compare. -/
def cmpN (x y : Nat) : Int := if x < y then -1 else if y < x then 1 else 0
set_option maxHeartbeats 400000 in
theorem isNaN_any (x : Int) (w : World) :
    Calls Tryd.prog 100 #[.int .u32 x] w fun e w' => e = .returned (.bool false) ∧ w = w' := by
  go_enter Tryd.func100, Tryd.ntmps100
  go_wp2
  go_returns
  exact ⟨by first | rfl | (simp; done), rfl⟩
set_option maxHeartbeats 400000 in
theorem compare_any (x y : BitVec 32) (w : World) :
    Calls Tryd.prog 78 #[.int .u32 (x.toNat : Int), .int .u32 (y.toNat : Int)] w fun e w' => e = .returned (.int .i64 (cmpN x.toNat y.toNat)) ∧ Below w.heap.size w w' := by
  generalize x.toNat = X
  generalize y.toNat = Y
  by_cases h : X < Y
  · have e : cmpN X Y = -1 := by simp [cmpN, h]
    rw [e]; clear e
    go_enter Tryd.func78, Tryd.ntmps78
    go_wp2_with (go_at_call 100; refine (isNaN_any _ _).mono ?_; rintro e w1 ⟨rfl, rfl⟩)
    go_returns
    exact ⟨rfl, Below.refl _ _⟩
  · by_cases h2 : Y < X
    · have e : cmpN X Y = 1 := by simp [cmpN, h, h2]
      rw [e]; clear e
      go_enter Tryd.func78, Tryd.ntmps78
      go_wp2_with (go_at_call 100; refine (isNaN_any _ _).mono ?_; rintro e w1 ⟨rfl, rfl⟩)
      go_returns
      exact ⟨rfl, Below.refl _ _⟩
    · have e : cmpN X Y = 0 := by simp [cmpN, h, h2]
      rw [e]; clear e
      go_enter Tryd.func78, Tryd.ntmps78
      go_wp2_with (go_at_call 100; refine (isNaN_any _ _).mono ?_; rintro e w1 ⟨rfl, rfl⟩)
      go_returns
      exact ⟨rfl, Below.refl _ _⟩
set_option maxHeartbeats 1000000 in
theorem or_any (x y : Int) (b : Nat) (w : World) (h0 : w.cell? ⟨b, 0, none⟩ = some (.int .i64 x)) (h1 : w.cell? ⟨b, 1, none⟩ = some (.int .i64 y)) :
    Calls Tryd.prog 77 #[.slice (some ⟨b, 0, none⟩) 2 2] w fun e w' => e = .returned (.int .i64 (if x = 0 then y else x)) ∧ Below w.heap.size w w' := by
  by_cases hx : x = 0
  · subst hx
    rw [if_pos rfl]
    by_cases hy : y = 0
    · subst hy
      go_enter Tryd.func77, Tryd.ntmps77
      go_wp2
      go_rounds 3
      go_returns
      exact ⟨rfl, by go_grown⟩
    · go_enter Tryd.func77, Tryd.ntmps77
      go_wp2
      go_rounds 3
      go_returns
      exact ⟨rfl, by go_grown⟩
  · rw [if_neg hx]
    go_enter Tryd.func77, Tryd.ntmps77
    go_wp2
    go_rounds 3
    go_returns
    exact ⟨rfl, by go_grown⟩
end Go.Proofs.YtpnmapfabjdfjaaDoor

/-
  What Order returns: the order by the features of value +1, then by those of value -1.
-/
namespace Go.Proofs.YtpnmapfabjdfjaaDoor
open Go.RowKit Go.Sort
attribute [local go_sem] sv

/-- How two sounds compare. -/
def ordN (p m q n : Nat) : Int := if cmpN p q = 0 then cmpN m n else cmpN p q
set_option maxHeartbeats 1000000 in
theorem order_any (p m q n : BitVec 32) (w : World) :
    Calls Tryd.prog 41 #[sv p m, sv q n] w fun e w' => e = .returned (.int .i64 (ordN p.toNat m.toNat q.toNat n.toNat)) ∧ Below w.heap.size w w' := by
  unfold sv
  go_enter Tryd.func41, Tryd.ntmps41
  go_wp2_with fail
  refine wp_gen ?_
  intro W1 hW1
  have hw1 : Below w.heap.size w W1 := by rw [hW1]; go_grown
  have hz1 : w.heap.size + 1 + 1 ≤ W1.heap.size := by rw [hW1]; first | assumption | go_size
  have g0 : W1.cell? ⟨w.heap.size, 0, none⟩ = some (.int .u32 (p.toNat : Int)) := by rw [hW1]; first | assumption | go_cell | (go_simp; done) | (simp [hc, hf, hc0, hf0]; done) | (refine keep_set ?_ (by (try simp only []); omega); first | assumption | (refine keep_set ?_ (by (try simp only []); omega); assumption)) | (simp [*]; done)
  have g1 : W1.cell? ⟨w.heap.size, 1, none⟩ = some (.int .u32 (m.toNat : Int)) := by rw [hW1]; first | assumption | go_cell | (go_simp; done) | (simp [hc, hf, hc0, hf0]; done) | (refine keep_set ?_ (by (try simp only []); omega); first | assumption | (refine keep_set ?_ (by (try simp only []); omega); assumption)) | (simp [*]; done)
  have g2 : W1.cell? ⟨w.heap.size + 1, 0, none⟩ = some (.int .u32 (q.toNat : Int)) := by rw [hW1]; first | assumption | go_cell | (go_simp; done) | (simp [hc, hf, hc0, hf0]; done) | (refine keep_set ?_ (by (try simp only []); omega); first | assumption | (refine keep_set ?_ (by (try simp only []); omega); assumption)) | (simp [*]; done)
  have g3 : W1.cell? ⟨w.heap.size + 1, 1, none⟩ = some (.int .u32 (n.toNat : Int)) := by rw [hW1]; first | assumption | go_cell | (go_simp; done) | (simp [hc, hf, hc0, hf0]; done) | (refine keep_set ?_ (by (try simp only []); omega); first | assumption | (refine keep_set ?_ (by (try simp only []); omega); assumption)) | (simp [*]; done)
  clear hW1
  refine wp_region_makers 10 [] [0, 1, 2, 3, 4, 5, 6, 7, 8, 9] ?A1 _ (by kernel_rfl) (by kernel_rfl) ?hrun1 (by simp [quiets, mkOf]; rfl) ?walk1 ?fin1
  case hrun1 =>
    intro x hx
    cases hx
  case walk1 =>
    intro W2 hW2
    have e0 : W2.cell? ⟨w.heap.size, 0, none⟩ = some (.int .u32 (p.toNat : Int)) := (hW2.cell (p := ⟨w.heap.size, 0, none⟩) (by (try simp only []); omega)).trans g0
    have k0 := cell_regrown e0
    have e1 : W2.cell? ⟨w.heap.size, 1, none⟩ = some (.int .u32 (m.toNat : Int)) := (hW2.cell (p := ⟨w.heap.size, 1, none⟩) (by (try simp only []); omega)).trans g1
    have k1 := cell_regrown e1
    have e2 : W2.cell? ⟨w.heap.size + 1, 0, none⟩ = some (.int .u32 (q.toNat : Int)) := (hW2.cell (p := ⟨w.heap.size + 1, 0, none⟩) (by (try simp only []); omega)).trans g2
    have k2 := cell_regrown e2
    have e3 : W2.cell? ⟨w.heap.size + 1, 1, none⟩ = some (.int .u32 (n.toNat : Int)) := (hW2.cell (p := ⟨w.heap.size + 1, 1, none⟩) (by (try simp only []); omega)).trans g3
    have k3 := cell_regrown e3
    repeat (go_big_quiet_step (first | (go_at_call 78; exact Calls.regrown_of (compare_any _ _ _))))
    refine wpQuiet_nil ?_
    rfl
  intro bs w2 hb hF hN
  have hw := chain hw1 (by omega) hb
  obtain ⟨hc, hf, hz⟩ := bcell hb
  have r0 : w2.cell? ⟨w.heap.size, 0, none⟩ = some (.int .u32 (p.toNat : Int)) := (hc _ _ (by omega)).trans g0
  have r1 : w2.cell? ⟨w.heap.size, 1, none⟩ = some (.int .u32 (m.toNat : Int)) := (hc _ _ (by omega)).trans g1
  have r2 : w2.cell? ⟨w.heap.size + 1, 0, none⟩ = some (.int .u32 (q.toNat : Int)) := (hc _ _ (by omega)).trans g2
  have r3 : w2.cell? ⟨w.heap.size + 1, 1, none⟩ = some (.int .u32 (n.toNat : Int)) := (hc _ _ (by omega)).trans g3
  clear hb hF hN hw1 g0 g1 g2 g3
  simp only [List.map_cons, List.map_nil, List.foldr_cons, List.foldr_nil] at *
  clear bs
  simp only [dstOf, ptr, Act.put, List.getElem?_toArray, List.getElem?_cons_succ, List.getElem?_cons_zero, Option.bind_some, List.setIfInBounds_toArray, List.set_cons_zero, List.set_cons_succ, List.drop_succ_cons, List.drop_zero]
  go_wp2_with (go_at_call 77; refine (or_any (cmpN p.toNat q.toNat) (cmpN m.toNat n.toNat) _ _ (by first | go_cell | (go_simp; done) | (simp [World.cell?, World.alloc]; done)) (by first | go_cell | (go_simp; done) | (simp [World.cell?, World.alloc]; done))).mono ?_; rintro e w1 ⟨rfl, hb⟩; have hw := chain (B := w.heap.size) (a := w) (by go_grown) (by go_size) hb; (first | have h0 := chain (h0.trans (by go_grown)) (by go_size) hb | have h0 := hb); obtain ⟨hc, hf, hz⟩ := bcell hb; obtain ⟨hc0, hf0, hz0⟩ := bcell h0; clear hb; (try simp only [World.size_alloc, World.size_setCell, World.size_drew] at hc hf hz hc0 hf0 hz0))
  all_goals go_returns
  all_goals exact ⟨by simp [ordN, *], by go_grown⟩
end Go.Proofs.YtpnmapfabjdfjaaDoor

/-
  What Unify, Change, Take and Order return.
-/
namespace Go.Proofs.YtpnmapfabjdfjaaDoor
open Go.RowKit Go.Sort
attribute [local go_sem] sv bv_and bv_or bv_xor bv_andNot ofInt32_nat nat_beq nat_beq0
attribute [local go_sem ↓] snd_eql snd_neq
attribute [local go_sem] sub_mod
set_option maxHeartbeats 400000 in
theorem unify_ok (p m q n : BitVec 32) (hv : vld (p ||| q) (m ||| n) = true) (w : World) :
    Calls Tryd.prog 91 #[sv p m, sv q n] w fun e w' => e = .returned (.tuple #[sv (p ||| q) (m ||| n), .bool true]) ∧ Below w.heap.size w w' := by
  have H := Lib.hid hv; clear hv
  unfold sv
  go_enter Tryd.func91, Tryd.ntmps91
  go_wp2_with (first | (go_at_call 104; refine (union_any _ _ _ _ _).mono ?_; rintro e w1 ⟨rfl, hb⟩; have hw := chain (B := w.heap.size) (a := w) (by go_grown) (by go_size) hb; (first | have h0 := chain (h0.trans (by go_grown)) (by go_size) hb | have h0 := hb); obtain ⟨hc, hf, hz⟩ := bcell hb; obtain ⟨hc0, hf0, hz0⟩ := bcell h0; clear hb; (try simp only [World.size_alloc, World.size_setCell, World.size_drew] at hc hf hz hc0 hf0 hz0)) | (go_at_call 40; refine (valid_any _ _ _ H.out _).mono ?_; rintro e w1 ⟨rfl, hb⟩; have hw := chain (B := w.heap.size) (a := w) (by go_grown) (by go_size) hb; (first | have h0 := chain (h0.trans (by go_grown)) (by go_size) hb | have h0 := hb); obtain ⟨hc, hf, hz⟩ := bcell hb; obtain ⟨hc0, hf0, hz0⟩ := bcell h0; clear hb; (try simp only [World.size_alloc, World.size_setCell, World.size_drew] at hc hf hz hc0 hf0 hz0)))
  refine bodyPost_ret (v := .tuple #[sv (p ||| q) (m ||| n), .bool true]) (by simp [results, Tryd.results91, go_sem, hc, hz, hc0, hz0]) rfl ⟨rfl, by go_grown⟩
set_option maxHeartbeats 400000 in
theorem unify_bad (p m q n : BitVec 32) (hv : vld (p ||| q) (m ||| n) = false) (w : World) :
    Calls Tryd.prog 91 #[sv p m, sv q n] w fun e w' => e = .returned (.tuple #[sv 0 0, .bool false]) ∧ Below w.heap.size w w' := by
  have H := Lib.hid hv; clear hv
  unfold sv
  go_enter Tryd.func91, Tryd.ntmps91
  go_wp2_with (first | (go_at_call 104; refine (union_any _ _ _ _ _).mono ?_; rintro e w1 ⟨rfl, hb⟩; have hw := chain (B := w.heap.size) (a := w) (by go_grown) (by go_size) hb; (first | have h0 := chain (h0.trans (by go_grown)) (by go_size) hb | have h0 := hb); obtain ⟨hc, hf, hz⟩ := bcell hb; obtain ⟨hc0, hf0, hz0⟩ := bcell h0; clear hb; (try simp only [World.size_alloc, World.size_setCell, World.size_drew] at hc hf hz hc0 hf0 hz0)) | (go_at_call 40; refine (valid_any _ _ _ H.out _).mono ?_; rintro e w1 ⟨rfl, hb⟩; have hw := chain (B := w.heap.size) (a := w) (by go_grown) (by go_size) hb; (first | have h0 := chain (h0.trans (by go_grown)) (by go_size) hb | have h0 := hb); obtain ⟨hc, hf, hz⟩ := bcell hb; obtain ⟨hc0, hf0, hz0⟩ := bcell h0; clear hb; (try simp only [World.size_alloc, World.size_setCell, World.size_drew] at hc hf hz hc0 hf0 hz0)))
  refine bodyPost_ret (v := .tuple #[sv 0 0, .bool false]) (by simp [results, Tryd.results91, go_sem, hc, hz, hc0, hz0]) rfl ⟨rfl, by go_grown⟩

set_option maxHeartbeats 400000 in
theorem take_badS (p m c q n : BitVec 32) (hv : (vld p m && vld q n) = false) (w : World) :
    Calls Tryd.prog 102 #[sv p m, sv q n, .int .u32 (c.toNat : Int)] w fun e w' => e = .returned (.tuple #[sv 0 0, .int .i64 14]) ∧ Below w.heap.size w w' := by
  have H := Lib.hid hv; clear hv
  unfold sv
  go_enter Tryd.func102, Tryd.ntmps102
  go_wp2_with (go_at_call 70; refine (bothValid_any _ _ _ _ _ H.out _).mono ?_; rintro e w1 ⟨rfl, hb⟩; have hw := chain (B := w.heap.size) (a := w) (by go_grown) (by go_size) hb; (first | have h0 := chain (h0.trans (by go_grown)) (by go_size) hb | have h0 := hb); obtain ⟨hc, hf, hz⟩ := bcell hb; obtain ⟨hc0, hf0, hz0⟩ := bcell h0; clear hb; (try simp only [World.size_alloc, World.size_setCell, World.size_drew] at hc hf hz hc0 hf0 hz0))
  refine bodyPost_ret (v := .tuple #[sv 0 0, .int .i64 14]) (by simp [results, Tryd.results102, go_sem, hc, hz]) rfl ⟨rfl, by go_grown⟩
theorem within_iff (c : BitVec 32) : (c &&& 4278190080#32 = 0) ↔ c.toNat &&& 4278190080 = 0 := by
  rw [← BitVec.toNat_inj]; simp
set_option maxHeartbeats 400000 in
theorem within_any (c : BitVec 32) (b : Bool) (hb : (c &&& 4278190080#32 == 0) = b) (w : World) :
    Calls Tryd.prog 75 #[.int .u32 (c.toNat : Int)] w fun e w' => e = .returned (.bool b) ∧ w = w' := by
  subst hb
  have h := within_iff c
  have H := Lib.hid h; clear h
  go_enter Tryd.func75, Tryd.ntmps75
  go_wp2
  go_returns
  refine ⟨ret_bool ?_, rfl⟩
  have := H.out
  rw [Bool.eq_iff_iff, beq_iff_eq, beq_iff_eq, this]; omega
set_option maxHeartbeats 400000 in
theorem valued_any (p m : BitVec 32) (w : World) :
    Calls Tryd.prog 76 #[sv p m] w fun e w' => e = .returned (.int .u32 ((p ||| m).toNat : Int)) ∧ Below w.heap.size w w' := by
  unfold sv
  go_enter Tryd.func76, Tryd.ntmps76
  go_wp2
  go_returns
  exact ⟨by simp, by go_grown⟩
set_option maxHeartbeats 400000 in
theorem take_badA (p m c q n : BitVec 32) (hv : (vld p m && vld q n) = true) (hw : (c &&& 4278190080#32 == 0) = false) (w : World) :
    Calls Tryd.prog 102 #[sv p m, sv q n, .int .u32 (c.toNat : Int)] w fun e w' => e = .returned (.tuple #[sv 0 0, .int .i64 2]) ∧ Below w.heap.size w w' := by
  have H := Lib.hid hv; have HW := Lib.hid hw; clear hv hw
  unfold sv
  go_enter Tryd.func102, Tryd.ntmps102
  go_wp2_with (first | (go_at_call 70; refine (bothValid_any _ _ _ _ _ H.out _).mono ?_; rintro e w1 ⟨rfl, hb⟩; have hw := chain (B := w.heap.size) (a := w) (by go_grown) (by go_size) hb; (first | have h0 := chain (h0.trans (by go_grown)) (by go_size) hb | have h0 := hb); obtain ⟨hc, hf, hz⟩ := bcell hb; obtain ⟨hc0, hf0, hz0⟩ := bcell h0; clear hb; (try simp only [World.size_alloc, World.size_setCell, World.size_drew] at hc hf hz hc0 hf0 hz0)) | (go_at_call 75; refine (within_any _ _ HW.out _).mono ?_; rintro e w2 ⟨rfl, rfl⟩))
  refine bodyPost_ret (v := .tuple #[sv 0 0, .int .i64 2]) (by simp [results, Tryd.results102, go_sem, hc, hz]) rfl ⟨rfl, by go_grown⟩
theorem both_iff {p m q n : BitVec 32} (h : (vld p m && vld q n) = true) : p.toNat &&& m.toNat = 0 ∧ (p.toNat ||| m.toNat) &&& 4278190080 = 0 ∧ q.toNat &&& n.toNat = 0 ∧ (q.toNat ||| n.toNat) &&& 4278190080 = 0 := by
  rw [Bool.and_eq_true, vld_iff, vld_iff] at h
  exact ⟨h.1.1, h.1.2, h.2.1, h.2.2⟩
end Go.Proofs.YtpnmapfabjdfjaaDoor

/-
  What Take returns.
-/
namespace Go.Proofs.YtpnmapfabjdfjaaDoor
open Go.RowKit Go.Sort
attribute [local go_sem] sv bv_and bv_or bv_xor bv_andNot ofInt32_nat nat_beq nat_beq0
attribute [local go_sem ↓] snd_eql snd_neq
attribute [local go_sem] sub_mod xor_all u32_unsigned u32_max
set_option maxHeartbeats 1000000 in
theorem take_ok (p m c q n : BitVec 32) (hv : (vld p m && vld q n) = true) (hw : c &&& 4278190080#32 = 0) (w : World) :
    Calls Tryd.prog 102 #[sv p m, sv q n, .int .u32 (c.toNat : Int)] w fun e w' => e = .returned (.tuple #[sv ((p &&& ~~~c) ||| (q &&& ~~~(bnot c))) ((m &&& ~~~c) ||| (n &&& ~~~(bnot c))), .int .i64 0]) ∧ Below w.heap.size w w' := by
  obtain ⟨z1, z2, z3, z4⟩ := both_iff hv
  have z5 := (within_iff c).1 hw
  clear hv hw
  unfold sv
  go_enter Tryd.func102, Tryd.ntmps102
  go_wp2
  clear z1 z2 z3 z4 z5
  refine wp_gen ?_
  intro W1 hW1
  have hw1 : Below w.heap.size w W1 := by rw [hW1]; go_grown
  have hz1 : w.heap.size + 1 + 1 + 1 ≤ W1.heap.size := by rw [hW1]; first | assumption | go_size
  have g0 : W1.cell? ⟨w.heap.size, 0, none⟩ = some (.int .u32 (p.toNat : Int)) := by rw [hW1]; first | assumption | go_cell | (go_simp; done) | (simp [hc, hf, hc0, hf0]; done) | (refine keep_set ?_ (by (try simp only []); omega); first | assumption | (refine keep_set ?_ (by (try simp only []); omega); assumption)) | (simp [*]; done)
  have g1 : W1.cell? ⟨w.heap.size, 1, none⟩ = some (.int .u32 (m.toNat : Int)) := by rw [hW1]; first | assumption | go_cell | (go_simp; done) | (simp [hc, hf, hc0, hf0]; done) | (refine keep_set ?_ (by (try simp only []); omega); first | assumption | (refine keep_set ?_ (by (try simp only []); omega); assumption)) | (simp [*]; done)
  have g2 : W1.cell? ⟨w.heap.size + 1, 0, none⟩ = some (.int .u32 (q.toNat : Int)) := by rw [hW1]; first | assumption | go_cell | (go_simp; done) | (simp [hc, hf, hc0, hf0]; done) | (refine keep_set ?_ (by (try simp only []); omega); first | assumption | (refine keep_set ?_ (by (try simp only []); omega); assumption)) | (simp [*]; done)
  have g3 : W1.cell? ⟨w.heap.size + 1, 1, none⟩ = some (.int .u32 (n.toNat : Int)) := by rw [hW1]; first | assumption | go_cell | (go_simp; done) | (simp [hc, hf, hc0, hf0]; done) | (refine keep_set ?_ (by (try simp only []); omega); first | assumption | (refine keep_set ?_ (by (try simp only []); omega); assumption)) | (simp [*]; done)
  have g4 : W1.cell? ⟨w.heap.size + 1 + 1, 0, none⟩ = some (.int .u32 0) := by rw [hW1]; first | assumption | go_cell | (go_simp; done) | (simp [hc, hf, hc0, hf0]; done) | (refine keep_set ?_ (by (try simp only []); omega); first | assumption | (refine keep_set ?_ (by (try simp only []); omega); assumption)) | (simp [*]; done)
  have g5 : W1.cell? ⟨w.heap.size + 1 + 1, 1, none⟩ = some (.int .u32 0) := by rw [hW1]; first | assumption | go_cell | (go_simp; done) | (simp [hc, hf, hc0, hf0]; done) | (refine keep_set ?_ (by (try simp only []); omega); first | assumption | (refine keep_set ?_ (by (try simp only []); omega); assumption)) | (simp [*]; done)
  have z0 : W1.frozen? ⟨w.heap.size + 1 + 1, 0, none⟩ = false := by rw [hW1]; first | assumption | go_cell | (go_simp; done) | (simp [hc, hf, hc0, hf0]; done) | (refine keep_set ?_ (by (try simp only []); omega); first | assumption | (refine keep_set ?_ (by (try simp only []); omega); assumption)) | (simp [*]; done)
  have z1 : W1.frozen? ⟨w.heap.size + 1 + 1, 1, none⟩ = false := by rw [hW1]; first | assumption | go_cell | (go_simp; done) | (simp [hc, hf, hc0, hf0]; done) | (refine keep_set ?_ (by (try simp only []); omega); first | assumption | (refine keep_set ?_ (by (try simp only []); omega); assumption)) | (simp [*]; done)
  clear hW1
  refine wp_region_makers 8 [] [0, 1, 2, 3, 4, 5, 6, 7] ?A1 _ (by kernel_rfl) (by kernel_rfl) ?hrun1 (by simp [quiets, mkOf]; rfl) ?walk1 ?fin1
  case hrun1 =>
    intro x hx
    cases hx
  case walk1 =>
    intro W2 hW2
    have e0 : W2.cell? ⟨w.heap.size, 0, none⟩ = some (.int .u32 (p.toNat : Int)) := (hW2.cell (p := ⟨w.heap.size, 0, none⟩) (by (try simp only []); omega)).trans g0
    have k0 := cell_regrown e0
    have e1 : W2.cell? ⟨w.heap.size, 1, none⟩ = some (.int .u32 (m.toNat : Int)) := (hW2.cell (p := ⟨w.heap.size, 1, none⟩) (by (try simp only []); omega)).trans g1
    have k1 := cell_regrown e1
    have e2 : W2.cell? ⟨w.heap.size + 1, 0, none⟩ = some (.int .u32 (q.toNat : Int)) := (hW2.cell (p := ⟨w.heap.size + 1, 0, none⟩) (by (try simp only []); omega)).trans g2
    have k2 := cell_regrown e2
    have e3 : W2.cell? ⟨w.heap.size + 1, 1, none⟩ = some (.int .u32 (n.toNat : Int)) := (hW2.cell (p := ⟨w.heap.size + 1, 1, none⟩) (by (try simp only []); omega)).trans g3
    have k3 := cell_regrown e3
    have e4 : W2.cell? ⟨w.heap.size + 1 + 1, 0, none⟩ = some (.int .u32 0) := (hW2.cell (p := ⟨w.heap.size + 1 + 1, 0, none⟩) (by (try simp only []); omega)).trans g4
    have k4 := cell_regrown e4
    have e5 : W2.cell? ⟨w.heap.size + 1 + 1, 1, none⟩ = some (.int .u32 0) := (hW2.cell (p := ⟨w.heap.size + 1 + 1, 1, none⟩) (by (try simp only []); omega)).trans g5
    have k5 := cell_regrown e5
    repeat (go_big_quiet_step (first | (go_at_call 74; exact Calls.regrown_of (without_any _ _ _ _)) | (go_at_call 104; exact Calls.regrown_of (union_of (p &&& ~~~c) (m &&& ~~~c) (q &&& ~~~(bnot c)) (n &&& ~~~(bnot c)) (by simp) (by simp) (by simp) (by simp) _))))
    refine wpQuiet_nil ?_
    rfl
  intro bs w2 hb hF hN
  have hw := chain hw1 (by omega) hb
  obtain ⟨hc, hf, hz⟩ := bcell hb
  have r0 : w2.cell? ⟨w.heap.size, 0, none⟩ = some (.int .u32 (p.toNat : Int)) := (hc _ _ (by omega)).trans g0
  have r1 : w2.cell? ⟨w.heap.size, 1, none⟩ = some (.int .u32 (m.toNat : Int)) := (hc _ _ (by omega)).trans g1
  have r2 : w2.cell? ⟨w.heap.size + 1, 0, none⟩ = some (.int .u32 (q.toNat : Int)) := (hc _ _ (by omega)).trans g2
  have r3 : w2.cell? ⟨w.heap.size + 1, 1, none⟩ = some (.int .u32 (n.toNat : Int)) := (hc _ _ (by omega)).trans g3
  have r4 : w2.cell? ⟨w.heap.size + 1 + 1, 0, none⟩ = some (.int .u32 0) := (hc _ _ (by omega)).trans g4
  have r5 : w2.cell? ⟨w.heap.size + 1 + 1, 1, none⟩ = some (.int .u32 0) := (hc _ _ (by omega)).trans g5
  have q0 : w2.frozen? ⟨w.heap.size + 1 + 1, 0, none⟩ = false := (hf _ _ (by omega)).trans z0
  have q1 : w2.frozen? ⟨w.heap.size + 1 + 1, 1, none⟩ = false := (hf _ _ (by omega)).trans z1
  clear hb hF hN hw1 g0 g1 g2 g3 g4 g5 z0 z1
  simp only [List.map_cons, List.map_nil, List.foldr_cons, List.foldr_nil] at *
  clear bs
  simp only [dstOf, ptr, Act.put, List.getElem?_toArray, List.getElem?_cons_succ, List.getElem?_cons_zero, Option.bind_some, List.setIfInBounds_toArray, List.set_cons_zero, List.set_cons_succ, List.drop_succ_cons, List.drop_zero]
  go_wp2
  refine bodyPost_ret (v := .tuple #[sv ((p &&& ~~~c) ||| (q &&& ~~~(bnot c))) ((m &&& ~~~c) ||| (n &&& ~~~(bnot c))), .int .i64 0]) (by simp [results, Tryd.results102, go_sem, *]) rfl ⟨rfl, by go_grown⟩
end Go.Proofs.YtpnmapfabjdfjaaDoor

/-
  Made, and facts on sets of features as words of 32 bits.
-/
namespace Go.Proofs.YtpnmapfabjdfjaaDoor
open Go.RowKit Go.Sort
attribute [local go_sem] sv bv_and bv_or bv_xor bv_andNot ofInt32_nat nat_beq nat_beq0
theorem made_any (x y : BitVec 32) (w : World) : Gives 42 #[.int .u32 x.toNat, .int .u32 y.toNat] w (sn (x &&& 16777215#32).toNat ((y &&& 16777215#32) &&& ~~~x).toNat) := by
  unfold Gives
  go_enter Tryd.func42, Tryd.ntmps42
  go_wp2
  refine bodyPost_ret (v := sn (x &&& 16777215#32).toNat ((y &&& 16777215#32) &&& ~~~x).toNat) (by simp [results, Tryd.results42, go_sem]) rfl ⟨rfl, by go_grown⟩
theorem bv_ext {x y : BitVec 32} (h : ∀ i, i < 32 → x.getLsbD i = y.getLsbD i) : x = y := BitVec.eq_of_getLsbD_eq h
theorem vld_bv {p m : BitVec 32} : vld p m = true ↔ p &&& m = 0#32 ∧ (p ||| m) &&& ~~~16777215#32 = 0#32 := by simp [vld]
theorem vld_made (x y : BitVec 32) : vld (x &&& 16777215#32) ((y &&& 16777215#32) &&& ~~~x) = true := by
  rw [vld_bv]
  constructor
  · apply bv_ext; intro i hi; simp only [BitVec.getLsbD_and, BitVec.getLsbD_or, BitVec.getLsbD_not, BitVec.getLsbD_zero]
    cases x.getLsbD i <;> simp
  · apply bv_ext; intro i hi; simp only [BitVec.getLsbD_and, BitVec.getLsbD_or, BitVec.getLsbD_not, BitVec.getLsbD_zero]
    cases (16777215#32).getLsbD i <;> simp
theorem vld_and {p m : BitVec 32} (q n : BitVec 32) (h : vld p m = true) : vld (p &&& q) (m &&& n) = true := by
  rw [vld_bv] at *
  obtain ⟨h1, h2⟩ := h
  have a1 := fun i => congrArg (fun z => z.getLsbD i) h1
  have a2 := fun i => congrArg (fun z => z.getLsbD i) h2
  simp only [BitVec.getLsbD_and, BitVec.getLsbD_or, BitVec.getLsbD_not, BitVec.getLsbD_zero] at a1 a2
  constructor
  · apply bv_ext; intro i hi; simp only [BitVec.getLsbD_and, BitVec.getLsbD_or, BitVec.getLsbD_not, BitVec.getLsbD_zero]
    have := a1 i; revert this
    cases p.getLsbD i <;> cases m.getLsbD i <;> simp
  · apply bv_ext; intro i hi; simp only [BitVec.getLsbD_and, BitVec.getLsbD_or, BitVec.getLsbD_not, BitVec.getLsbD_zero]
    have := a2 i; revert this
    cases p.getLsbD i <;> cases m.getLsbD i <;> cases (16777215#32).getLsbD i <;> simp <;> omega
theorem gv_meet (p m q n : BitVec 32) (h1 : vld p m = true) (h2 : vld q n = true) (w : World) : Gives 71 #[sn p.toNat m.toNat, sn q.toNat n.toNat] w (sn (p &&& q).toNat (m &&& n).toNat) := meet_ok p m q n (by simp [h1, h2]) w
theorem gv_diff (p m q n : BitVec 32) (h1 : vld p m = true) (h2 : vld q n = true) (w : World) : Gives 39 #[sn p.toNat m.toNat, sn q.toNat n.toNat] w (.int .u32 ((p ^^^ q) ||| (m ^^^ n)).toNat) := diff_ok p m q n (by simp [h1, h2]) w
theorem gv_sat (p m q n : BitVec 32) (h1 : vld p m = true) (h2 : vld q n = true) (w : World) : Gives 36 #[sn p.toNat m.toNat, sn q.toNat n.toNat] w (.bool ((p &&& q == q) && (m &&& n == n))) := satisfies_ok p m q n (by simp [h1, h2]) w
theorem gv_valid (p m : BitVec 32) (h : vld p m = true) (w : World) : Gives 40 #[sn p.toNat m.toNat] w (.bool true) := valid_any p m true h w
end Go.Proofs.YtpnmapfabjdfjaaDoor
