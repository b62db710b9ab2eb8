/-
  What Unify, Change, Take and Order return.
-/
import Derived.Test.YtdbbmhefndjedaaDoorFd
namespace Go.Proofs.YtdbbmhefndjedaaDoor
open Go.RowKit Go.Sort
attribute [local go_sem] sv bv_and bv_or bv_xor bv_andNot ofInt32_nat nat_beq nat_beq0
attribute [local go_sem ↓] snd_eql snd_neq
attribute [local go_sem] sub_mod
set_option maxHeartbeats 400000 in
theorem unify_ok (p m q n : BitVec 32) (hv : vld (p ||| q) (m ||| n) = true) (w : World) :
    Calls Tryd.prog 22 #[sv p m, sv q n] w fun e w' => e = .returned (.tuple #[sv (p ||| q) (m ||| n), .bool true]) ∧ Below w.heap.size w w' := by
  have H := Lib.hid hv; clear hv
  unfold sv
  go_enter Tryd.func22, Tryd.ntmps22
  go_wp2_with (first | (go_at_call 51; refine (union_any _ _ _ _ _).mono ?_; rintro e w1 ⟨rfl, hb⟩; have hw := chain (B := w.heap.size) (a := w) (by go_grown) (by go_size) hb; (first | have h0 := chain (h0.trans (by go_grown)) (by go_size) hb | have h0 := hb); obtain ⟨hc, hf, hz⟩ := bcell hb; obtain ⟨hc0, hf0, hz0⟩ := bcell h0; clear hb; (try simp only [World.size_alloc, World.size_setCell, World.size_drew] at hc hf hz hc0 hf0 hz0)) | (go_at_call 17; refine (valid_any _ _ _ H.out _).mono ?_; rintro e w1 ⟨rfl, hb⟩; have hw := chain (B := w.heap.size) (a := w) (by go_grown) (by go_size) hb; (first | have h0 := chain (h0.trans (by go_grown)) (by go_size) hb | have h0 := hb); obtain ⟨hc, hf, hz⟩ := bcell hb; obtain ⟨hc0, hf0, hz0⟩ := bcell h0; clear hb; (try simp only [World.size_alloc, World.size_setCell, World.size_drew] at hc hf hz hc0 hf0 hz0)))
  refine bodyPost_ret (v := .tuple #[sv (p ||| q) (m ||| n), .bool true]) (by simp [results, Tryd.results22, go_sem, hc, hz, hc0, hz0]) rfl ⟨rfl, by go_grown⟩
set_option maxHeartbeats 400000 in
theorem unify_bad (p m q n : BitVec 32) (hv : vld (p ||| q) (m ||| n) = false) (w : World) :
    Calls Tryd.prog 22 #[sv p m, sv q n] w fun e w' => e = .returned (.tuple #[sv 0 0, .bool false]) ∧ Below w.heap.size w w' := by
  have H := Lib.hid hv; clear hv
  unfold sv
  go_enter Tryd.func22, Tryd.ntmps22
  go_wp2_with (first | (go_at_call 51; refine (union_any _ _ _ _ _).mono ?_; rintro e w1 ⟨rfl, hb⟩; have hw := chain (B := w.heap.size) (a := w) (by go_grown) (by go_size) hb; (first | have h0 := chain (h0.trans (by go_grown)) (by go_size) hb | have h0 := hb); obtain ⟨hc, hf, hz⟩ := bcell hb; obtain ⟨hc0, hf0, hz0⟩ := bcell h0; clear hb; (try simp only [World.size_alloc, World.size_setCell, World.size_drew] at hc hf hz hc0 hf0 hz0)) | (go_at_call 17; refine (valid_any _ _ _ H.out _).mono ?_; rintro e w1 ⟨rfl, hb⟩; have hw := chain (B := w.heap.size) (a := w) (by go_grown) (by go_size) hb; (first | have h0 := chain (h0.trans (by go_grown)) (by go_size) hb | have h0 := hb); obtain ⟨hc, hf, hz⟩ := bcell hb; obtain ⟨hc0, hf0, hz0⟩ := bcell h0; clear hb; (try simp only [World.size_alloc, World.size_setCell, World.size_drew] at hc hf hz hc0 hf0 hz0)))
  refine bodyPost_ret (v := .tuple #[sv 0 0, .bool false]) (by simp [results, Tryd.results22, go_sem, hc, hz, hc0, hz0]) rfl ⟨rfl, by go_grown⟩

set_option maxHeartbeats 400000 in
theorem change_badS (p m c q n : BitVec 32) (hv : (vld p m && vld q n) = false) (w : World) :
    Calls Tryd.prog 36 #[sv p m, .int .u32 (c.toNat : Int), sv q n] w fun e w' => e = .returned (.tuple #[sv 0 0, .int .i64 14]) ∧ Below w.heap.size w w' := by
  have H := Lib.hid hv; clear hv
  unfold sv
  go_enter Tryd.func36, Tryd.ntmps36
  go_wp2_with (go_at_call 52; refine (bothValid_any _ _ _ _ _ H.out _).mono ?_; rintro e w1 ⟨rfl, hb⟩; have hw := chain (B := w.heap.size) (a := w) (by go_grown) (by go_size) hb; (first | have h0 := chain (h0.trans (by go_grown)) (by go_size) hb | have h0 := hb); obtain ⟨hc, hf, hz⟩ := bcell hb; obtain ⟨hc0, hf0, hz0⟩ := bcell h0; clear hb; (try simp only [World.size_alloc, World.size_setCell, World.size_drew] at hc hf hz hc0 hf0 hz0))
  refine bodyPost_ret (v := .tuple #[sv 0 0, .int .i64 14]) (by simp [results, Tryd.results36, go_sem, hc, hz]) rfl ⟨rfl, by go_grown⟩
set_option maxHeartbeats 400000 in
theorem take_badS (p m c q n : BitVec 32) (hv : (vld p m && vld q n) = false) (w : World) :
    Calls Tryd.prog 38 #[sv p m, sv q n, .int .u32 (c.toNat : Int)] w fun e w' => e = .returned (.tuple #[sv 0 0, .int .i64 14]) ∧ Below w.heap.size w w' := by
  have H := Lib.hid hv; clear hv
  unfold sv
  go_enter Tryd.func38, Tryd.ntmps38
  go_wp2_with (go_at_call 52; refine (bothValid_any _ _ _ _ _ H.out _).mono ?_; rintro e w1 ⟨rfl, hb⟩; have hw := chain (B := w.heap.size) (a := w) (by go_grown) (by go_size) hb; (first | have h0 := chain (h0.trans (by go_grown)) (by go_size) hb | have h0 := hb); obtain ⟨hc, hf, hz⟩ := bcell hb; obtain ⟨hc0, hf0, hz0⟩ := bcell h0; clear hb; (try simp only [World.size_alloc, World.size_setCell, World.size_drew] at hc hf hz hc0 hf0 hz0))
  refine bodyPost_ret (v := .tuple #[sv 0 0, .int .i64 14]) (by simp [results, Tryd.results38, go_sem, hc, hz]) rfl ⟨rfl, by go_grown⟩
theorem within_iff (c : BitVec 32) : (c &&& 4278190080#32 = 0) ↔ c.toNat &&& 4278190080 = 0 := by
  rw [← BitVec.toNat_inj]; simp
set_option maxHeartbeats 400000 in
theorem within_any (c : BitVec 32) (b : Bool) (hb : (c &&& 4278190080#32 == 0) = b) (w : World) :
    Calls Tryd.prog 49 #[.int .u32 (c.toNat : Int)] w fun e w' => e = .returned (.bool b) ∧ w = w' := by
  subst hb
  have h := within_iff c
  have H := Lib.hid h; clear h
  go_enter Tryd.func49, Tryd.ntmps49
  go_wp2
  go_returns
  refine ⟨ret_bool ?_, rfl⟩
  have := H.out
  rw [Bool.eq_iff_iff, beq_iff_eq, beq_iff_eq, this]; omega
set_option maxHeartbeats 400000 in
theorem valued_any (p m : BitVec 32) (w : World) :
    Calls Tryd.prog 50 #[sv p m] w fun e w' => e = .returned (.int .u32 ((p ||| m).toNat : Int)) ∧ Below w.heap.size w w' := by
  unfold sv
  go_enter Tryd.func50, Tryd.ntmps50
  go_wp2
  go_returns
  exact ⟨by simp, by go_grown⟩
set_option maxHeartbeats 400000 in
theorem take_badA (p m c q n : BitVec 32) (hv : (vld p m && vld q n) = true) (hw : (c &&& 4278190080#32 == 0) = false) (w : World) :
    Calls Tryd.prog 38 #[sv p m, sv q n, .int .u32 (c.toNat : Int)] w fun e w' => e = .returned (.tuple #[sv 0 0, .int .i64 2]) ∧ Below w.heap.size w w' := by
  have H := Lib.hid hv; have HW := Lib.hid hw; clear hv hw
  unfold sv
  go_enter Tryd.func38, Tryd.ntmps38
  go_wp2_with (first | (go_at_call 52; refine (bothValid_any _ _ _ _ _ H.out _).mono ?_; rintro e w1 ⟨rfl, hb⟩; have hw := chain (B := w.heap.size) (a := w) (by go_grown) (by go_size) hb; (first | have h0 := chain (h0.trans (by go_grown)) (by go_size) hb | have h0 := hb); obtain ⟨hc, hf, hz⟩ := bcell hb; obtain ⟨hc0, hf0, hz0⟩ := bcell h0; clear hb; (try simp only [World.size_alloc, World.size_setCell, World.size_drew] at hc hf hz hc0 hf0 hz0)) | (go_at_call 49; refine (within_any _ _ HW.out _).mono ?_; rintro e w2 ⟨rfl, rfl⟩))
  refine bodyPost_ret (v := .tuple #[sv 0 0, .int .i64 2]) (by simp [results, Tryd.results38, go_sem, hc, hz]) rfl ⟨rfl, by go_grown⟩
theorem both_iff {p m q n : BitVec 32} (h : (vld p m && vld q n) = true) : p.toNat &&& m.toNat = 0 ∧ (p.toNat ||| m.toNat) &&& 4278190080 = 0 ∧ q.toNat &&& n.toNat = 0 ∧ (q.toNat ||| n.toNat) &&& 4278190080 = 0 := by
  rw [Bool.and_eq_true, vld_iff, vld_iff] at h
  exact ⟨h.1.1, h.1.2, h.2.1, h.2.2⟩
set_option maxHeartbeats 1000000 in
theorem change_badA (p m c q n : BitVec 32) (hv : (vld p m && vld q n) = true) (hw : ¬ (c &&& 4278190080#32 = 0 ∧ c &&& (q ||| n) = 0)) (w : World) :
    Calls Tryd.prog 36 #[sv p m, .int .u32 (c.toNat : Int), sv q n] w fun e w' => e = .returned (.tuple #[sv 0 0, .int .i64 2]) ∧ Below w.heap.size w w' := by
  obtain ⟨z1, z2, z3, z4⟩ := both_iff hv
  have e5 := within_iff c
  have e6 : (c &&& (q ||| n) = 0) ↔ c.toNat &&& (q.toNat ||| n.toNat) = 0 := by rw [← BitVec.toNat_inj]; simp
  rw [e5, e6] at hw
  clear hv e5 e6
  unfold sv
  by_cases h5 : c.toNat &&& 4278190080 = 0
  · have h6 : ¬ c.toNat &&& (q.toNat ||| n.toNat) = 0 := fun h => hw ⟨h5, h⟩
    clear hw
    go_enter Tryd.func36, Tryd.ntmps36
    go_wp2
    refine bodyPost_ret (v := .tuple #[sv 0 0, .int .i64 2]) (by simp [results, Tryd.results36, go_sem]) rfl ⟨rfl, by go_grown⟩
  · clear hw
    go_enter Tryd.func36, Tryd.ntmps36
    go_wp2
    refine bodyPost_ret (v := .tuple #[sv 0 0, .int .i64 2]) (by simp [results, Tryd.results36, go_sem]) rfl ⟨rfl, by go_grown⟩
set_option maxHeartbeats 1000000 in
theorem change_ok (p m c q n : BitVec 32) (hv : (vld p m && vld q n) = true) (hw : c &&& 4278190080#32 = 0 ∧ c &&& (q ||| n) = 0) (w : World) :
    Calls Tryd.prog 36 #[sv p m, .int .u32 (c.toNat : Int), sv q n] w fun e w' => e = .returned (.tuple #[sv ((p &&& ~~~(c ||| (q ||| n))) ||| q) ((m &&& ~~~(c ||| (q ||| n))) ||| n), .int .i64 0]) ∧ Below w.heap.size w w' := by
  obtain ⟨z1, z2, z3, z4⟩ := both_iff hv
  have z5 := (within_iff c).1 hw.1
  have z6 : c.toNat &&& (q.toNat ||| n.toNat) = 0 := by have := hw.2; rw [← BitVec.toNat_inj] at this; simpa using this
  clear hv hw
  unfold sv
  go_enter Tryd.func36, Tryd.ntmps36
  go_wp2
  clear z1 z2 z3 z4 z5 z6
  refine wp_gen ?_
  intro W1 hW1
  have hw1 : Below w.heap.size w W1 := by rw [hW1]; go_grown
  have hz1 : w.heap.size + 1 + 1 + 1 ≤ W1.heap.size := by rw [hW1]; first | assumption | go_size
  have g0 : W1.cell? ⟨w.heap.size, 0, none⟩ = some (.int .u32 (p.toNat : Int)) := by rw [hW1]; first | assumption | go_cell | (go_simp; done) | (simp [hc, hf, hc0, hf0]; done) | (refine keep_set ?_ (by (try simp only []); omega); first | assumption | (refine keep_set ?_ (by (try simp only []); omega); assumption)) | (simp [*]; done)
  have g1 : W1.cell? ⟨w.heap.size, 1, none⟩ = some (.int .u32 (m.toNat : Int)) := by rw [hW1]; first | assumption | go_cell | (go_simp; done) | (simp [hc, hf, hc0, hf0]; done) | (refine keep_set ?_ (by (try simp only []); omega); first | assumption | (refine keep_set ?_ (by (try simp only []); omega); assumption)) | (simp [*]; done)
  have g2 : W1.cell? ⟨w.heap.size + 1, 0, none⟩ = some (.int .u32 (q.toNat : Int)) := by rw [hW1]; first | assumption | go_cell | (go_simp; done) | (simp [hc, hf, hc0, hf0]; done) | (refine keep_set ?_ (by (try simp only []); omega); first | assumption | (refine keep_set ?_ (by (try simp only []); omega); assumption)) | (simp [*]; done)
  have g3 : W1.cell? ⟨w.heap.size + 1, 1, none⟩ = some (.int .u32 (n.toNat : Int)) := by rw [hW1]; first | assumption | go_cell | (go_simp; done) | (simp [hc, hf, hc0, hf0]; done) | (refine keep_set ?_ (by (try simp only []); omega); first | assumption | (refine keep_set ?_ (by (try simp only []); omega); assumption)) | (simp [*]; done)
  have g4 : W1.cell? ⟨w.heap.size + 1 + 1, 0, none⟩ = some (.int .u32 0) := by rw [hW1]; first | assumption | go_cell | (go_simp; done) | (simp [hc, hf, hc0, hf0]; done) | (refine keep_set ?_ (by (try simp only []); omega); first | assumption | (refine keep_set ?_ (by (try simp only []); omega); assumption)) | (simp [*]; done)
  have g5 : W1.cell? ⟨w.heap.size + 1 + 1, 1, none⟩ = some (.int .u32 0) := by rw [hW1]; first | assumption | go_cell | (go_simp; done) | (simp [hc, hf, hc0, hf0]; done) | (refine keep_set ?_ (by (try simp only []); omega); first | assumption | (refine keep_set ?_ (by (try simp only []); omega); assumption)) | (simp [*]; done)
  have z0 : W1.frozen? ⟨w.heap.size + 1 + 1, 0, none⟩ = false := by rw [hW1]; first | assumption | go_cell | (go_simp; done) | (simp [hc, hf, hc0, hf0]; done) | (refine keep_set ?_ (by (try simp only []); omega); first | assumption | (refine keep_set ?_ (by (try simp only []); omega); assumption)) | (simp [*]; done)
  have z1 : W1.frozen? ⟨w.heap.size + 1 + 1, 1, none⟩ = false := by rw [hW1]; first | assumption | go_cell | (go_simp; done) | (simp [hc, hf, hc0, hf0]; done) | (refine keep_set ?_ (by (try simp only []); omega); first | assumption | (refine keep_set ?_ (by (try simp only []); omega); assumption)) | (simp [*]; done)
  clear hW1
  refine wp_region_makers 8 [] [0, 1, 2, 3, 4, 5, 6, 7] ?A1 _ (by kernel_rfl) (by kernel_rfl) ?hrun1 (by simp [quiets, mkOf]; rfl) ?walk1 ?fin1
  case hrun1 =>
    intro x hx
    cases hx
  case walk1 =>
    intro W2 hW2
    have e0 : W2.cell? ⟨w.heap.size, 0, none⟩ = some (.int .u32 (p.toNat : Int)) := (hW2.cell (p := ⟨w.heap.size, 0, none⟩) (by (try simp only []); omega)).trans g0
    have k0 := cell_regrown e0
    have e1 : W2.cell? ⟨w.heap.size, 1, none⟩ = some (.int .u32 (m.toNat : Int)) := (hW2.cell (p := ⟨w.heap.size, 1, none⟩) (by (try simp only []); omega)).trans g1
    have k1 := cell_regrown e1
    have e2 : W2.cell? ⟨w.heap.size + 1, 0, none⟩ = some (.int .u32 (q.toNat : Int)) := (hW2.cell (p := ⟨w.heap.size + 1, 0, none⟩) (by (try simp only []); omega)).trans g2
    have k2 := cell_regrown e2
    have e3 : W2.cell? ⟨w.heap.size + 1, 1, none⟩ = some (.int .u32 (n.toNat : Int)) := (hW2.cell (p := ⟨w.heap.size + 1, 1, none⟩) (by (try simp only []); omega)).trans g3
    have k3 := cell_regrown e3
    have e4 : W2.cell? ⟨w.heap.size + 1 + 1, 0, none⟩ = some (.int .u32 0) := (hW2.cell (p := ⟨w.heap.size + 1 + 1, 0, none⟩) (by (try simp only []); omega)).trans g4
    have k4 := cell_regrown e4
    have e5 : W2.cell? ⟨w.heap.size + 1 + 1, 1, none⟩ = some (.int .u32 0) := (hW2.cell (p := ⟨w.heap.size + 1 + 1, 1, none⟩) (by (try simp only []); omega)).trans g5
    have k5 := cell_regrown e5
    repeat (go_big_quiet_step (first | (go_at_call 50; exact Calls.regrown_of (valued_any _ _ _)) | (go_at_call 45; exact Calls.regrown_of (without_of _ _ (c|||(q|||n)) (by simp) _)) | (go_at_call 51; exact Calls.regrown_of (union_of (p &&& ~~~(c|||(q|||n))) (m &&& ~~~(c|||(q|||n))) q n (by simp) (by simp) (by simp) (by simp) _))))
    refine wpQuiet_nil ?_
    rfl
  intro bs w2 hb hF hN
  have hw := chain hw1 (by omega) hb
  obtain ⟨hc, hf, hz⟩ := bcell hb
  have r0 : w2.cell? ⟨w.heap.size, 0, none⟩ = some (.int .u32 (p.toNat : Int)) := (hc _ _ (by omega)).trans g0
  have r1 : w2.cell? ⟨w.heap.size, 1, none⟩ = some (.int .u32 (m.toNat : Int)) := (hc _ _ (by omega)).trans g1
  have r2 : w2.cell? ⟨w.heap.size + 1, 0, none⟩ = some (.int .u32 (q.toNat : Int)) := (hc _ _ (by omega)).trans g2
  have r3 : w2.cell? ⟨w.heap.size + 1, 1, none⟩ = some (.int .u32 (n.toNat : Int)) := (hc _ _ (by omega)).trans g3
  have r4 : w2.cell? ⟨w.heap.size + 1 + 1, 0, none⟩ = some (.int .u32 0) := (hc _ _ (by omega)).trans g4
  have r5 : w2.cell? ⟨w.heap.size + 1 + 1, 1, none⟩ = some (.int .u32 0) := (hc _ _ (by omega)).trans g5
  have q0 : w2.frozen? ⟨w.heap.size + 1 + 1, 0, none⟩ = false := (hf _ _ (by omega)).trans z0
  have q1 : w2.frozen? ⟨w.heap.size + 1 + 1, 1, none⟩ = false := (hf _ _ (by omega)).trans z1
  clear hb hF hN hw1 g0 g1 g2 g3 g4 g5 z0 z1
  simp only [List.map_cons, List.map_nil, List.foldr_cons, List.foldr_nil] at *
  clear bs
  simp only [dstOf, ptr, Act.put, List.getElem?_toArray, List.getElem?_cons_succ, List.getElem?_cons_zero, Option.bind_some, List.setIfInBounds_toArray, List.set_cons_zero, List.set_cons_succ, List.drop_succ_cons, List.drop_zero]
  go_wp2
  refine bodyPost_ret (v := .tuple #[sv ((p &&& ~~~(c ||| (q ||| n))) ||| q) ((m &&& ~~~(c ||| (q ||| n))) ||| n), .int .i64 0]) (by simp [results, Tryd.results36, go_sem, *]) rfl ⟨rfl, by go_grown⟩
end Go.Proofs.YtdbbmhefndjedaaDoor
