/-
  What Take returns.
-/
import Derived.Test.YtdbbmhefndjedaaDoorFe
namespace Go.Proofs.YtdbbmhefndjedaaDoor
open Go.RowKit Go.Sort
attribute [local go_sem] sv bv_and bv_or bv_xor bv_andNot ofInt32_nat nat_beq nat_beq0
attribute [local go_sem ↓] snd_eql snd_neq
attribute [local go_sem] sub_mod xor_all u32_unsigned u32_max
set_option maxHeartbeats 1000000 in
theorem take_ok (p m c q n : BitVec 32) (hv : (vld p m && vld q n) = true) (hw : c &&& 4278190080#32 = 0) (w : World) :
    Calls Tryd.prog 38 #[sv p m, sv q n, .int .u32 (c.toNat : Int)] w fun e w' => e = .returned (.tuple #[sv ((p &&& ~~~c) ||| (q &&& ~~~(bnot c))) ((m &&& ~~~c) ||| (n &&& ~~~(bnot c))), .int .i64 0]) ∧ Below w.heap.size w w' := by
  obtain ⟨z1, z2, z3, z4⟩ := both_iff hv
  have z5 := (within_iff c).1 hw
  clear hv hw
  unfold sv
  go_enter Tryd.func38, Tryd.ntmps38
  go_wp2
  clear z1 z2 z3 z4 z5
  refine wp_gen ?_
  intro W1 hW1
  have hw1 : Below w.heap.size w W1 := by rw [hW1]; go_grown
  have hz1 : w.heap.size + 1 + 1 + 1 ≤ W1.heap.size := by rw [hW1]; first | assumption | go_size
  have g0 : W1.cell? ⟨w.heap.size, 0, none⟩ = some (.int .u32 (p.toNat : Int)) := by rw [hW1]; first | assumption | go_cell | (go_simp; done) | (simp [hc, hf, hc0, hf0]; done) | (refine keep_set ?_ (by (try simp only []); omega); first | assumption | (refine keep_set ?_ (by (try simp only []); omega); assumption)) | (simp [*]; done)
  have g1 : W1.cell? ⟨w.heap.size, 1, none⟩ = some (.int .u32 (m.toNat : Int)) := by rw [hW1]; first | assumption | go_cell | (go_simp; done) | (simp [hc, hf, hc0, hf0]; done) | (refine keep_set ?_ (by (try simp only []); omega); first | assumption | (refine keep_set ?_ (by (try simp only []); omega); assumption)) | (simp [*]; done)
  have g2 : W1.cell? ⟨w.heap.size + 1, 0, none⟩ = some (.int .u32 (q.toNat : Int)) := by rw [hW1]; first | assumption | go_cell | (go_simp; done) | (simp [hc, hf, hc0, hf0]; done) | (refine keep_set ?_ (by (try simp only []); omega); first | assumption | (refine keep_set ?_ (by (try simp only []); omega); assumption)) | (simp [*]; done)
  have g3 : W1.cell? ⟨w.heap.size + 1, 1, none⟩ = some (.int .u32 (n.toNat : Int)) := by rw [hW1]; first | assumption | go_cell | (go_simp; done) | (simp [hc, hf, hc0, hf0]; done) | (refine keep_set ?_ (by (try simp only []); omega); first | assumption | (refine keep_set ?_ (by (try simp only []); omega); assumption)) | (simp [*]; done)
  have g4 : W1.cell? ⟨w.heap.size + 1 + 1, 0, none⟩ = some (.int .u32 0) := by rw [hW1]; first | assumption | go_cell | (go_simp; done) | (simp [hc, hf, hc0, hf0]; done) | (refine keep_set ?_ (by (try simp only []); omega); first | assumption | (refine keep_set ?_ (by (try simp only []); omega); assumption)) | (simp [*]; done)
  have g5 : W1.cell? ⟨w.heap.size + 1 + 1, 1, none⟩ = some (.int .u32 0) := by rw [hW1]; first | assumption | go_cell | (go_simp; done) | (simp [hc, hf, hc0, hf0]; done) | (refine keep_set ?_ (by (try simp only []); omega); first | assumption | (refine keep_set ?_ (by (try simp only []); omega); assumption)) | (simp [*]; done)
  have z0 : W1.frozen? ⟨w.heap.size + 1 + 1, 0, none⟩ = false := by rw [hW1]; first | assumption | go_cell | (go_simp; done) | (simp [hc, hf, hc0, hf0]; done) | (refine keep_set ?_ (by (try simp only []); omega); first | assumption | (refine keep_set ?_ (by (try simp only []); omega); assumption)) | (simp [*]; done)
  have z1 : W1.frozen? ⟨w.heap.size + 1 + 1, 1, none⟩ = false := by rw [hW1]; first | assumption | go_cell | (go_simp; done) | (simp [hc, hf, hc0, hf0]; done) | (refine keep_set ?_ (by (try simp only []); omega); first | assumption | (refine keep_set ?_ (by (try simp only []); omega); assumption)) | (simp [*]; done)
  clear hW1
  refine wp_region_makers 8 [] [0, 1, 2, 3, 4, 5, 6, 7] ?A1 _ (by kernel_rfl) (by kernel_rfl) ?hrun1 (by simp [quiets, mkOf]; rfl) ?walk1 ?fin1
  case hrun1 =>
    intro x hx
    cases hx
  case walk1 =>
    intro W2 hW2
    have e0 : W2.cell? ⟨w.heap.size, 0, none⟩ = some (.int .u32 (p.toNat : Int)) := (hW2.cell (p := ⟨w.heap.size, 0, none⟩) (by (try simp only []); omega)).trans g0
    have k0 := cell_regrown e0
    have e1 : W2.cell? ⟨w.heap.size, 1, none⟩ = some (.int .u32 (m.toNat : Int)) := (hW2.cell (p := ⟨w.heap.size, 1, none⟩) (by (try simp only []); omega)).trans g1
    have k1 := cell_regrown e1
    have e2 : W2.cell? ⟨w.heap.size + 1, 0, none⟩ = some (.int .u32 (q.toNat : Int)) := (hW2.cell (p := ⟨w.heap.size + 1, 0, none⟩) (by (try simp only []); omega)).trans g2
    have k2 := cell_regrown e2
    have e3 : W2.cell? ⟨w.heap.size + 1, 1, none⟩ = some (.int .u32 (n.toNat : Int)) := (hW2.cell (p := ⟨w.heap.size + 1, 1, none⟩) (by (try simp only []); omega)).trans g3
    have k3 := cell_regrown e3
    have e4 : W2.cell? ⟨w.heap.size + 1 + 1, 0, none⟩ = some (.int .u32 0) := (hW2.cell (p := ⟨w.heap.size + 1 + 1, 0, none⟩) (by (try simp only []); omega)).trans g4
    have k4 := cell_regrown e4
    have e5 : W2.cell? ⟨w.heap.size + 1 + 1, 1, none⟩ = some (.int .u32 0) := (hW2.cell (p := ⟨w.heap.size + 1 + 1, 1, none⟩) (by (try simp only []); omega)).trans g5
    have k5 := cell_regrown e5
    repeat (go_big_quiet_step (first | (go_at_call 45; exact Calls.regrown_of (without_any _ _ _ _)) | (go_at_call 51; exact Calls.regrown_of (union_of (p &&& ~~~c) (m &&& ~~~c) (q &&& ~~~(bnot c)) (n &&& ~~~(bnot c)) (by simp) (by simp) (by simp) (by simp) _))))
    refine wpQuiet_nil ?_
    rfl
  intro bs w2 hb hF hN
  have hw := chain hw1 (by omega) hb
  obtain ⟨hc, hf, hz⟩ := bcell hb
  have r0 : w2.cell? ⟨w.heap.size, 0, none⟩ = some (.int .u32 (p.toNat : Int)) := (hc _ _ (by omega)).trans g0
  have r1 : w2.cell? ⟨w.heap.size, 1, none⟩ = some (.int .u32 (m.toNat : Int)) := (hc _ _ (by omega)).trans g1
  have r2 : w2.cell? ⟨w.heap.size + 1, 0, none⟩ = some (.int .u32 (q.toNat : Int)) := (hc _ _ (by omega)).trans g2
  have r3 : w2.cell? ⟨w.heap.size + 1, 1, none⟩ = some (.int .u32 (n.toNat : Int)) := (hc _ _ (by omega)).trans g3
  have r4 : w2.cell? ⟨w.heap.size + 1 + 1, 0, none⟩ = some (.int .u32 0) := (hc _ _ (by omega)).trans g4
  have r5 : w2.cell? ⟨w.heap.size + 1 + 1, 1, none⟩ = some (.int .u32 0) := (hc _ _ (by omega)).trans g5
  have q0 : w2.frozen? ⟨w.heap.size + 1 + 1, 0, none⟩ = false := (hf _ _ (by omega)).trans z0
  have q1 : w2.frozen? ⟨w.heap.size + 1 + 1, 1, none⟩ = false := (hf _ _ (by omega)).trans z1
  clear hb hF hN hw1 g0 g1 g2 g3 g4 g5 z0 z1
  simp only [List.map_cons, List.map_nil, List.foldr_cons, List.foldr_nil] at *
  clear bs
  simp only [dstOf, ptr, Act.put, List.getElem?_toArray, List.getElem?_cons_succ, List.getElem?_cons_zero, Option.bind_some, List.setIfInBounds_toArray, List.set_cons_zero, List.set_cons_succ, List.drop_succ_cons, List.drop_zero]
  go_wp2
  refine bodyPost_ret (v := .tuple #[sv ((p &&& ~~~c) ||| (q &&& ~~~(bnot c))) ((m &&& ~~~c) ||| (n &&& ~~~(bnot c))), .int .i64 0]) (by simp [results, Tryd.results38, go_sem, *]) rfl ⟨rfl, by go_grown⟩
end Go.Proofs.YtdbbmhefndjedaaDoor
