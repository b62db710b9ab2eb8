/-
  What the functions of package feats return whose statements leave their order open.
-/
import Derived.Test.YtdbbmhefndjedaaDoorFa
namespace Go.Proofs.YtdbbmhefndjedaaDoor
open Go.RowKit Go.Sort
attribute [local go_sem] sv bv_and bv_or bv_xor bv_andNot ofInt32_nat nat_beq nat_beq0

set_option maxHeartbeats 400000 in
theorem satisfies_bad (p m q n : BitVec 32) (hv : (vld p m && vld q n) = false) (w : World) :
    Calls Tryd.prog 24 #[sv p m, sv q n] w fun e w' => e = .returned (.bool false) ∧ Below w.heap.size w w' := by
  have H := Lib.hid hv; clear hv
  unfold sv
  go_enter Tryd.func24, Tryd.ntmps24
  go_wp2_with fail
  refine wp_gen ?_
  intro W1 hW1
  have hw1 : Below w.heap.size w W1 := by rw [hW1]; go_grown
  have hz1 : w.heap.size + 1 + 1 ≤ W1.heap.size := by rw [hW1]; go_size
  have c0 : W1.cell? ⟨w.heap.size, 0, none⟩ = some (.int .u32 (p.toNat : Int)) := by rw [hW1]; first | assumption | go_cell | (go_simp; done) | exact cell_past (by first | assumption | omega) (by assumption)
  have c1 : W1.cell? ⟨w.heap.size, 1, none⟩ = some (.int .u32 (m.toNat : Int)) := by rw [hW1]; first | assumption | go_cell | (go_simp; done) | exact cell_past (by first | assumption | omega) (by assumption)
  have c2 : W1.cell? ⟨w.heap.size + 1, 0, none⟩ = some (.int .u32 (q.toNat : Int)) := by rw [hW1]; first | assumption | go_cell | (go_simp; done) | exact cell_past (by first | assumption | omega) (by assumption)
  have c3 : W1.cell? ⟨w.heap.size + 1, 1, none⟩ = some (.int .u32 (n.toNat : Int)) := by rw [hW1]; first | assumption | go_cell | (go_simp; done) | exact cell_past (by first | assumption | omega) (by assumption)
  clear hW1
  have k0 := cell_regrown c0
  have k1 := cell_regrown c1
  have k2 := cell_regrown c2
  have k3 := cell_regrown c3
  refine wp_region_quiet_below (by kernel_rfl) (by kernel_rfl) ?_
  try simp only [List.append]
  repeat (go_big_quiet_step (first | exact Calls.regrown_of (bothValid_any _ _ _ _ _ H.out _)))
  refine wpQuiet_nil ?_
  intro w2 hw2
  have hb : Below W1.heap.size W1 w2 := by obtain ⟨q, rfl⟩ := hw2; exact below_regrown _ _ _
  clear hw2
  clear k0 k1 k2 k3
  have hw := chain hw1 (by omega) hb
  obtain ⟨hc, hf, hz⟩ := bcell hb
  clear hb
  try have r0 : w2.cell? ⟨w.heap.size, 0, none⟩ = some (.int .u32 (p.toNat : Int)) := (hc _ _ (by omega)).trans c0
  try have r1 : w2.cell? ⟨w.heap.size, 1, none⟩ = some (.int .u32 (m.toNat : Int)) := (hc _ _ (by omega)).trans c1
  try have r2 : w2.cell? ⟨w.heap.size + 1, 0, none⟩ = some (.int .u32 (q.toNat : Int)) := (hc _ _ (by omega)).trans c2
  try have r3 : w2.cell? ⟨w.heap.size + 1, 1, none⟩ = some (.int .u32 (n.toNat : Int)) := (hc _ _ (by omega)).trans c3
  go_wp2
  go_returns
  exact ⟨rfl, by go_grown⟩
end Go.Proofs.YtdbbmhefndjedaaDoor
