/-
  What Order returns: the order by the features of value +1, then by those of value -1.
-/
import Derived.Test.YtdbbmhefndjedaaDoorFj
namespace Go.Proofs.YtdbbmhefndjedaaDoor
open Go.RowKit Go.Sort
attribute [local go_sem] sv

/-- How two sounds compare. -/
def ordN (p m q n : Nat) : Int := if cmpN p q = 0 then cmpN m n else cmpN p q
set_option maxHeartbeats 1000000 in
theorem order_any (p m q n : BitVec 32) (w : World) :
    Calls Tryd.prog 26 #[sv p m, sv q n] w fun e w' => e = .returned (.int .i64 (ordN p.toNat m.toNat q.toNat n.toNat)) ∧ Below w.heap.size w w' := by
  unfold sv
  go_enter Tryd.func26, Tryd.ntmps26
  go_wp2_with fail
  refine wp_gen ?_
  intro W1 hW1
  have hw1 : Below w.heap.size w W1 := by rw [hW1]; go_grown
  have hz1 : w.heap.size + 1 + 1 ≤ W1.heap.size := by rw [hW1]; first | assumption | go_size
  have g0 : W1.cell? ⟨w.heap.size, 0, none⟩ = some (.int .u32 (p.toNat : Int)) := by rw [hW1]; first | assumption | go_cell | (go_simp; done) | (simp [hc, hf, hc0, hf0]; done) | (refine keep_set ?_ (by (try simp only []); omega); first | assumption | (refine keep_set ?_ (by (try simp only []); omega); assumption)) | (simp [*]; done)
  have g1 : W1.cell? ⟨w.heap.size, 1, none⟩ = some (.int .u32 (m.toNat : Int)) := by rw [hW1]; first | assumption | go_cell | (go_simp; done) | (simp [hc, hf, hc0, hf0]; done) | (refine keep_set ?_ (by (try simp only []); omega); first | assumption | (refine keep_set ?_ (by (try simp only []); omega); assumption)) | (simp [*]; done)
  have g2 : W1.cell? ⟨w.heap.size + 1, 0, none⟩ = some (.int .u32 (q.toNat : Int)) := by rw [hW1]; first | assumption | go_cell | (go_simp; done) | (simp [hc, hf, hc0, hf0]; done) | (refine keep_set ?_ (by (try simp only []); omega); first | assumption | (refine keep_set ?_ (by (try simp only []); omega); assumption)) | (simp [*]; done)
  have g3 : W1.cell? ⟨w.heap.size + 1, 1, none⟩ = some (.int .u32 (n.toNat : Int)) := by rw [hW1]; first | assumption | go_cell | (go_simp; done) | (simp [hc, hf, hc0, hf0]; done) | (refine keep_set ?_ (by (try simp only []); omega); first | assumption | (refine keep_set ?_ (by (try simp only []); omega); assumption)) | (simp [*]; done)
  clear hW1
  refine wp_region_makers 10 [] [0, 1, 2, 3, 4, 5, 6, 7, 8, 9] ?A1 _ (by kernel_rfl) (by kernel_rfl) ?hrun1 (by simp [quiets, mkOf]; rfl) ?walk1 ?fin1
  case hrun1 =>
    intro x hx
    cases hx
  case walk1 =>
    intro W2 hW2
    have e0 : W2.cell? ⟨w.heap.size, 0, none⟩ = some (.int .u32 (p.toNat : Int)) := (hW2.cell (p := ⟨w.heap.size, 0, none⟩) (by (try simp only []); omega)).trans g0
    have k0 := cell_regrown e0
    have e1 : W2.cell? ⟨w.heap.size, 1, none⟩ = some (.int .u32 (m.toNat : Int)) := (hW2.cell (p := ⟨w.heap.size, 1, none⟩) (by (try simp only []); omega)).trans g1
    have k1 := cell_regrown e1
    have e2 : W2.cell? ⟨w.heap.size + 1, 0, none⟩ = some (.int .u32 (q.toNat : Int)) := (hW2.cell (p := ⟨w.heap.size + 1, 0, none⟩) (by (try simp only []); omega)).trans g2
    have k2 := cell_regrown e2
    have e3 : W2.cell? ⟨w.heap.size + 1, 1, none⟩ = some (.int .u32 (n.toNat : Int)) := (hW2.cell (p := ⟨w.heap.size + 1, 1, none⟩) (by (try simp only []); omega)).trans g3
    have k3 := cell_regrown e3
    repeat (go_big_quiet_step (first | (go_at_call 54; exact Calls.regrown_of (compare_any _ _ _))))
    refine wpQuiet_nil ?_
    rfl
  intro bs w2 hb hF hN
  have hw := chain hw1 (by omega) hb
  obtain ⟨hc, hf, hz⟩ := bcell hb
  have r0 : w2.cell? ⟨w.heap.size, 0, none⟩ = some (.int .u32 (p.toNat : Int)) := (hc _ _ (by omega)).trans g0
  have r1 : w2.cell? ⟨w.heap.size, 1, none⟩ = some (.int .u32 (m.toNat : Int)) := (hc _ _ (by omega)).trans g1
  have r2 : w2.cell? ⟨w.heap.size + 1, 0, none⟩ = some (.int .u32 (q.toNat : Int)) := (hc _ _ (by omega)).trans g2
  have r3 : w2.cell? ⟨w.heap.size + 1, 1, none⟩ = some (.int .u32 (n.toNat : Int)) := (hc _ _ (by omega)).trans g3
  clear hb hF hN hw1 g0 g1 g2 g3
  simp only [List.map_cons, List.map_nil, List.foldr_cons, List.foldr_nil] at *
  clear bs
  simp only [dstOf, ptr, Act.put, List.getElem?_toArray, List.getElem?_cons_succ, List.getElem?_cons_zero, Option.bind_some, List.setIfInBounds_toArray, List.set_cons_zero, List.set_cons_succ, List.drop_succ_cons, List.drop_zero]
  go_wp2_with (go_at_call 53; refine (or_any (cmpN p.toNat q.toNat) (cmpN m.toNat n.toNat) _ _ (by first | go_cell | (go_simp; done) | (simp [World.cell?, World.alloc]; done)) (by first | go_cell | (go_simp; done) | (simp [World.cell?, World.alloc]; done))).mono ?_; rintro e w1 ⟨rfl, hb⟩; have hw := chain (B := w.heap.size) (a := w) (by go_grown) (by go_size) hb; (first | have h0 := chain (h0.trans (by go_grown)) (by go_size) hb | have h0 := hb); obtain ⟨hc, hf, hz⟩ := bcell hb; obtain ⟨hc0, hf0, hz0⟩ := bcell h0; clear hb; (try simp only [World.size_alloc, World.size_setCell, World.size_drew] at hc hf hz hc0 hf0 hz0))
  all_goals go_returns
  all_goals exact ⟨by simp [ordN, *], by go_grown⟩
end Go.Proofs.YtdbbmhefndjedaaDoor
