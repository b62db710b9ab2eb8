/-
  Bundle of an inventory that is nil, or was not made by New.
-/
import Derived.Test.YtmgikhldkebjbaaJa
namespace Go.Proofs.Ytmgikhldkebjbaa
open Go.RowKit Go.Shelf Go.Sort
attribute [local go_sem] Oper.semAt_some
set_option maxHeartbeats 16000000 in
set_option maxRecDepth 100000 in
theorem no_bundle {w : World} {q : Option Addr} (h : NoInv w (.pointer q)) (t : ByteArray) : Gives 29 #[.pointer q, .string t] w (.tuple #[.agg #[.int .u32 0, .int .u32 0], .int .i64 1]) := by
  unfold Gives
  have H := Lib.hid h; clear h
  obtain ⟨V, hV⟩ : ∃ V, V = Value.tuple #[.agg #[.int .u32 0, .int .u32 0], .int .i64 1] := ⟨_, rfl⟩
  rw [← hV]
  have HV := Lib.hid hV; clear hV
  refine (callsIn_wide (n := 5)).1 ?_
  refine callsIn_of_wp_marks Try.func29 rfl trivial ?_ rfl
  simp only [Try.ntmps29, List.size_toArray, List.length_cons, List.length_nil, Nat.reduceAdd, Nat.reduceSub, Array.replicate_succ, Array.replicate_zero, List.push_toArray, List.append_toArray, List.nil_append, List.cons_append]
  gi_wp2_with (refine ⟨trivial, ?_⟩; gi_at_call 44; refine (callsIn_wide.2 (H.out _ (by go_grown))).mono ?_; rintro e wa ⟨rfl, hwa⟩; obtain ⟨hc, hf, hz⟩ := bcell hwa; (try simp only [World.size_alloc] at hc hf hz))
  have hq := (((Below.refl w.heap.size w).alloc (Nat.le_refl _) (.cells #[.pointer q] 26)).alloc (by rw [World.size_alloc]; omega) (.cells #[.int .u32 0, .int .u32 0] 39)).alloc (by simp only [World.size_alloc]; omega) (.cells #[.int .i64 0] 42)
  have hb4 := (((hq.trans (hwa.mono hq.size)).setCell (p := ⟨w.heap.size + 1, 0, none⟩) (by simp only []; omega) (.int .u32 0)).setCell (p := ⟨w.heap.size + 1, 1, none⟩) (by simp only []; omega) (.int .u32 0)).setCell (p := ⟨w.heap.size + 1 + 1, 0, none⟩) (by simp only []; omega) (.int .i64 1)
  have k0 : wa.cell? ⟨w.heap.size + 1, 0, none⟩ = some (.int .u32 0) := by rw [hc _ _ (by omega)]; go_cell
  have k1 : wa.cell? ⟨w.heap.size + 1, 1, none⟩ = some (.int .u32 0) := by rw [hc _ _ (by omega)]; go_cell
  have k2 : wa.cell? ⟨w.heap.size + 1 + 1, 0, none⟩ = some (.int .i64 0) := by rw [hc _ _ (by omega)]; go_cell
  have c1 : (((wa.setCell ⟨w.heap.size + 1, 0, none⟩ (.int .u32 0)).setCell ⟨w.heap.size + 1, 1, none⟩ (.int .u32 0)).setCell ⟨w.heap.size + 1 + 1, 0, none⟩ (.int .i64 1)).cell? ⟨w.heap.size + 1, 0, none⟩ = some (.int .u32 0) := by go_cell
  have c2 : (((wa.setCell ⟨w.heap.size + 1, 0, none⟩ (.int .u32 0)).setCell ⟨w.heap.size + 1, 1, none⟩ (.int .u32 0)).setCell ⟨w.heap.size + 1 + 1, 0, none⟩ (.int .i64 1)).cell? ⟨w.heap.size + 1, 1, none⟩ = some (.int .u32 0) := by go_cell
  have c3 : (((wa.setCell ⟨w.heap.size + 1, 0, none⟩ (.int .u32 0)).setCell ⟨w.heap.size + 1, 1, none⟩ (.int .u32 0)).setCell ⟨w.heap.size + 1 + 1, 0, none⟩ (.int .i64 1)).cell? ⟨w.heap.size + 1 + 1, 0, none⟩ = some (.int .i64 1) := by go_cell
  refine ⟨.tuple #[.agg #[.int .u32 0, .int .u32 0], .int .i64 1], ?_, ?_, hb4⟩
  · simp [results, Try.results29, go_sem, c1, c2, c3]
  · rw [HV.out]
end Go.Proofs.Ytmgikhldkebjbaa
