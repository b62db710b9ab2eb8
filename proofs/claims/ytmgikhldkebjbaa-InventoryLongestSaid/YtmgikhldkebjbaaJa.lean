/-
  Inventories that are nil, or were not made by New: what every call returns.
-/
import Derived.Test.YtmgikhldkebjbaaIq
namespace Go.Proofs.Ytmgikhldkebjbaa
open Go.RowKit Go.Shelf Go.Sort
attribute [local go_sem] Oper.semAt_some
/-- What the package asks of an inventory answers no, whatever is made beside it. -/
def NoInv (w : World) (p : Value) : Prop := ∀ W, Below w.heap.size w W → Gives 44 #[p] W (.bool false)
theorem NoInv.below {w w' : World} {p : Value} (h : NoInv w p) (hb : Below w.heap.size w w') : NoInv w' p := fun W hW => h W (hb.trans (hW.mono hb.size))
theorem noInv_nil (w : World) : NoInv w (.pointer none) := fun W _ => valid_nil W
theorem noInv_zero {w : World} {B : Nat} (hB : B < w.heap.size) (h : w.cell? ⟨B, 0, none⟩ = some (.pointer none)) : NoInv w (.pointer (some ⟨B, 0, none⟩)) := fun W hW => valid_zero B W ((hW.cell (p := ⟨B, 0, none⟩) hB).trans h)
theorem no_len {w : World} {p : Value} (h : NoInv w p) : Gives 22 #[p] w (.int .i64 0) := by
  unfold Gives
  have H := Lib.hid h; clear h
  go_enter Try.func22, Try.ntmps22
  go_wp2_with (go_at_call 44; refine Gives.then (H.out _ (by go_grown)) ?_; intro w1 hb)
  go_returns
  exact ⟨rfl, hb⟩
theorem no_feats {w : World} {p : Value} (h : NoInv w p) : Gives 20 #[p] w (.slice none 0 0) := by
  unfold Gives
  have H := Lib.hid h; clear h
  go_enter Try.func20, Try.ntmps20
  go_wp2_with (go_at_call 44; refine Gives.then (H.out _ (by go_grown)) ?_; intro w1 hb)
  go_returns
  exact ⟨rfl, hb⟩
theorem no_sounds {w : World} {p : Value} (h : NoInv w p) : Gives 27 #[p] w (.slice none 0 0) := by
  unfold Gives
  have H := Lib.hid h; clear h
  go_enter Try.func27, Try.ntmps27
  go_wp2_with (go_at_call 44; refine Gives.then (H.out _ (by go_grown)) ?_; intro w1 hb)
  go_returns
  exact ⟨rfl, hb⟩
theorem no_copy {w : World} {p : Value} (h : NoInv w p) : Gives 36 #[p] w (.pointer none) := by
  unfold Gives
  have H := Lib.hid h; clear h
  go_enter Try.func36, Try.ntmps36
  go_wp2_with (go_at_call 44; refine Gives.then (H.out _ (by go_grown)) ?_; intro w1 hb)
  go_returns
  exact ⟨rfl, hb⟩
theorem no_feat {w : World} {p : Value} (h : NoInv w p) (k : ByteArray) : Gives 18 #[p, .string k] w (.tuple #[.int .i64 0, .bool false]) := by
  unfold Gives
  have H := Lib.hid h; clear h
  go_enter Try.func18, Try.ntmps18
  go_wp2_with (go_at_call 44; refine Gives.then (H.out _ (by go_grown)) ?_; intro w1 hb)
  go_ret2
  exact ⟨rfl, hb⟩
theorem no_symbol {w : World} {p : Value} (h : NoInv w p) (s : Snd) : Gives 34 #[p, snv s] w (.tuple #[.string ⟨#[]⟩, .bool false]) := by
  unfold Gives snv
  have H := Lib.hid h; clear h
  go_enter Try.func34, Try.ntmps34
  go_wp2_with (go_at_call 44; refine Gives.then (H.out _ (by go_grown)) ?_; intro w1 hb)
  go_ret2
  exact ⟨rfl, by have hq := (Below.refl w.heap.size w).alloc (Nat.le_refl _) (.cells #[.int .u32 (s.1.toNat : Int), .int .u32 (s.2.toNat : Int)] 39); exact hq.trans (hb.mono hq.size)⟩
theorem no_longest {w : World} {p : Value} (h : NoInv w p) (k : ByteArray) : Gives 35 #[p, .string k] w (.tuple #[.string ⟨#[]⟩, .bool false]) := by
  unfold Gives
  have H := Lib.hid h; clear h
  go_enter Try.func35, Try.ntmps35
  go_wp2_with (go_at_call 44; refine Gives.then (H.out _ (by go_grown)) ?_; intro w1 hb)
  go_ret2
  exact ⟨rfl, hb⟩
theorem no_text {w : World} {p : Value} (h : NoInv w p) (s : Snd) : Gives 31 #[p, snv s] w (.tuple #[.string ⟨#[]⟩, .int .i64 1]) := by
  unfold Gives snv
  have H := Lib.hid h; clear h
  go_enter Try.func31, Try.ntmps31
  go_wp2_with (go_at_call 44; refine Gives.then (H.out _ (by go_grown)) ?_; intro w1 hb)
  go_ret2
  exact ⟨rfl, by have hq := (Below.refl w.heap.size w).alloc (Nat.le_refl _) (.cells #[.int .u32 (s.1.toNat : Int), .int .u32 (s.2.toNat : Int)] 39); exact hq.trans (hb.mono hq.size)⟩
theorem no_add {w : World} {p : Value} (h : NoInv w p) (k : ByteArray) (s : Snd) : Gives 23 #[p, .string k, snv s] w (.int .i64 1) := by
  unfold Gives snv
  have H := Lib.hid h; clear h
  go_enter Try.func23, Try.ntmps23
  go_wp2_with (go_at_call 44; refine Gives.then (H.out _ (by go_grown)) ?_; intro w1 hb)
  go_returns
  exact ⟨rfl, by have hq := (Below.refl w.heap.size w).alloc (Nat.le_refl _) (.cells #[.int .u32 (s.1.toNat : Int), .int .u32 (s.2.toNat : Int)] 39); exact hq.trans (hb.mono hq.size)⟩
theorem no_sound {w : World} {p : Value} (h : NoInv w p) (k : ByteArray) : Gives 33 #[p, .string k] w (.tuple #[.agg #[.int .u32 0, .int .u32 0], .bool false]) := by
  unfold Gives
  have H := Lib.hid h; clear h
  go_enter Try.func33, Try.ntmps33
  go_wp2_with fail
  go_at_call 44
  refine Gives.then (H.out _ (by go_grown)) ?_
  intro w1 hb
  have hw1 := ((Below.refl w.heap.size w).alloc (Nat.le_refl _) (.cells #[.int .u32 0, .int .u32 0] 39)).trans (hb.mono (by simp))
  have r0 := (hb.cell (p := ⟨w.heap.size, 0, none⟩) (by simp)).trans (cell_block (World.alloc_heap_new w _) rfl)
  have r1 := (hb.cell (p := ⟨w.heap.size, 1, none⟩) (by simp)).trans (cell_block (World.alloc_heap_new w _) rfl)
  have f0 := (hb.frozen (p := ⟨w.heap.size, 0, none⟩) (by simp)).trans (frozen_block (World.alloc_heap_new w _))
  have f1 := (hb.frozen (p := ⟨w.heap.size, 1, none⟩) (by simp)).trans (frozen_block (World.alloc_heap_new w _))
  clear hb
  go_wp2_with fail
  refine bodyPost_ret (v := .tuple #[.agg #[.int .u32 0, .int .u32 0], .bool false]) ?_ rfl ⟨rfl, by go_grown⟩
  have e0 : ((w1.setCell ⟨w.heap.size, 0, none⟩ (.int .u32 0)).setCell ⟨w.heap.size, 1, none⟩ (.int .u32 0)).cell? ⟨w.heap.size, 0, none⟩ = some (.int .u32 0) := by go_cell
  have e1 : ((w1.setCell ⟨w.heap.size, 0, none⟩ (.int .u32 0)).setCell ⟨w.heap.size, 1, none⟩ (.int .u32 0)).cell? ⟨w.heap.size, 1, none⟩ = some (.int .u32 0) := by go_cell
  simp [results, Try.results33, go_sem, e0, e1]
end Go.Proofs.Ytmgikhldkebjbaa
