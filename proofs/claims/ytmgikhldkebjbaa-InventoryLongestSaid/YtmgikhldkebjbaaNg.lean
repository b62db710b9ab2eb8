/-
  InventoryBundles: the walk.
-/
import Derived.Test.YtmgikhldkebjbaaNf
namespace Go.Proofs.Ytmgikhldkebjbaa
open Go.RowKit Go.Shelf Go.Sort
theorem both_bundle {w : World} {base : Nat} {l : List ByteArray} {pv pr : Value} (h : Both w base l pv pr) (t : ByteArray) (ht : t.size ≤ 1000000000) : ∃ (x y e : Int), ∀ W, Below w.heap.size w W →
    Gives 29 #[pv, .string t] W (.tuple #[.agg #[.int .u32 x, .int .u32 y], .int .i64 e]) ∧ Gives 30 #[pr, .string t] W (.tuple #[.agg #[.int .u32 x, .int .u32 y], .int .i64 e]) := by
  rcases h with ⟨_, rfl, rfl⟩ | ⟨h0, B, R, nv, bf, bs, by_, rv, rfl, rfl, hI, hR⟩
  · exact ⟨0, 0, 1, fun W hb => ⟨no_bundle (noInv_nil W) t, rbundle_nil t W⟩⟩
  · have key : ∃ (x y e : Int), bunV (bunS l t) = .tuple #[.agg #[.int .u32 x, .int .u32 y], .int .i64 e] := by
      cases bunS l t with
      | none => exact ⟨_, _, _, rfl⟩
      | some s => exact ⟨_, _, _, rfl⟩
    obtain ⟨x, y, e, he⟩ := key
    refine ⟨x, y, e, fun W hb => ?_⟩
    have h1 := bundle_any (hI.below hb) (newE_len h0) t (by omega)
    have h2 := rbundle_any (hR.below hb) (newE_nodup h0) (newE_len h0) t ht
    rw [he] at h1 h2
    exact ⟨h1, h2⟩
set_option maxRecDepth 100000 in
set_option maxHeartbeats 8000000 in
theorem bundles_any (l : List ByteArray) (v : Value) (t : ByteArray) (w : World) (hx : ∀ x ∈ l, x.size ≤ maxLen) (ht : t.size ≤ 1000000000) (h : Ss w v l) : Gives 5 #[v, .string t] w (.bool true) := by
  unfold Gives
  have hb0 := (Below.refl w.heap.size w).alloc (Nat.le_refl _) (.cells #[.string t] 9)
  have hfew := few_some l [t] v (.slice (some ⟨w.heap.size, 0, none⟩) 1 1) _ (h.below hb0) (ss_one w t) hx (fun x hh => by
    obtain rfl : x = t := by simpa using hh
    unfold maxLen; omega)
  have hboth := fun (W : World) (hb : Below w.heap.size w W) => both_any l v W hx (h.below hb)
  obtain ⟨ao, cap, rfl, -, -, -⟩ := h.open
  have HF := Lib.hid hfew; have HBo := Lib.hid hboth
  clear hfew hboth h hx
  go_enter Try.func5, Try.ntmps5
  go_wp2_with fail
  go_at_call 13
  refine HF.out.mono ?_
  rintro e w1 ⟨F, rfl, hF, hb⟩
  have hw := hb0.trans (hb.mono hb0.size)
  clear hb hb0 HF hF
  cases F
  · go_wp2_with (go_at_call 14; refine Gives.then (works_any _) ?_; intro w2 hb2)
    go_returns
    exact ⟨rfl, hw.trans (hb2.mono hw.size)⟩
  · go_wp2_with fail
    go_at_call 16
    refine (HBo.out w1 hw).mono ?_
    rintro e w3 ⟨hb3, pv, pr, rfl, hBB⟩
    have hw3 := hw.trans (hb3.mono hw.size)
    obtain ⟨x, y, e, hbu⟩ := both_bundle hBB t ht
    obtain ⟨⟨qv, rfl⟩, ⟨qr, rfl⟩⟩ := hBB.ptrs
    have HBU := Lib.hid hbu; have HW3 := Lib.hid hw3
    clear hb3 hBB hbu hw3 hw HBo
    go_wp2_with fail
    go_at_call 29
    refine Gives.then (HBU.out w3 (Below.refl _ _)).1 ?_
    intro w4 hb4
    have hz4 := hb4.size
    have HB4 := Lib.hid (hb4.alloc hz4 (.cells #[.int .u32 x, .int .u32 y] 39))
    clear hb4
    go_wp2_with fail
    go_at_call 30
    refine Gives.then (HBU.out _ HB4.out).2 ?_
    intro w5 hb5
    have r0 := (hb5.cell (p := ⟨w4.heap.size, 0, none⟩) (by simp)).trans (cell_block (World.alloc_heap_new w4 _) rfl)
    have r1 := (hb5.cell (p := ⟨w4.heap.size, 1, none⟩) (by simp)).trans (cell_block (World.alloc_heap_new w4 _) rfl)
    have lw5 : w4.heap.size < w5.heap.size := by have := hb5.size; rw [World.size_alloc] at this; omega
    have HB5 := Lib.hid (HB4.out.trans (hb5.mono HB4.out.size))
    have s0 := fun X => cell_past (X := X) lw5 r0
    have s1 := fun X => cell_past (X := X) lw5 r1
    have hz5 := HB5.out.size
    clear hb5 HB4 HBU
    go_wp2_with (go_at_call 14; refine Gives.then (works_any _) ?_; intro w6 hb6)
    have hw5 := HW3.out.trans ((HB5.out.alloc hz5 (.cells #[.int .u32 x, .int .u32 y] 39)).mono HW3.out.size)
    go_returns
    exact ⟨rfl, hw5.trans (hb6.mono hw5.size)⟩
end Go.Proofs.Ytmgikhldkebjbaa
