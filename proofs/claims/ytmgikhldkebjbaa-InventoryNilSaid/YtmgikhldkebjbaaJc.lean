/-
  InventoryNil: the walk.
-/
import Derived.Test.YtmgikhldkebjbaaJb
import Derived.Test.YtmgikhldkebjbaaIs
namespace Go.Proofs.Ytmgikhldkebjbaa
open Go.RowKit Go.Shelf Go.Sort
theorem wp_gen2 {P : Program} {c : Code} {Q : Exit → Act → World → Prop} {a : Act} {W : World} (h : ∀ W1, W1 = W → c.wp P Q a W1) : c.wp P Q a W := h W rfl
set_option maxRecDepth 100000 in
set_option maxHeartbeats 4000000 in
theorem nil_any (k : ByteArray) (s : Snd) (w0 : World) (hk : k.size ≤ 9223372036854775807) : Gives 7 #[.string k, snv s] w0 (.bool true) := by
  unfold Gives snv
  by_cases hlen : 1000 < k.size
  · have g1 : decide (1000 < k.size) = true := decide_eq_true hlen
    have g2 : decide ((1000 : Int) < (k.size : Int)) = true := decide_eq_true (by omega)
    clear hlen
    go_enter Try.func7, Try.ntmps7
    go_wp2_with (go_at_call 14; refine Gives.then (works_any _) ?_; intro w1 hb)
    have hq := (Below.refl w0.heap.size w0).alloc (Nat.le_refl _) (.cells #[.int .u32 (s.1.toNat : Int), .int .u32 (s.2.toNat : Int)] 39)
    go_returns
    exact ⟨rfl, hq.trans (hb.mono hq.size)⟩
  · have g1 : decide (1000 < k.size) = false := decide_eq_false hlen
    have g2 : decide ((1000 : Int) < (k.size : Int)) = false := decide_eq_false (by omega)
    clear hlen
    go_enter Try.func7, Try.ntmps7
    go_wp2_with fail
    refine wp_gen2 ?_
    intro W0 hW0
    have hw0 : Below w0.heap.size w0 W0 := by rw [hW0]; go_grown
    have hz0 : W0.heap.size = w0.heap.size + 3 := by rw [hW0]; simp only [World.size_alloc]
    have b0 : W0.cell? ⟨w0.heap.size, 0, none⟩ = some (.int .u32 (s.1.toNat : Int)) := by rw [hW0]; go_cell
    have b1 : W0.cell? ⟨w0.heap.size, 1, none⟩ = some (.int .u32 (s.2.toNat : Int)) := by rw [hW0]; go_cell
    have b2 : W0.cell? ⟨w0.heap.size + 1, 0, none⟩ = some (.pointer none) := by rw [hW0]; go_cell
    have b3 : W0.cell? ⟨w0.heap.size + 1 + 1, 0, none⟩ = some (.pointer none) := by rw [hW0]; go_cell
    have b4 : W0.cell? ⟨w0.heap.size + 1 + 1, 1, none⟩ = some (.pointer (some ⟨w0.heap.size + 1, 0, none⟩)) := by rw [hW0]; go_cell
    clear hW0 g1 g2
    have HB := Lib.hid (show (∀ o, W0.cell? ⟨w0.heap.size, o, none⟩ = W0.cell? ⟨w0.heap.size, o, none⟩) from fun _ => rfl)
    clear HB
    go_loopw [29] (fun i wr => ∃ n : Nat, n ≤ 2 ∧ i = .int .i64 (n : Int) ∧ Below W0.heap.size W0 wr) (fun i _ => 2 - (intOf i).toNat)
    case atStart => exact ⟨0, by omega, rfl, Below.refl _ _⟩
    case round =>
      obtain ⟨n, hn, rfl, hwr⟩ := hrel
      have hzr := hwr.size
      by_cases hlt : n < 2
      · obtain ⟨q, hcell, hN⟩ : ∃ q, wr.cell? ⟨w0.heap.size + 1 + 1, n, none⟩ = some (.pointer q) ∧ NoInv wr (.pointer q) := by
          have hn2 : n = 0 ∨ n = 1 := by omega
          rcases hn2 with rfl | rfl
          · exact ⟨none, (hwr.cell (p := ⟨w0.heap.size + 1 + 1, 0, none⟩) (by simp only []; omega)).trans b3, noInv_nil _⟩
          · exact ⟨_, (hwr.cell (p := ⟨w0.heap.size + 1 + 1, 1, none⟩) (by simp only []; omega)).trans b4, noInv_zero (by omega) ((hwr.cell (p := ⟨w0.heap.size + 1, 0, none⟩) (by simp only []; omega)).trans b2)⟩
        have c0 := (hwr.cell (p := ⟨w0.heap.size, 0, none⟩) (by simp only []; omega)).trans b0
        have c1 := (hwr.cell (p := ⟨w0.heap.size, 1, none⟩) (by simp only []; omega)).trans b1
        have hl0 : w0.heap.size < wr.heap.size := by omega
        have HN := Lib.hid (fun (W : World) (h : Below wr.heap.size wr W) => hN.below h)
        have HWR := Lib.hid hwr
        clear b0 b1 b2 b3 b4 hN hwr
        obtain ⟨w, hww⟩ : ∃ w, w = wr := ⟨_, rfl⟩
        subst hww
        go_wp2_with fail
        go_at_call 33
        refine Gives.then (no_sound (HN.out _ (Below.refl _ _)) k) ?_
        intro w1 hb
        have hw := hb
        have hz1 := hb.size
        clear hb
        have r0 : w1.cell? ⟨w0.heap.size, 0, none⟩ = some (.int .u32 (s.1.toNat : Int)) := (hw.cell (p := ⟨w0.heap.size, 0, none⟩) hl0).trans c0
        have s0 := fun X => cell_past (X := X) (Nat.lt_of_lt_of_le hl0 hw.size) r0
        have r1 : w1.cell? ⟨w0.heap.size, 1, none⟩ = some (.int .u32 (s.2.toNat : Int)) := (hw.cell (p := ⟨w0.heap.size, 1, none⟩) hl0).trans c1
        have s1 := fun X => cell_past (X := X) (Nat.lt_of_lt_of_le hl0 hw.size) r1
        go_wp2_with fail
        go_at_call 34
        have hw1 : Below w.heap.size w (w1.alloc (.cells #[.int .u32 0, .int .u32 0] 39)) := hw.alloc hz1 _
        refine Gives.then (no_symbol (HN.out _ hw1) s) ?_
        intro w2 hb
        have x0 := (hb.cell (p := ⟨w1.heap.size, 0, none⟩) (by simp)).trans (cell_block (World.alloc_heap_new w1 _) rfl)
        have x1 := (hb.cell (p := ⟨w1.heap.size, 1, none⟩) (by simp)).trans (cell_block (World.alloc_heap_new w1 _) rfl)
        have lx : w1.heap.size < w2.heap.size := by have := hb.size; rw [World.size_alloc] at this; omega
        have hw := hw1.trans (hb.mono hw1.size)
        clear hb hw1 s0 s1 r0 r1
        generalize w1.heap.size = B8 at *
        have r0 : w2.cell? ⟨w0.heap.size, 0, none⟩ = some (.int .u32 (s.1.toNat : Int)) := (hw.cell (p := ⟨w0.heap.size, 0, none⟩) hl0).trans c0
        have s0 := fun X => cell_past (X := X) (Nat.lt_of_lt_of_le hl0 hw.size) r0
        have r1 : w2.cell? ⟨w0.heap.size, 1, none⟩ = some (.int .u32 (s.2.toNat : Int)) := (hw.cell (p := ⟨w0.heap.size, 1, none⟩) hl0).trans c1
        have s1 := fun X => cell_past (X := X) (Nat.lt_of_lt_of_le hl0 hw.size) r1
        go_wp2_with fail
        go_at_call 18
        refine Gives.then (no_feat (HN.out _ hw) k) ?_
        intro w3 hb
        have x0 := (hb.cell (p := ⟨B8, 0, none⟩) lx).trans x0
        have x1 := (hb.cell (p := ⟨B8, 1, none⟩) lx).trans x1
        have lx := Nat.lt_of_lt_of_le lx hb.size
        have hw := hw.trans (hb.mono hw.size)
        clear hb s0 s1 r0 r1
        have r0 : w3.cell? ⟨w0.heap.size, 0, none⟩ = some (.int .u32 (s.1.toNat : Int)) := (hw.cell (p := ⟨w0.heap.size, 0, none⟩) hl0).trans c0
        have s0 := fun X => cell_past (X := X) (Nat.lt_of_lt_of_le hl0 hw.size) r0
        have r1 : w3.cell? ⟨w0.heap.size, 1, none⟩ = some (.int .u32 (s.2.toNat : Int)) := (hw.cell (p := ⟨w0.heap.size, 1, none⟩) hl0).trans c1
        have s1 := fun X => cell_past (X := X) (Nat.lt_of_lt_of_le hl0 hw.size) r1
        go_wp2_with fail
        go_at_call 35
        refine Gives.then (no_longest (HN.out _ hw) k) ?_
        intro w4 hb
        have x0 := (hb.cell (p := ⟨B8, 0, none⟩) lx).trans x0
        have x1 := (hb.cell (p := ⟨B8, 1, none⟩) lx).trans x1
        have lx := Nat.lt_of_lt_of_le lx hb.size
        have hw := hw.trans (hb.mono hw.size)
        clear hb s0 s1 r0 r1
        have r0 : w4.cell? ⟨w0.heap.size, 0, none⟩ = some (.int .u32 (s.1.toNat : Int)) := (hw.cell (p := ⟨w0.heap.size, 0, none⟩) hl0).trans c0
        have s0 := fun X => cell_past (X := X) (Nat.lt_of_lt_of_le hl0 hw.size) r0
        have r1 : w4.cell? ⟨w0.heap.size, 1, none⟩ = some (.int .u32 (s.2.toNat : Int)) := (hw.cell (p := ⟨w0.heap.size, 1, none⟩) hl0).trans c1
        have s1 := fun X => cell_past (X := X) (Nat.lt_of_lt_of_le hl0 hw.size) r1
        go_wp2_with fail
        go_at_call 29
        refine Gives.then (no_bundle (HN.out _ hw) k) ?_
        intro w5 hb
        have x0 := (hb.cell (p := ⟨B8, 0, none⟩) lx).trans x0
        have x1 := (hb.cell (p := ⟨B8, 1, none⟩) lx).trans x1
        have lx := Nat.lt_of_lt_of_le lx hb.size
        have hw := hw.trans (hb.mono hw.size)
        clear hb s0 s1 r0 r1
        have r0 : w5.cell? ⟨w0.heap.size, 0, none⟩ = some (.int .u32 (s.1.toNat : Int)) := (hw.cell (p := ⟨w0.heap.size, 0, none⟩) hl0).trans c0
        have s0 := fun X => cell_past (X := X) (Nat.lt_of_lt_of_le hl0 hw.size) r0
        have r1 : w5.cell? ⟨w0.heap.size, 1, none⟩ = some (.int .u32 (s.2.toNat : Int)) := (hw.cell (p := ⟨w0.heap.size, 1, none⟩) hl0).trans c1
        have s1 := fun X => cell_past (X := X) (Nat.lt_of_lt_of_le hl0 hw.size) r1
        have hz5 := hw.size
        go_wp2_with fail
        go_at_call 31
        have hw1 : Below w.heap.size w (w5.alloc (.cells #[.int .u32 0, .int .u32 0] 39)) := hw.alloc hz5 _
        refine Gives.then (no_text (HN.out _ hw1) s) ?_
        intro w6 hb
        have x0 := (hb.cell (p := ⟨B8, 0, none⟩) (by simp only [World.size_alloc]; omega)).trans (cell_past lx x0)
        have x1 := (hb.cell (p := ⟨B8, 1, none⟩) (by simp only [World.size_alloc]; omega)).trans (cell_past lx x1)
        have y0 := (hb.cell (p := ⟨w5.heap.size, 0, none⟩) (by simp)).trans (cell_block (World.alloc_heap_new w5 _) rfl)
        have y1 := (hb.cell (p := ⟨w5.heap.size, 1, none⟩) (by simp)).trans (cell_block (World.alloc_heap_new w5 _) rfl)
        have hw := hw1.trans (hb.mono hw1.size)
        clear hb hw1 s0 s1 r0 r1 lx
        generalize w5.heap.size = B16 at *
        have r0 : w6.cell? ⟨w0.heap.size, 0, none⟩ = some (.int .u32 (s.1.toNat : Int)) := (hw.cell (p := ⟨w0.heap.size, 0, none⟩) hl0).trans c0
        have s0 := fun X => cell_past (X := X) (Nat.lt_of_lt_of_le hl0 hw.size) r0
        have r1 : w6.cell? ⟨w0.heap.size, 1, none⟩ = some (.int .u32 (s.2.toNat : Int)) := (hw.cell (p := ⟨w0.heap.size, 1, none⟩) hl0).trans c1
        have s1 := fun X => cell_past (X := X) (Nat.lt_of_lt_of_le hl0 hw.size) r1
        clear s0 s1
        go_wp2_with fail
        go_at_call 23
        refine Gives.then (no_add (HN.out _ hw) k s) ?_
        intro w7 hb
        have hw := hw.trans (hb.mono hw.size)
        clear hb x0 x1 y0 y1 r0 r1
        go_wp2_with fail
        go_at_call 22
        refine Gives.then (no_len (HN.out _ hw)) ?_
        intro w8 hb
        have hw := hw.trans (hb.mono hw.size)
        clear hb
        go_wp2_with fail
        go_at_call 20
        refine Gives.then (no_feats (HN.out _ hw)) ?_
        intro w9 hb
        have hw := hw.trans (hb.mono hw.size)
        clear hb
        go_wp2_with fail
        go_at_call 27
        refine Gives.then (no_sounds (HN.out _ hw)) ?_
        intro w10 hb
        have hw := hw.trans (hb.mono hw.size)
        clear hb
        go_wp2_with fail
        go_at_call 36
        refine Gives.then (no_copy (HN.out _ hw)) ?_
        intro w11 hb
        have hw := hw.trans (hb.mono hw.size)
        clear hb
        have HW := Lib.hid hw
        clear hw
        go_wp2_with fail
        go_roundw
        case rel => exact ⟨n + 1, by omega, by go_num, HWR.out.trans (HW.out.mono HWR.out.size)⟩
        case measure => simp [intOf]; omega
      · obtain rfl : n = 2 := by omega
        have HWR := Lib.hid hwr
        clear hwr hzr b0 b1 b2 b3 b4
        go_wp2_with (go_at_call 14; refine Gives.then (works_any _) ?_; intro w1 hb)
        go_returns
        exact ⟨rfl, hw0.trans ((HWR.out.mono hw0.size).trans (hb.mono (Nat.le_trans hw0.size HWR.out.size)))⟩
end Go.Proofs.Ytmgikhldkebjbaa
