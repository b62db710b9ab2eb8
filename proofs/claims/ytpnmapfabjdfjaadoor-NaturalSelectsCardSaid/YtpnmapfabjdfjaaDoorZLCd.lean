/-
  Lemmas that the theorem of this claim rests on: 1 texts, one behind the other.
-/
import Derived.Test.YtpnmapfabjdfjaaDoorM19
set_option linter.unusedSimpArgs false
set_option linter.unusedVariables false

/-
  NaturalSelects.
-/
namespace Go.Proofs.YtpnmapfabjdfjaaDoor
open Go.RowKit Go.Sort
set_option maxRecDepth 100000 in
set_option maxHeartbeats 4000000 in
theorem selects_any (l : List Snd) (c : Snd) (v : Value) (w : World) (h : Wd w v l) (hT : Tab w) (lT : 0 < w.heap.size) : Gives 4 #[v, .agg #[.int .u32 (c.1.toNat : Int), .int .u32 (c.2.toNat : Int)]] w (.bool true) := by
  have HWK : ∀ W, Below w.heap.size w W → Gives 14 #[] W (.bool true) := fun W hb => works_any W (hT.below hb lT) (Nat.lt_of_lt_of_le lT hb.size)
  have hb0 := (Below.refl w.heap.size w).alloc (Nat.le_refl _) (.cells #[.int .u32 (c.1.toNat : Int), .int .u32 (c.2.toNat : Int)] 27)
  have k0 := World.alloc_heap_new w (.cells #[.int .u32 (c.1.toNat : Int), .int .u32 (c.2.toNat : Int)] 27)
  have hfew := few_any l v _ (h.below hb0)
  have hsel := fun (W : World) (hb : Below w.heap.size w W) => select_any l c v W (h.below hb)
  have hrsel := fun (W : World) (hb : Below w.heap.size w W) => rselect_any l c v W (h.below hb)
  have hslice : ∃ ao cap, v = .slice ao l.length cap := by
    obtain ⟨ao, cap, e, -⟩ := h.open
    exact ⟨ao, cap, e⟩
  obtain ⟨ao, cap, rfl⟩ := hslice
  unfold Gives
  generalize hM : selM l c = M at *
  generalize hE : selE l c = E at *
  have lw : w.heap.size < (w.alloc (.cells #[.int .u32 (c.1.toNat : Int), .int .u32 (c.2.toNat : Int)] 27)).heap.size := by rw [World.size_alloc]; omega
  have HF := Lib.hid hfew; have HS := Lib.hid hsel; have HR := Lib.hid hrsel; have K0 := Lib.hid k0; have HB0 := Lib.hid hb0; have HWK := Lib.hid HWK
  clear hM hE hfew hsel hrsel k0 hb0 h hT lT
  generalize l.length = n at *
  obtain ⟨p, m⟩ := c
  simp only at HF HS HR K0 HB0 lw
  rcases hfw : fewB n with _ | _
  · rw [hfw] at HF
    clear hfw HS HR
    go_enter Tryd.func4, Tryd.ntmps4
    go_wp2_with fail
    go_at_call 13
    refine Gives.then HF.out ?_
    intro w1 hb1
    have HW1 := Lib.hid (HB0.out.trans (hb1.mono HB0.out.size))
    clear hb1
    go_wp2_with fail
    go_at_call 14
    refine Gives.then (HWK.out _ HW1.out) ?_
    intro w2 hb2
    have HW2 := Lib.hid (HW1.out.trans (hb2.mono HW1.out.size))
    clear hb2
    go_wp2_with fail
    go_returns
    exact ⟨rfl, HW2.out⟩
  · rw [hfw] at HF
    clear hfw
    go_enter Tryd.func4, Tryd.ntmps4
    go_wp2_with fail
    go_at_call 13
    refine Gives.then HF.out ?_
    intro w1 hb1
    have r1 := (hb1.block _ lw).trans K0.out
    have lw1 := Nat.lt_of_lt_of_le lw hb1.size
    have e0 := cell_block r1 (o := 0) rfl
    have e1 := cell_block r1 (o := 1) rfl
    have HW1 := Lib.hid (HB0.out.trans (hb1.mono HB0.out.size))
    have R1 := Lib.hid r1
    clear r1 hb1 lw
    go_wp2_with fail
    go_at_call 23
    refine (HS.out _ HW1.out).mono ?_
    rintro e w2 ⟨v2, rfl, ho2, hb2⟩
    obtain ⟨a2, c2, rfl⟩ := ho2.slice
    have r2 := (hb2.block _ lw1).trans R1.out
    have lw2 := Nat.lt_of_lt_of_le lw1 hb2.size
    have e0 := cell_block r2 (o := 0) rfl
    have e1 := cell_block r2 (o := 1) rfl
    have HW2 := Lib.hid (HW1.out.trans (hb2.mono HW1.out.size))
    have HO2 := Lib.hid ho2.is
    clear r2 hb2 ho2
    go_wp2_with fail
    go_at_call 24
    refine (HR.out _ HW2.out).mono ?_
    rintro e w3 ⟨v3, rfl, ho3, hb3⟩
    obtain ⟨a3, c3, rfl⟩ := ho3.slice
    have HW3 := Lib.hid (HW2.out.trans (hb3.mono HW2.out.size))
    have HO2 := Lib.hid (HO2.out.below hb3)
    have HO3 := Lib.hid ho3.is
    have heq := equal_any M M _ _ w3 HO2.out HO3.out
    rw [decide_eq_true rfl] at heq
    have HEQ := Lib.hid heq
    clear hb3 ho3 heq
    go_wp2_with fail
    go_at_call 21
    refine Gives.then HEQ.out ?_
    intro w4 hb4
    have HW4 := Lib.hid (HW3.out.trans (hb4.mono HW3.out.size))
    clear hb4
    go_wp2_with fail
    go_at_call 14
    refine Gives.then (HWK.out _ HW4.out) ?_
    intro w5 hb5
    have HW5 := Lib.hid (HW4.out.trans (hb5.mono HW4.out.size))
    clear hb5
    go_wp2_with fail
    go_returns
    exact ⟨rfl, HW5.out⟩
end Go.Proofs.YtpnmapfabjdfjaaDoor
