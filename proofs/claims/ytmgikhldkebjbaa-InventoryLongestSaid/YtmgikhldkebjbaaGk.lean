/-
  InventoryTexts: the walk.
-/
import Derived.Test.YtmgikhldkebjbaaGj
import Derived.Test.YtmgikhldkebjbaaIs
import Derived.Test.YtmgikhldkebjbaaJb
namespace Go.Proofs.Ytmgikhldkebjbaa
open Go.RowKit Go.Shelf Go.Sort
attribute [local go_sem] bv_and bv_or ofInt32_nat
set_option maxHeartbeats 1000000 in
theorem text_bad {w : World} {base B : Nat} {l : List ByteArray} {a : List (ByteArray × Snd)} {nv av : Value} {bf bs by_ : Nat} (h : Inv w base B l a nv av bf bs by_) (hl : l.length ≤ 24) (s : Snd) (hs : hasB l.length s = false) : Gives 31 #[.pointer (some ⟨B, 0, none⟩), snv s] w (.tuple #[.string ⟨#[]⟩, .int .i64 14]) := by
  unfold Gives
  have hv := fun (W : World) (hb : Below w.heap.size w W) => valid_yes B W (h.below hb).cells.1
  have hh := fun (W : World) (hb : Below w.heap.size w W) => has_any (h.below hb) s hl
  rw [hs] at hh
  unfold snv at *
  have HV := Lib.hid hv; have HH := Lib.hid hh
  have hb0 := (Below.refl w.heap.size w).alloc (Nat.le_refl _) (.cells #[.int .u32 (s.1.toNat : Int), .int .u32 (s.2.toNat : Int)] 39)
  clear h hv hh hs
  go_enter Try.func31, Try.ntmps31
  go_wp2_with fail
  go_at_call 44
  refine Gives.then (HV.out _ hb0) ?_
  intro w1 hb
  have hw := hb0.trans (hb.mono hb0.size)
  have r0 := (hb.cell (p := ⟨w.heap.size, 0, none⟩) (by simp)).trans (cell_block (World.alloc_heap_new w _) rfl)
  have r1 := (hb.cell (p := ⟨w.heap.size, 1, none⟩) (by simp)).trans (cell_block (World.alloc_heap_new w _) rfl)
  clear hb hb0
  go_wp2_with fail
  go_at_call 47
  refine Gives.then (HH.out _ hw) ?_
  intro w2 hb2
  have hw2 := hw.trans (hb2.mono hw.size)
  clear hb2 hw
  go_wp2_with fail
  go_ret2
  exact ⟨rfl, hw2⟩
theorem text_all {w : World} {base B : Nat} {l : List ByteArray} {a : List (ByteArray × Snd)} {nv av : Value} {bf bs by_ : Nat} (h : Inv w base B l a nv av bf bs by_) (hl : l.length ≤ 24) (hx : ∀ x ∈ l, x.size ≤ 16) (s : Snd) : Gives 31 #[.pointer (some ⟨B, 0, none⟩), snv s] w (txtV l s) := by
  unfold txtV
  by_cases hs : hasB l.length s = true
  · rw [if_pos hs]
    refine text_any h hl s hs (fun x hh => Nat.le_trans (hx x hh) (by decide)) ?_
    have h1 := joinS_size (txtL s 0 l) ⟨#[32]⟩ (by decide) (fun x hh => (txtL_items s l 0 hx x hh).2)
    have h2 := txtL_le s l 0
    unfold txtS
    omega
  · rw [if_neg hs]
    exact text_bad h hl s (by simpa using hs)
theorem rtext_nil (s : Snd) (w : World) : Gives 32 #[.pointer none, snv s] w (.tuple #[.string ⟨#[]⟩, .int .i64 1]) := by
  unfold Gives snv
  go_enter Try.func32, Try.ntmps32
  go_wp2_with (go_at_call 45; refine Gives.then (rmade_nil _) ?_; intro w1 hb)
  have hb0 := (Below.refl w.heap.size w).alloc (Nat.le_refl _) (.cells #[.int .u32 (s.1.toNat : Int), .int .u32 (s.2.toNat : Int)] 39)
  go_ret2
  exact ⟨rfl, hb0.trans (hb.mono hb0.size)⟩
/-- What Text returns of what both returned. -/
theorem both_text {w : World} {base : Nat} {l : List ByteArray} {pv pr : Value} (h : Both w base l pv pr) (s : Snd) : ∃ (t : ByteArray) (e : Int), ∀ W, Below w.heap.size w W →
    Gives 31 #[pv, snv s] W (.tuple #[.string t, .int .i64 e]) ∧ Gives 32 #[pr, snv s] W (.tuple #[.string t, .int .i64 e]) := by
  rcases h with ⟨_, rfl, rfl⟩ | ⟨h0, B, R, nv, bf, bs, by_, rv, rfl, rfl, hI, hR⟩
  · exact ⟨⟨#[]⟩, 1, fun W hb => ⟨no_text (noInv_nil W) s, rtext_nil s W⟩⟩
  · have hl := newE_len h0
    have hx := newE_size h0
    by_cases hs : hasB l.length s = true
    · refine ⟨txtS l s, 0, fun W hb => ?_⟩
      have h1 := text_all (hI.below hb) hl hx s
      have h2 := rtext_any (hR.below hb) hl hx s
      unfold txtV at h1 h2
      rw [if_pos hs] at h1 h2
      exact ⟨h1, h2⟩
    · refine ⟨⟨#[]⟩, 14, fun W hb => ?_⟩
      have h1 := text_all (hI.below hb) hl hx s
      have h2 := rtext_any (hR.below hb) hl hx s
      unfold txtV at h1 h2
      rw [if_neg hs] at h1 h2
      exact ⟨h1, h2⟩
theorem Both.ptrs {w : World} {base : Nat} {l : List ByteArray} {pv pr : Value} (h : Both w base l pv pr) : (∃ q, pv = .pointer q) ∧ ∃ q, pr = .pointer q := by
  rcases h with ⟨_, rfl, rfl⟩ | ⟨h0, B, R, nv, bf, bs, by_, rv, rfl, rfl, hI, hR⟩
  · exact ⟨⟨_, rfl⟩, ⟨_, rfl⟩⟩
  · exact ⟨⟨_, rfl⟩, ⟨_, rfl⟩⟩
theorem ss_nil (w : World) : Ss w (.slice none 0 0) [] := .inl ⟨rfl, rfl⟩
set_option maxRecDepth 100000 in
set_option maxHeartbeats 4000000 in
theorem texts_any (l : List ByteArray) (v : Value) (s : Snd) (w : World) (hx : ∀ x ∈ l, x.size ≤ maxLen) (h : Ss w v l) : Gives 6 #[v, snv s] w (.bool true) := by
  unfold Gives snv
  have hb0 := (Below.refl w.heap.size w).alloc (Nat.le_refl _) (.cells #[.int .u32 (s.1.toNat : Int), .int .u32 (s.2.toNat : Int)] 39)
  have hfew := fun (W : World) (hb : Below w.heap.size w W) => few_some l [] v (.slice none 0 0) W (h.below hb) (ss_nil W) hx (fun x hh => by cases hh)
  have hboth := fun (W : World) (hb : Below w.heap.size w W) => both_any l v W hx (h.below hb)
  obtain ⟨ao, cap, rfl, -, -, -⟩ := h.open
  have HF := Lib.hid hfew; have HBo := Lib.hid hboth
  clear hfew hboth h hx
  go_enter Try.func6, Try.ntmps6
  go_wp2_with fail
  go_at_call 13
  refine (HF.out _ hb0).mono ?_
  rintro e w1 ⟨F, rfl, -, hb⟩
  have hw := hb0.trans (hb.mono hb0.size)
  have r0 := (hb.cell (p := ⟨w.heap.size, 0, none⟩) (by simp)).trans (cell_block (World.alloc_heap_new w _) rfl)
  have r1 := (hb.cell (p := ⟨w.heap.size, 1, none⟩) (by simp)).trans (cell_block (World.alloc_heap_new w _) rfl)
  have lw : w.heap.size < w1.heap.size := by have := hb.size; rw [World.size_alloc] at this; omega
  clear hb hb0 HF
  cases F
  · go_wp2_with (go_at_call 14; refine Gives.then (works_any _) ?_; intro w2 hb2)
    go_returns
    exact ⟨rfl, hw.trans (hb2.mono hw.size)⟩
  · go_wp2_with fail
    go_at_call 16
    refine (HBo.out _ hw).mono ?_
    rintro e w2 ⟨hb2, pv, pr, rfl, hBB⟩
    have hw2 := hw.trans (hb2.mono hw.size)
    have r0 := (hb2.cell (p := ⟨w.heap.size, 0, none⟩) lw).trans r0
    have r1 := (hb2.cell (p := ⟨w.heap.size, 1, none⟩) lw).trans r1
    have lw := Nat.lt_of_lt_of_le lw hb2.size
    obtain ⟨t, e, hT⟩ := both_text hBB s
    obtain ⟨⟨qv, rfl⟩, ⟨qr, rfl⟩⟩ := hBB.ptrs
    unfold snv at hT
    have HT := Lib.hid hT
    clear hb2 hBB hT hw HBo
    go_wp2_with fail
    go_at_call 31
    refine Gives.then (HT.out w2 (Below.refl _ _)).1 ?_
    intro w3 hb3
    have hw3 := hw2.trans (hb3.mono hw2.size)
    have r0 := (hb3.cell (p := ⟨w.heap.size, 0, none⟩) lw).trans r0
    have r1 := (hb3.cell (p := ⟨w.heap.size, 1, none⟩) lw).trans r1
    have HB3 := Lib.hid hb3
    clear hb3
    go_wp2_with fail
    go_at_call 32
    refine Gives.then (HT.out w3 HB3.out).2 ?_
    intro w4 hb4
    have hw4 := hw3.trans (hb4.mono hw3.size)
    have HW4 := Lib.hid hw4
    clear hb4 hw4 hw3 hw2 HT HB3 r0 r1
    go_wp2_with (go_at_call 14; refine Gives.then (works_any _) ?_; intro w5 hb5)
    go_returns
    exact ⟨rfl, HW4.out.trans (hb5.mono HW4.out.size)⟩
end Go.Proofs.Ytmgikhldkebjbaa
