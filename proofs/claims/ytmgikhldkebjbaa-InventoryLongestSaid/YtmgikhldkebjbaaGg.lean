/-
  The specification's inventory in memory; both: an inventory of the program and one of the specification.
-/
import Derived.Test.YtmgikhldkebjbaaGf
import Derived.Test.YtmgikhldkebjbaaIh
import Derived.Test.YtmgikhldkebjbaaIs
import Derived.Test.YtmgikhldkebjbaaJb
namespace Go.Proofs.Ytmgikhldkebjbaa
open Go.RowKit Go.Sort
/-- The specification's inventory with these features, and these sounds. -/
structure RInv (w : World) (base R : Nat) (l : List ByteArray) (a : List (ByteArray × Snd)) (nv av : Value) : Prop where
  blk : w.heap[R]? = some (.cells #[.bool true, nv, av] 85 (0, 0))
  names : OwnS w base nv l
  added : OwnN w base av a
  hR : base ≤ R
theorem RNew.inv {w : World} {base R : Nat} {l : List ByteArray} (h : RNew w base R l) : ∃ nv, RInv w base R l [] nv (.slice none 0 0) := by
  obtain ⟨nv, h1, h2, h3⟩ := h
  exact ⟨nv, ⟨h1, h2, ⟨rfl, .inl ⟨rfl, rfl⟩⟩, h3⟩⟩
theorem RInv.below {w w' : World} {base R : Nat} {l : List ByteArray} {a : List (ByteArray × Snd)} {nv av : Value} (h : RInv w base R l a nv av) (hb : Below w.heap.size w w') : RInv w' base R l a nv av :=
  ⟨(hb.block R (Array.getElem?_eq_some_iff.1 h.blk).1).trans h.blk, h.names.below hb, h.added.below hb, h.hR⟩
theorem OwnN.mono {w : World} {base base' : Nat} {v : Value} {l : List (ByteArray × Snd)} (h : OwnN w base v l) (hb : base' ≤ base) : OwnN w base' v l := by
  obtain ⟨hl, h0 | ⟨g, cap, cur, hv, hg, hh, hr⟩⟩ := h
  · exact ⟨hl, .inl h0⟩
  · exact ⟨hl, .inr ⟨g, cap, cur, hv, by omega, hh, hr⟩⟩
theorem RInv.mono {w : World} {base base' R : Nat} {l : List ByteArray} {a : List (ByteArray × Snd)} {nv av : Value} (h : RInv w base R l a nv av) (hb : base' ≤ base) : RInv w base' R l a nv av :=
  ⟨h.blk, h.names.mono hb, h.added.mono hb, Nat.le_trans hb h.hR⟩
theorem RInv.lt {w : World} {base R : Nat} {l : List ByteArray} {a : List (ByteArray × Snd)} {nv av : Value} (h : RInv w base R l a nv av) : R < w.heap.size := (Array.getElem?_eq_some_iff.1 h.blk).1
theorem RInv.cells {w : World} {base R : Nat} {l : List ByteArray} {a : List (ByteArray × Snd)} {nv av : Value} (h : RInv w base R l a nv av) :
    w.cell? ⟨R, 0, none⟩ = some (.bool true) ∧ w.cell? ⟨R, 1, none⟩ = some nv ∧ w.cell? ⟨R, 2, none⟩ = some av :=
  ⟨cell_block h.blk rfl, cell_block h.blk rfl, cell_block h.blk rfl⟩
theorem rmade_yes (R : Nat) (w : World) (h : w.cell? ⟨R, 0, none⟩ = some (.bool true)) : Gives 45 #[.pointer (some ⟨R, 0, none⟩)] w (.bool true) := by
  unfold Gives
  go_enter Try.func45, Try.ntmps45
  go_wp2
  go_returns
  exact ⟨rfl, Below.refl _ _⟩
theorem rmade_nil (w : World) : Gives 45 #[.pointer none] w (.bool false) := by
  unfold Gives
  go_enter Try.func45, Try.ntmps45
  go_wp2
  go_returns
  exact ⟨rfl, Below.refl _ _⟩
/-- What both returns: no inventory, or two inventories without sounds. -/
def Both (w : World) (base : Nat) (l : List ByteArray) (pv pr : Value) : Prop := (newE l ≠ 0 ∧ pv = .pointer none ∧ pr = .pointer none) ∨
  (newE l = 0 ∧ ∃ B R nv bf bs by_ rv, pv = .pointer (some ⟨B, 0, none⟩) ∧ pr = .pointer (some ⟨R, 0, none⟩) ∧ Inv w base B l [] nv (.slice none 0 0) bf bs by_ ∧ RInv w base R l [] rv (.slice none 0 0))
theorem newE_len {l : List ByteArray} (h : newE l = 0) : l.length ≤ 24 := by
  unfold newE at h
  by_cases h24 : 24 < l.length
  · rw [if_pos h24] at h; cases h
  · omega
theorem newE_all {l : List ByteArray} (h : newE l = 0) : l.all isFeat = true := by
  have h24 := newE_len h
  unfold newE at h
  rw [if_neg (by omega)] at h
  by_cases hA : l.all isFeat = true
  · exact hA
  · rw [if_neg hA] at h; cases h
theorem newE_size {l : List ByteArray} (h : newE l = 0) : ∀ x ∈ l, x.size ≤ 16 := fun x hx => by
  have := List.all_eq_true.1 (newE_all h) x hx
  unfold isFeat cons at this
  simp only [Bool.and_eq_true, decide_eq_true_eq] at this
  exact this.1.1.2
set_option maxRecDepth 100000 in
set_option maxHeartbeats 4000000 in
theorem both_any (l : List ByteArray) (v : Value) (w : World) (hx : ∀ x ∈ l, x.size ≤ maxLen) (h : Ss w v l) : Calls Try.prog 16 #[v] w fun e w' => Below w.heap.size w w' ∧ ∃ pv pr, e = .returned (.tuple #[pv, pr, .bool true]) ∧ Both w' w.heap.size l pv pr := by
  have hx2 : ∀ x ∈ l, x.size ≤ 9223372036854775807 := fun x hh => by have := hx x hh; unfold maxLen at this; omega
  have hN := new_any l v w hx2 h
  have hR := fun (W : World) (hb : Below w.heap.size w W) => rnew_any l v W hx2 (h.below hb)
  obtain ⟨ao, cap, rfl, -, -, -⟩ := h.open
  have HN := Lib.hid hN; have HR := Lib.hid hR
  clear hN hR h hx hx2
  go_enter Try.func16, Try.ntmps16
  go_wp2_with fail
  go_at_call 42
  refine HN.out.mono ?_
  rintro e w1 ⟨hb1, ⟨hne, rfl⟩ | ⟨h0, B, rfl, hI⟩⟩
  · have HB1 := Lib.hid hb1
    have HNE := Lib.hid hne
    clear HN hb1 hne
    go_wp2_with fail
    go_at_call 43
    refine (HR.out _ HB1.out).mono ?_
    rintro e w2 ⟨hb2, ⟨_, rfl⟩ | ⟨h0, _⟩⟩
    · have hw := HB1.out.trans (hb2.mono HB1.out.size)
      have HW := Lib.hid hw
      have HD : Hid (Both w2 w.heap.size l (.pointer none) (.pointer none)) := Lib.hid (.inl ⟨HNE.out, rfl, rfl⟩)
      clear hb2 hw HB1 HR HNE
      generalize newE l = E at *
      go_wp2_with fail
      refine bodyPost_ret (v := .tuple #[.pointer none, .pointer none, .bool true]) (by simp [results, Try.results16, go_sem]) rfl ⟨HW.out, _, _, rfl, HD.out⟩
    · exact absurd h0 HNE.out
  · have HB1 := Lib.hid hb1
    have H0 := Lib.hid h0
    obtain ⟨nv, bf, bs, by_, hJ⟩ := hI.inv
    have HJ := Lib.hid hJ
    clear HN hb1 h0 hI hJ
    go_wp2_with fail
    go_at_call 43
    refine (HR.out _ HB1.out).mono ?_
    rintro e w2 ⟨hb2, ⟨hne, _⟩ | ⟨_, R, rfl, hR⟩⟩
    · exact absurd H0.out hne
    · obtain ⟨rv, hQ⟩ := hR.inv
      have hw := HB1.out.trans (hb2.mono HB1.out.size)
      have HW := Lib.hid hw
      have HD : Hid (Both w2 w.heap.size l (.pointer (some ⟨B, 0, none⟩)) (.pointer (some ⟨R, 0, none⟩))) := Lib.hid (.inr ⟨H0.out, B, R, nv, bf, bs, by_, rv, rfl, rfl, HJ.out.below hb2, hQ.mono HB1.out.size⟩)
      clear hb2 hw HB1 HR H0 hR hQ HJ
      go_wp2_with fail
      refine bodyPost_ret (v := .tuple #[.pointer (some ⟨B, 0, none⟩), .pointer (some ⟨R, 0, none⟩), .bool true]) (by simp [results, Try.results16, go_sem]) rfl ⟨HW.out, _, _, rfl, HD.out⟩
end Go.Proofs.Ytmgikhldkebjbaa
