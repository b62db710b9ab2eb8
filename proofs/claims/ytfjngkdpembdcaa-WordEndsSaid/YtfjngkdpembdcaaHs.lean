/-
  slices.SortedFunc on a list of words, whole.
-/
import Derived.Test.YtfjngkdpembdcaaHr
namespace Go.Proofs.Ytfjngkdpembdcaa
open Go.RowKit Go.Sort Go.Shelf Go.Proofs
section
variable {w0 : World}
/-- A list of words in a row of the call's own, or a nil slice. -/
def Row (w : World) (base : Nat) (v : Value) (X : List (WE w0)) : Prop := (v = .slice none 0 0 ∧ X = []) ∨ ∃ g c, v = .slice (some ⟨g, 0, none⟩) X.length c ∧ X.length ≤ c ∧ c ≤ maxLen ∧ base ≤ g ∧ g < w.heap.size ∧ RowX w g X
theorem WE.slc (x : WE w0) : (slc x.v).v = x.v := slc_v x.h
theorem row_of_own {w : World} {base : Nat} {v : Value} {l : List (WE w0)} (h : OwnV w base v ((l.map fun x => slc x.v).map Slc.v)) : Row w base v l := by
  obtain ⟨hl, ⟨rfl, h0⟩ | ⟨g, cap, cur, rfl, hg, hh, hn, hm, hs, ht⟩⟩ := h
  · exact .inl ⟨rfl, List.eq_nil_of_length_eq_zero (by simpa using h0)⟩
  · refine .inr ⟨g, cap, by simp, by simpa using hn, hm, hg, (Array.getElem?_eq_some_iff.1 hh).1, fun i hi => ⟨?_, frozen_block hh⟩⟩
    refine cell_block hh ?_
    have : cur.toList[i]? = some l[i].v := by
      rw [← List.getElem?_take_of_lt (show i < ((l.map fun x => Proofs.Ytfjngkdpembdcaa.slc x.v).map Slc.v).length * 1 by simpa using hi), ht, List.getElem?_map, List.getElem?_map, List.getElem?_eq_getElem hi]
      simp only [Option.map_some]
      exact congrArg some (WE.slc _)
    rwa [Array.getElem?_toList] at this
theorem sortedFunc_any (l : List (WE w0)) (ao : Option Addr) (cap Bn : Nat) (hl : l.length ≤ 1000000000) (w : World) (hw : Below w0.heap.size w0 w) (hBn : w.cell? ⟨Bn, 0, none⟩ = some (.slice ao l.length cap)) (hc : ∀ i (h : i < l.length), ∃ b off, ao = some ⟨b, off, none⟩ ∧ b < w.heap.size ∧ w.cell? ⟨b, off + i, none⟩ = some l[i].v) :
    Calls Try.prog 25 #[.func (.func 43) #[] #[.pointer (some ⟨Bn, 0, none⟩)], .func (.func 12) #[] #[]] w fun e w' => ∃ (v : Value) (Y : List (WE w0)), e = .returned v ∧ Y.Perm l ∧ SortedX Y ∧ Row w' w.heap.size v Y ∧ Below w.heap.size w w' := by
  have hcol := collect_any (l.map fun x => slc x.v) ao cap Bn (by simpa using hl) w (by simpa using hBn) (fun i hi => by
    obtain ⟨b, off, e, hb, hv⟩ := hc i (by simpa using hi)
    exact ⟨b, off, e, hb, by rw [hv, List.getElem_map]; exact congrArg some (WE.slc _).symm⟩)
  have HC := Lib.hid hcol
  clear hBn hc hcol
  go_enter Try.func25, Try.ntmps25
  go_wp2_with fail
  go_at_call 41
  refine HC.out.mono ?_
  rintro e w1 ⟨v, rfl, ho, hb⟩
  rcases row_of_own ho with ⟨rfl, rfl⟩ | ⟨g, c, rfl, hn, hm, hg, hgs, hr⟩
  · clear ho HC
    go_wp2_with fail
    go_at_call 42
    have hcon := AnyF.slices_SortFunc_none (P := Try.prog) { TrySortL with } none 0 (.func (.func 12) #[] #[]) w1
    change Calls Try.prog 42 _ _ _ at hcon
    refine hcon.mono ?_
    rintro e w2 ⟨rfl, rfl⟩
    go_wp2_with fail
    go_returns
    exact ⟨_, [], rfl, List.Perm.refl _, fun i j hi hj => by simp at hj, .inl ⟨rfl, rfl⟩, hb⟩
  · have hw1 : Below w0.heap.size w0 w1 := hw.trans (hb.mono hw.size)
    have hcon := sortFunc_any l g c w1 hw1 (by have := hw.size; omega) hgs hl hr
    have HCON := Lib.hid hcon
    have hm' : c ≤ 9223372036854775807 := hm
    have HM := Lib.hid hm
    clear ho HC hr hcon hm
    go_wp2_with fail
    go_at_call 42
    refine HCON.out.mono ?_
    rintro e w2 ⟨rfl, Y, hp, hs, hrY, hbY⟩
    go_wp2_with fail
    go_returns
    have hlen := hp.length_eq
    refine ⟨_, Y, rfl, hp, hs, .inr ⟨g, c, by rw [hlen]; rfl, by omega, HM.out, hg, by have := hbY.size; omega, hrY⟩, hb.trans (hbY.mono hg)⟩
end
end Go.Proofs.Ytfjngkdpembdcaa
