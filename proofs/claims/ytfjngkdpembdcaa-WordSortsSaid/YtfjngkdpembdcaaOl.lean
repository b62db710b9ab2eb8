/-
  How a list of words is read.
-/
import Derived.Test.YtfjngkdpembdcaaHy
import Derived.Test.YtfjngkdpembdcaaHg
namespace Go.Proofs.Ytfjngkdpembdcaa
set_option maxRecDepth 100000
open Go.ChangeShapes Go.WideShapes Go.ChangeAt Go.RowKit Go.Joins
theorem cell_live {w : World} {a : Addr} {u : Value} (h : w.cell? a = some u) : a.block < w.heap.size ∧ a.spot = none := by
  unfold World.cell? at h
  split at h
  · rename_i c t z hb
    refine ⟨(Array.getElem?_eq_some_iff.1 hb).1, ?_⟩
    by_cases hs : a.spot.isSome = true
    · rw [if_pos hs] at h; cases h
    · cases hq : a.spot with
      | none => rfl
      | some x => rw [hq] at hs; simp at hs
  · cases h
theorem add_zero_addr (a : Addr) : a.add 0 = a := by
  obtain ⟨b, o, s⟩ := a
  unfold Addr.add
  simp
/-- A word that lies in a cell. -/
theorem word_cell {H : Type} {enc : TypeId × Value → H} {w : World} {base n : Nat} {spare : Nat → Bool} {held : Bool} {a : Addr} {y : DataW H × List MemPlace} (hspare : ∀ b, spare b = true)
    (h : (w.cells? base a 1).bind (DataW.trod enc Try.prog w base spare held n 24) = some y) : ∃ (v : Value) (ss : List Snd), w.cell? a = some v ∧ Wd w v ss := by
  rw [Option.bind_eq_some_iff] at h
  obtain ⟨cs, hc, ht⟩ := h
  unfold World.cells? at hc
  split at hc
  · rw [show List.range 1 = [0] from rfl] at hc
    simp only [List.mapM_cons, List.mapM_nil, Option.bind_eq_bind, Option.pure_def, Option.bind_eq_some_iff, Option.some.injEq] at hc
    obtain ⟨c0, h0, l1, rfl, rfl⟩ := hc
    rw [add_zero_addr] at h0
    have hk : Try.prog.cellsOf 32 = 2 := by kernel_rfl
    rcases DataW.trod_slice Try.underlying24 ht with ⟨e, _⟩ | ⟨b, len, cap, elems, rest, m, _, e, _, _, hl, hm, hlen, hel, hre, _⟩
    · simp only [List.cons.injEq, and_true] at e
      subst e
      exact ⟨_, [], h0, Wd.nil w⟩
    · simp only [List.cons.injEq, and_true] at e
      subst e
      obtain ⟨bb, off, sp⟩ := b
      have each : ∀ i, i < len → ∃ s : Snd, w.cell? ((⟨bb, off, sp⟩ : Addr).add (i * 2)) = some (.int .u32 s.1.toNat) ∧ w.cell? (((⟨bb, off, sp⟩ : Addr).add (i * 2)).add 1) = some (.int .u32 s.2.toNat) := fun i hi => by
        have h1 := hel i hi
        rw [hk, List.getElem?_eq_getElem (by omega)] at h1
        obtain ⟨s, c0, c1⟩ := sound_cells h1
        exact ⟨s, c0, c1⟩
      obtain ⟨hrl, hrc⟩ := hre (hspare _)
      by_cases h00 : cap = 0
      · subst h00
        obtain rfl : len = 0 := by omega
        exact ⟨_, [], h0, Wd.void w _⟩
      · have hlive : ∃ u, w.cell? (⟨bb, off, sp⟩ : Addr) = some u := by
          by_cases h01 : len = 0
          · have h1 := hrc 0 (by omega)
            rw [hk, List.getElem?_eq_getElem (by omega)] at h1
            obtain ⟨s, c0, -⟩ := sound_cells h1
            rw [h01, Nat.zero_mul, add_zero_addr] at c0
            exact ⟨_, c0⟩
          · obtain ⟨s0, c0, -⟩ := each 0 (by omega)
            rw [Nat.zero_mul, add_zero_addr] at c0
            exact ⟨_, c0⟩
        obtain ⟨_, c0⟩ := hlive
        obtain ⟨hbl, hsp⟩ := cell_live c0
        have hsp : sp = none := hsp
        have hbl : bb < w.heap.size := hbl
        subst hsp
        have each2 : ∀ i, i < len → ∃ s : Snd, w.cell? ⟨bb, off + i * 2, none⟩ = some (.int .u32 s.1.toNat) ∧ w.cell? ⟨bb, off + i * 2 + 1, none⟩ = some (.int .u32 s.2.toNat) := fun i hi => by
          obtain ⟨s, c0, c1⟩ := each i hi
          rw [addr_add] at c0
          rw [addr_add, addr_add] at c1
          exact ⟨s, c0, c1⟩
        obtain ⟨f, hf2⟩ : ∃ f : Nat → Snd, ∀ i, i < len → w.cell? ⟨bb, off + i * 2, none⟩ = some (.int .u32 (f i).1.toNat) ∧ w.cell? ⟨bb, off + i * 2 + 1, none⟩ = some (.int .u32 (f i).2.toNat) :=
          ⟨fun i => if h : i < len then Classical.choose (each2 i h) else (0#32, 0#32), fun i hi => by simp only [dif_pos hi]; exact Classical.choose_spec (each2 i hi)⟩
        refine ⟨_, (List.range len).map f, h0, .inr ⟨bb, off, cap, by simp, by simpa using hl, hm, hbl, fun i hi => ?_⟩⟩
        have hi' : i < len := by simpa using hi
        simpa using hf2 i hi'
  · cases hc
/-- How a list of words is read: by its slice and its words. -/
theorem open_list {H : Type} {enc : TypeId × Value → H} {w : World} {base : Nat} {spare : Nat → Bool} {held : Bool} {r : Reach} {b0 : Nat} {v : Value} {d : DataW H} {p : List MemPlace} (hspare : ∀ b, spare b = true)
    (hv : Value.okWide Try.prog w r b0 22 v) (h : DataW.Trod enc Try.prog w base spare held 22 v d p) : ∃ l : List (Value × List Snd), Ws w v l := by
  obtain ⟨fuel, hf⟩ := h
  have hk : Try.prog.cellsOf 24 = 1 := by kernel_rfl
  rcases DataW.trod_slice Try.underlying22 hf with ⟨h0, _⟩ | ⟨a, len, cap, elems, rest, n, _, hcs, _, _, hl, hm, hlen, hel, _, _⟩
  · simp [Value.cells] at h0
    obtain ⟨ao, ln, cp, rfl⟩ := okWide_slice Try.underlying22 hv
    simp at h0
    obtain ⟨rfl, rfl, rfl⟩ := h0
    exact ⟨[], .inl ⟨rfl, rfl⟩⟩
  · obtain ⟨ao, ln, cp, rfl⟩ := okWide_slice Try.underlying22 hv
    simp [Value.cells] at hcs
    obtain ⟨rfl, rfl, rfl⟩ := hcs
    have hok : Cell.ok Try.prog w r b0 22 (.slice (some a) ln cp) := by
      simpa [Value.okWide, Cell.okWide, Try.underlying22] using hv
    have hhas : ln ≤ cp ∧ (cp : Int) ≤ IntKind.i64.max ∧ w.has Try.prog r b0 a 24 cp := by
      simpa [Cell.ok, Try.underlying22] using hok
    obtain ⟨_, hsp, row, cells, hsh, _⟩ := hhas.2.2
    obtain ⟨ab, aoff, asp⟩ := a
    simp only at hsp
    subst hsp
    have hblk : ab < w.heap.size := by
      unfold World.shape? at hsh
      simp only at hsh
      rcases Nat.lt_or_ge ab w.heap.size with h1 | h1
      · exact h1
      · rw [Array.getElem?_eq_none h1] at hsh; cases hsh
    have each : ∀ i, i < ln → ∃ x : Value × List Snd, w.cell? ⟨ab, aoff + i, none⟩ = some x.1 ∧ Wd w x.1 x.2 := fun i hi => by
      have h1 := hel i hi
      rw [hk, List.getElem?_eq_getElem (by omega)] at h1
      obtain ⟨v, ss, c0, hw⟩ := word_cell hspare h1
      rw [addr_add, Nat.mul_one] at c0
      exact ⟨(v, ss), c0, hw⟩
    obtain ⟨f, hf2⟩ : ∃ f : Nat → Value × List Snd, ∀ i, i < ln → w.cell? ⟨ab, aoff + i, none⟩ = some (f i).1 ∧ Wd w (f i).1 (f i).2 :=
      ⟨fun i => if h : i < ln then Classical.choose (each i h) else (.slice none 0 0, []), fun i hi => by simp only [dif_pos hi]; exact Classical.choose_spec (each i hi)⟩
    refine ⟨(List.range ln).map f, .inr ⟨ab, aoff, cp, by simp, by simpa using hl, hm, hblk, fun i hi => ?_⟩⟩
    have hi' : i < ln := by simpa using hi
    simpa using hf2 i hi'
end Go.Proofs.Ytfjngkdpembdcaa
