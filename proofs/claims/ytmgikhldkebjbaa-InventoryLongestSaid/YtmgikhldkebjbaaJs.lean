/-
  How a list of steps is read.
-/
import Derived.Test.YtmgikhldkebjbaaJz
import Derived.Test.YtmgikhldkebjbaaOb
namespace Go.Proofs.Ytmgikhldkebjbaa
set_option maxRecDepth 100000
open Go.ChangeShapes Go.WideShapes Go.ChangeAt Go.RowKit Go.Joins
/-- The three cells of a step in memory. -/
theorem step_cells {H : Type} {enc : TypeId × Value → H} {w : World} {base n : Nat} {spare : Nat → Bool} {held : Bool} {a : Addr} {y : DataW H × List MemPlace}
    (h : (w.cells? base a 3).bind (DataW.trod enc Try.prog w base spare held n 41) = some y) : ∃ x : ByteArray × Snd, w.cell? a = some (.string x.1) ∧ w.cell? (a.add 1) = some (.int .u32 x.2.1.toNat) ∧ w.cell? (a.add 2) = some (.int .u32 x.2.2.toNat) ∧ x.1.size ≤ maxLen := by
  rw [Option.bind_eq_some_iff] at h
  obtain ⟨cs, hc, ht⟩ := h
  unfold World.cells? at hc
  split at hc
  · rw [show List.range 3 = [0, 1, 2] from rfl] at hc
    simp only [List.mapM_cons, List.mapM_nil, Option.bind_eq_bind, Option.pure_def, Option.bind_eq_some_iff, Option.some.injEq] at hc
    obtain ⟨c0, h0, l1, ⟨c1, h1, l2, ⟨c2, h2, l3, rfl, rfl⟩, rfl⟩, rfl⟩ := hc
    obtain ⟨y0, y1, m, _, _, t0, t1⟩ := trod_struct2 Try.underlying41 ht
    have k1 : Try.prog.cellsOf 9 = 1 := by kernel_rfl
    have k2 : Try.prog.cellsOf 39 = 2 := by kernel_rfl
    have k3 : Try.prog.cellsOf 37 = 1 := by kernel_rfl
    simp only [k1, k2, List.take_succ_cons, List.take_zero, List.drop_succ_cons, List.drop_zero] at t0 t1
    obtain ⟨s, e0, _, hs⟩ := DataW.trod_string Try.underlying9 t0
    obtain ⟨z0, z1, m2, _, _, u0, u1⟩ := trod_struct2 Try.underlying39 t1
    simp only [k3] at u0 u1
    obtain ⟨a0, f0, _, w0⟩ := DataW.trod_int Try.underlying37 u0
    obtain ⟨a1, f1, _, w1⟩ := DataW.trod_int Try.underlying37 u1
    obtain ⟨x0, rfl⟩ := u32_bv w0
    obtain ⟨x1, rfl⟩ := u32_bv w1
    simp at e0 f0 f1
    subst e0; subst f0; subst f1
    refine ⟨(s, (x0, x1)), ?_, h1, h2, hs⟩
    simpa [Addr.add] using h0
  · cases hc
/-- How a list of steps is read: by its slice and its cells. -/
theorem open_steps {H : Type} {enc : TypeId × Value → H} {w : World} {base : Nat} {spare : Nat → Bool} {held : Bool} {r : Reach} {b0 : Nat} {v : Value} {d : DataW H} {p : List MemPlace}
    (hv : Value.okWide Try.prog w r b0 36 v) (h : DataW.Trod enc Try.prog w base spare held 36 v d p) : ∃ l : List (ByteArray × Snd), Sp w v l ∧ ∀ x ∈ l, x.1.size ≤ maxLen := by
  obtain ⟨fuel, hf⟩ := h
  have hk : Try.prog.cellsOf 41 = 3 := by kernel_rfl
  rcases DataW.trod_slice Try.underlying36 hf with ⟨h0, _⟩ | ⟨a, len, cap, elems, rest, n, _, hcs, _, _, hl, hm, hlen, hel, _, _⟩
  · simp [Value.cells] at h0
    obtain ⟨ao, ln, cp, rfl⟩ := okWide_slice Try.underlying36 hv
    simp at h0
    obtain ⟨rfl, rfl, rfl⟩ := h0
    exact ⟨[], .inl ⟨rfl, rfl⟩, fun x hx => by cases hx⟩
  · obtain ⟨ao, ln, cp, rfl⟩ := okWide_slice Try.underlying36 hv
    simp [Value.cells] at hcs
    obtain ⟨rfl, rfl, rfl⟩ := hcs
    have hok : Cell.ok Try.prog w r b0 36 (.slice (some a) ln cp) := by
      simpa [Value.okWide, Cell.okWide, Try.underlying36] using hv
    have hhas : ln ≤ cp ∧ (cp : Int) ≤ IntKind.i64.max ∧ w.has Try.prog r b0 a 41 cp := by
      simpa [Cell.ok, Try.underlying36] using hok
    obtain ⟨_, hsp, row, cells, hsh, _⟩ := hhas.2.2
    obtain ⟨ab, aoff, asp⟩ := a
    simp only at hsp
    subst hsp
    have hblk : ab < w.heap.size := by
      unfold World.shape? at hsh
      simp only at hsh
      rcases Nat.lt_or_ge ab w.heap.size with h1 | h1
      · exact h1
      · rw [Array.getElem?_eq_none h1] at hsh; cases hsh
    have each : ∀ i, i < ln → ∃ x : ByteArray × Snd, w.cell? ⟨ab, aoff + i * 3, none⟩ = some (.string x.1) ∧ w.cell? ⟨ab, aoff + i * 3 + 1, none⟩ = some (.int .u32 x.2.1.toNat) ∧ w.cell? ⟨ab, aoff + i * 3 + 2, none⟩ = some (.int .u32 x.2.2.toNat) ∧ x.1.size ≤ maxLen := fun i hi => by
      have h1 := hel i hi
      rw [hk, List.getElem?_eq_getElem (by omega)] at h1
      obtain ⟨x, c0, c1, c2, hs⟩ := step_cells h1
      refine ⟨x, ?_, ?_, ?_, hs⟩
      · rw [addr_addS] at c0; exact c0
      · rw [addr_addS, addr_addS] at c1; exact c1
      · rw [addr_addS, addr_addS] at c2; exact c2
    obtain ⟨f, hf2⟩ : ∃ f : Nat → ByteArray × Snd, ∀ i, i < ln → w.cell? ⟨ab, aoff + i * 3, none⟩ = some (.string (f i).1) ∧ w.cell? ⟨ab, aoff + i * 3 + 1, none⟩ = some (.int .u32 (f i).2.1.toNat) ∧ w.cell? ⟨ab, aoff + i * 3 + 2, none⟩ = some (.int .u32 (f i).2.2.toNat) ∧ (f i).1.size ≤ maxLen :=
      ⟨fun i => if h : i < ln then Classical.choose (each i h) else (⟨#[]⟩, (0#32, 0#32)), fun i hi => by simp only [dif_pos hi]; exact Classical.choose_spec (each i hi)⟩
    refine ⟨(List.range ln).map f, .inr ⟨ab, aoff, cp, by simp, by simpa using hl, hm, hblk, fun i hi => ?_⟩, fun x hx => ?_⟩
    · have hi' : i < ln := by simpa using hi
      have := hf2 i hi'
      simp only [List.getElem_map, List.getElem_range]
      exact ⟨this.1, this.2.1, this.2.2.1⟩
    · obtain ⟨i, hi, rfl⟩ := List.mem_map.1 hx
      exact (hf2 i (by simpa using hi)).2.2.2
end Go.Proofs.Ytmgikhldkebjbaa
