/-
  has: whether a sound belongs to an inventory.
-/
import Derived.Test.YtmgikhldkebjbaaIj
import Derived.Lib.QuietBelow
namespace Go.Proofs.Ytmgikhldkebjbaa
open Go.RowKit Go.Sort
attribute [local go_sem] bv_and bv_or ofInt32_nat
theorem OwnS.form {w : World} {base : Nat} {v : Value} {l : List ByteArray} (h : OwnS w base v l) : ∃ ao cap, v = .slice ao l.length cap := by
  obtain ⟨hl, ⟨rfl, h0⟩ | ⟨g, cap, cur, rfl, _⟩⟩ := h
  · exact ⟨none, 0, by rw [h0]⟩
  · exact ⟨_, cap, rfl⟩
/-- The features with a value, and whether a sound belongs to an inventory with n features. -/
def valN (s : Snd) : Nat := s.1.toNat ||| s.2.toNat
def hasB (n : Nat) (s : Snd) : Bool := decide (s.1.toNat &&& s.2.toNat = 0) && decide (valN s / 2 ^ n = 0)
theorem valued_any (s : Snd) (w : World) : Gives 57 #[snv s] w (.int .u32 (valN s : Nat)) := by
  unfold Gives snv valN
  obtain ⟨p, m⟩ := s
  go_enter Try.func57, Try.ntmps57
  go_wp2
  go_returns
  exact ⟨by simp, by go_grown⟩
set_option maxHeartbeats 1000000 in
theorem has_any {w : World} {base B : Nat} {l : List ByteArray} {a : List (ByteArray × Snd)} {nv av : Value} {bf bs by_ : Nat} (h : Inv w base B l a nv av bf bs by_) (s : Snd) (hl : l.length ≤ 24) : Gives 47 #[.pointer (some ⟨B, 0, none⟩), snv s] w (.bool (hasB l.length s)) := by
  unfold Gives hasB
  have HI := Lib.hid h
  have hB := h.lt
  obtain ⟨ao, ac, rfl⟩ := h.names.form
  have q1 := h.cells.2.1
  clear h
  have hv := valued_any s
  have HV := Lib.hid hv
  clear hv
  generalize hN : valN s = N at *
  have HN := Lib.hid hN
  clear hN
  obtain ⟨p, m⟩ := s
  unfold snv at *
  simp only
  generalize l.length = n at *
  have q1' := fun X => cell_past (X := X) hB q1
  have hI : (N : Int) / 2 ^ n = ((N / 2 ^ n : Nat) : Int) := by simp
  have e3 : ((N : Int) / 2 ^ n = 0) ↔ (N / 2 ^ n = 0) := by rw [hI]; omega
  have E3 := Lib.hid e3
  clear hI e3
  by_cases h1 : p.toNat &&& m.toNat = 0
  · have g1 : decide (p.toNat &&& m.toNat = 0) = true := decide_eq_true h1
    by_cases h2 : N / 2 ^ n = 0
    all_goals (
      go_enter Try.func47, Try.ntmps47
      go_wp2_with fail
      refine wp_gen ?_
      intro W1 hW1
      have hw1 : Below w.heap.size w W1 := by rw [hW1]; go_grown
      have hz1 : w.heap.size + 1 ≤ W1.heap.size := by rw [hW1]; go_size
      have c0 : W1.cell? ⟨w.heap.size, 0, none⟩ = some (.int .u32 p.toNat) := by rw [hW1]; first | assumption | go_cell | (go_simp; done) | exact cell_past (by first | assumption | omega) (by assumption)
      have c1 : W1.cell? ⟨w.heap.size, 1, none⟩ = some (.int .u32 m.toNat) := by rw [hW1]; first | assumption | go_cell | (go_simp; done) | exact cell_past (by first | assumption | omega) (by assumption)
      have c2 : W1.cell? ⟨B, 1, none⟩ = some (.slice ao n ac) := by rw [hW1]; first | assumption | go_cell | (go_simp; done) | exact cell_past (by first | assumption | omega) (by assumption)
      clear hW1
      have k0 := cell_regrown c0
      have k1 := cell_regrown c1
      have k2 := cell_regrown c2
      refine wp_region_quiet_below (by kernel_rfl) (by kernel_rfl) ?_
      try simp only [List.append]
      repeat (go_big_quiet_step (first | (go_at_call 57; with_reducible exact Calls.regrown_of (HV.out _))))
      refine wpQuiet_nil ?_
      intro w2 hw2
      have hb : Below W1.heap.size W1 w2 := by obtain ⟨q, rfl⟩ := hw2; exact below_regrown _ _ _
      clear hw2
      clear k0 k1 k2
      have hw := chain hw1 (by omega) hb
      obtain ⟨hc, hf, hz⟩ := bcell hb
      clear hb
      try have r0 : w2.cell? ⟨w.heap.size, 0, none⟩ = some (.int .u32 p.toNat) := (hc _ _ (by omega)).trans c0
      try have r1 : w2.cell? ⟨w.heap.size, 1, none⟩ = some (.int .u32 m.toNat) := (hc _ _ (by omega)).trans c1
      try have r2 : w2.cell? ⟨B, 1, none⟩ = some (.slice ao n ac) := (hc _ _ (by omega)).trans c2
      go_wp2
      go_returns
      exact ⟨by simp [h1, h2, E3.out], hw⟩)
  · have g1 : decide (p.toNat &&& m.toNat = 0) = false := decide_eq_false h1
    have g2 : (((p.toNat &&& m.toNat : Nat) : Int) == 0) = false := by rw [Bool.eq_false_iff]; intro e; have := beq_iff_eq.1 e; omega
    go_enter Try.func47, Try.ntmps47
    go_wp2_with fail
    refine wp_gen ?_
    intro W1 hW1
    have hw1 : Below w.heap.size w W1 := by rw [hW1]; go_grown
    have hz1 : w.heap.size + 1 ≤ W1.heap.size := by rw [hW1]; go_size
    have c0 : W1.cell? ⟨w.heap.size, 0, none⟩ = some (.int .u32 p.toNat) := by rw [hW1]; first | assumption | go_cell | (go_simp; done) | exact cell_past (by first | assumption | omega) (by assumption)
    have c1 : W1.cell? ⟨w.heap.size, 1, none⟩ = some (.int .u32 m.toNat) := by rw [hW1]; first | assumption | go_cell | (go_simp; done) | exact cell_past (by first | assumption | omega) (by assumption)
    have c2 : W1.cell? ⟨B, 1, none⟩ = some (.slice ao n ac) := by rw [hW1]; first | assumption | go_cell | (go_simp; done) | exact cell_past (by first | assumption | omega) (by assumption)
    clear hW1
    have k0 := cell_regrown c0
    have k1 := cell_regrown c1
    have k2 := cell_regrown c2
    refine wp_region_quiet_below (by kernel_rfl) (by kernel_rfl) ?_
    try simp only [List.append]
    repeat (go_big_quiet_step (first | (go_at_call 57; with_reducible exact Calls.regrown_of (HV.out _))))
    refine wpQuiet_nil ?_
    intro w2 hw2
    have hb : Below W1.heap.size W1 w2 := by obtain ⟨q, rfl⟩ := hw2; exact below_regrown _ _ _
    clear hw2
    clear k0 k1 k2
    have hw := chain hw1 (by omega) hb
    obtain ⟨hc, hf, hz⟩ := bcell hb
    clear hb
    try have r0 : w2.cell? ⟨w.heap.size, 0, none⟩ = some (.int .u32 p.toNat) := (hc _ _ (by omega)).trans c0
    try have r1 : w2.cell? ⟨w.heap.size, 1, none⟩ = some (.int .u32 m.toNat) := (hc _ _ (by omega)).trans c1
    try have r2 : w2.cell? ⟨B, 1, none⟩ = some (.slice ao n ac) := (hc _ _ (by omega)).trans c2
    go_wp2
    go_returns
    exact ⟨by simp [h1], hw⟩
end Go.Proofs.Ytmgikhldkebjbaa
