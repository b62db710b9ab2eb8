/-
  How many sounds satisfy a condition: satisfies, Count, and the specification's Count.
-/
import Derived.Test.YtfjngkdpembdcaaZa
import Derived.BigQuiet
namespace Go.Proofs.Ytfjngkdpembdcaa
open Go.RowKit Go.Sort
attribute [local go_sem] bv_and bv_or ofInt32_nat
attribute [local go_sem ↓] snd_eql snd_neq
/-- Whether a sound has all values of a condition. -/
def sat (s c : Snd) : Bool := vd s && (decide (s.1.toNat &&& c.1.toNat = c.1.toNat) && decide (s.2.toNat &&& c.2.toNat = c.2.toNat))
theorem sat_iff (s c : Snd) : sat s c = true ↔ vd s = true ∧ s.1.toNat &&& c.1.toNat = c.1.toNat ∧ s.2.toNat &&& c.2.toNat = c.2.toNat := by simp [sat]
theorem vd_sub {a b c d : BitVec 32} (h : vd (a, b) = true) (h1 : a.toNat &&& c.toNat = c.toNat) (h2 : b.toNat &&& d.toNat = d.toNat) : vd (c, d) = true := by
  rw [vd_iff3] at *
  obtain ⟨e1, e2, e3⟩ := h
  refine ⟨?_, Nat.lt_of_le_of_lt (by rw [← h1]; exact Nat.and_le_left) e2, Nat.lt_of_le_of_lt (by rw [← h2]; exact Nat.and_le_left) e3⟩
  have e : (a.toNat &&& c.toNat) &&& (b.toNat &&& d.toNat) = (a.toNat &&& b.toNat) &&& (c.toNat &&& d.toNat) := by
    apply Nat.eq_of_testBit_eq
    intro i
    simp only [Nat.testBit_and]
    cases a.toNat.testBit i <;> cases b.toNat.testBit i <;> cases c.toNat.testBit i <;> cases d.toNat.testBit i <;> rfl
  rw [h1, h2, e1, Nat.zero_and] at e
  exact e
set_option maxHeartbeats 1000000 in
theorem satisfies_any (a b c d : BitVec 32) (w : World) : Gives 40 #[sn a.toNat b.toNat, sn c.toNat d.toNat] w (.bool (sat (a, b) (c, d))) := by
  unfold Gives
  have hv := sat_iff (a, b) (c, d)
  have hV := valid_any a b
  generalize sat (a, b) (c, d) = D at *
  simp only at hv
  have HV := Lib.hid hv; clear hv
  rcases hs : vd (a, b) with _ | _
  · have hD : false = D := by
      rcases D with _ | _
      · rfl
      · have := (HV.out.1 rfl).1; rw [hs] at this; cases this
    rw [hs] at hV
    subst hD
    have HVV := Lib.hid hV
    clear HV hs hV
    go_enter Try.func40, Try.ntmps40
    go_wp2_with (go_at_call 32; with_reducible refine Gives.then (HVV.out _) ?_; intro w1 hb; have hw := chain (B := w.heap.size) (a := w) (by go_grown) (by go_size) hb; obtain ⟨hc, hf, hz⟩ := bcell hb)
    go_returns
    exact ⟨ret_bool (by first | rfl | simp), hw⟩
  · rw [hs] at hV
    have hD : D = true ↔ a.toNat &&& c.toNat = c.toNat ∧ b.toNat &&& d.toNat = d.toNat := by rw [HV.out]; simp [hs]
    have HD := Lib.hid hD
    have HVV := Lib.hid hV
    clear HV hs hV hD
    go_enter Try.func40, Try.ntmps40
    go_wp2_with fail
    go_at_call 32
    with_reducible refine Gives.then (HVV.out _) ?_
    intro w1 hb
    have hw := chain (B := w.heap.size) (a := w) (by go_grown) (by go_size) hb
    obtain ⟨hc, hf, hz⟩ := bcell hb
    go_wp2_with fail
    go_returns
    refine ⟨ret_bool ?_, hw⟩
    rw [Bool.eq_iff_iff, HD.out]
    simp only [Bool.and_eq_true, beq_iff_eq, Int.natCast_inj]
    exact and_congr ⟨Eq.symm, Eq.symm⟩ ⟨Eq.symm, Eq.symm⟩
/-- How many sounds satisfy a condition. -/
def cnt (xs : List Snd) (c : Snd) : Nat := xs.countP (fun s => sat s c)
theorem cnt_succ {xs : List Snd} {c x : Snd} {k : Nat} (hk : k < xs.length) (hx : xs[k] = x) : cnt (xs.take (k + 1)) c = cnt (xs.take k) c + if sat x c = true then 1 else 0 := by
  unfold cnt
  rw [List.take_succ_eq_append_getElem hk, List.countP_append, hx]
  simp [List.countP_cons]
theorem cnt_le (xs : List Snd) (c : Snd) (k : Nat) : cnt (xs.take k) c ≤ k := Nat.le_trans List.countP_le_length (by rw [List.length_take]; exact Nat.min_le_left _ _)
set_option maxHeartbeats 2000000 in
theorem count_any (xs : List Snd) (v : Value) (c d : BitVec 32) (w : World) (h : Wd w v xs) : Gives 21 #[v, sn c.toNat d.toNat] w (.int .i64 (cnt xs (c, d) : Nat)) := by
  unfold Gives
  obtain ⟨ao, cap, rfl, c1, m1, H1⟩ := h.open
  have l1 := maxLen_lt (Nat.le_trans c1 m1)
  have H1 := Lib.hid H1
  clear h c1 m1
  go_enter Try.func21, Try.ntmps21
  go_wp2_with fail
  generalize hwB : w.alloc (.cells #[.int .u32 (c.toNat : Int), .int .u32 (d.toNat : Int)] 32) = wB
  have hBw : Below w.heap.size w wB := by rw [← hwB]; go_grown
  have hBs : wB.heap.size = w.heap.size + 1 := by rw [← hwB, World.size_alloc]
  have k0 : wB.cell? ⟨w.heap.size, 0, none⟩ = some (.int .u32 (c.toNat : Int)) := by rw [← hwB]; exact cell_block (World.alloc_heap_new w _) rfl
  have k1 : wB.cell? ⟨w.heap.size, 1, none⟩ = some (.int .u32 (d.toNat : Int)) := by rw [← hwB]; exact cell_block (World.alloc_heap_new w _) rfl
  clear hwB
  go_wp2_with fail
  go_loopw [10, 5] (fun i s wr => ∃ k : Nat, k ≤ xs.length ∧ i = .int .i64 (k : Int) ∧ s = .int .i64 (cnt (xs.take k) (c, d) : Nat) ∧ Below wB.heap.size wB wr ∧ wB.heap.size ≤ wr.heap.size) (fun i _ _ => xs.length - (intOf i).toNat)
  case atStart => exact ⟨0, by omega, rfl, rfl, Below.refl _ _, Nat.le_refl _⟩
  case round =>
    obtain ⟨k, hk, rfl, rfl, hw, hsz⟩ := hrel
    have hcl := cnt_le xs (c, d) k
    by_cases hlt : k < xs.length
    · obtain ⟨b, off, rfl, lb, d0, d1⟩ := H1.out k hlt
      have hw0 := hBw.trans (hw.mono hBw.size)
      have d0 := (hw0.cell (p := ⟨b, off + k * 2, none⟩) lb).trans d0
      have d1 := (hw0.cell (p := ⟨b, off + k * 2 + 1, none⟩) lb).trans d1
      have e0 := (hw.cell (p := ⟨w.heap.size, 0, none⟩) (by simp only []; omega)).trans k0
      have e1 := (hw.cell (p := ⟨w.heap.size, 1, none⟩) (by simp only []; omega)).trans k1
      have hstep := cnt_succ (c := (c, d)) hlt rfl
      have lbr : b < wr.heap.size := by have := hw0.size; omega
      have lbw : w.heap.size < wr.heap.size := by omega
      generalize xs[k] = x at *
      obtain ⟨x1, x2⟩ := x
      simp only at d0 d1
      have hS := fun W => satisfies_any x1 x2 c d W
      generalize cnt (xs.take k) (c, d) = N at *
      rcases hs : sat (x1, x2) (c, d) with _ | _
      · rw [hs] at hS hstep
        have HS := Lib.hid hS
        have HN : Hid (cnt (xs.take (k + 1)) (c, d) = N) := Lib.hid (by simpa using hstep)
        clear hS hs hstep H1 hw0
        go_wp2_with fail
        go_at_call 40
        with_reducible refine Gives.then (HS.out _) ?_
        intro w1 hb
        have hw2 : Below wB.heap.size wB w1 := hw.trans ((by go_grown : Below wr.heap.size wr _).trans (hb.mono (by go_size)) |>.mono hsz)
        go_wp2_with fail
        go_roundw
        case rel => exact ⟨k + 1, by omega, by go_num, by rw [HN.out], hw2, hw2.size⟩
        case measure => simp [intOf]; omega
      · rw [hs] at hS hstep
        have HS := Lib.hid hS
        have HN : Hid (cnt (xs.take (k + 1)) (c, d) = N + 1) := Lib.hid (by simpa using hstep)
        clear hS hs hstep H1 hw0
        go_wp2_with fail
        go_at_call 40
        with_reducible refine Gives.then (HS.out _) ?_
        intro w1 hb
        have hw2 : Below wB.heap.size wB w1 := hw.trans ((by go_grown : Below wr.heap.size wr _).trans (hb.mono (by go_size)) |>.mono hsz)
        go_wp2_with fail
        go_roundw
        case rel => exact ⟨k + 1, by omega, by go_num, by rw [HN.out]; go_num, hw2, hw2.size⟩
        case measure => simp [intOf]; omega
    · obtain rfl : k = xs.length := by omega
      have HT : Hid (xs.take xs.length = xs) := Lib.hid List.take_length
      clear H1
      go_wp2_with fail
      go_returns
      exact ⟨by first | rfl | (rw [HT.out]; done) | (rw [HT.out]; rfl), hBw.trans (hw.mono hBw.size)⟩
/-- The specification's condition is the same. -/
theorem sat_ref (a b c d : BitVec 32) : sat (a, b) (c, d) = (vd (c, d) && vd (a, b) && (decide (a.toNat &&& c.toNat = c.toNat) && decide (b.toNat &&& d.toNat = d.toNat))) := by
  rw [Bool.eq_iff_iff, sat_iff]
  simp only [Bool.and_eq_true, decide_eq_true_eq]
  exact ⟨fun ⟨h1, h2, h3⟩ => ⟨⟨vd_sub h1 h2 h3, h1⟩, h2, h3⟩, fun ⟨⟨_, h1⟩, h2, h3⟩ => ⟨h1, h2, h3⟩⟩
end Go.Proofs.Ytfjngkdpembdcaa
