/-
  Which sounds belong to an inventory: the specification's answer is the program's.
-/
import Derived.Test.YtmgikhldkebjbaaGg
import Derived.Test.YtmgikhldkebjbaaGa
import Derived.Test.YtmgikhldkebjbaaIk
namespace Go.Proofs.Ytmgikhldkebjbaa
open Go.RowKit Go.Sort
theorem hasB_bits (n : Nat) (p m : BitVec 32) : hasB n (p, m) = true ↔ (∀ j, j < 32 → (p.getLsbD j && m.getLsbD j) = false) ∧ ∀ j, n ≤ j → j < 32 → p.getLsbD j = false ∧ m.getLsbD j = false := by
  have h1 : (p.toNat &&& m.toNat = 0) ↔ ∀ j, j < 32 → (p.getLsbD j && m.getLsbD j) = false := by
    constructor
    · intro h j _
      have := congrArg (fun x => x.testBit j) h
      simp only [Nat.testBit_and, Nat.zero_testBit] at this
      exact this
    · intro h
      apply Nat.eq_of_testBit_eq
      intro j
      rw [Nat.testBit_and, Nat.zero_testBit]
      by_cases hj : j < 32
      · exact h j hj
      · have : p.toNat.testBit j = false := Nat.testBit_lt_two_pow (Nat.lt_of_lt_of_le p.isLt (Nat.pow_le_pow_right (by omega) (by omega)))
        rw [this, Bool.false_and]
  have h2 : (valN (p, m) / 2 ^ n = 0) ↔ ∀ j, n ≤ j → j < 32 → p.getLsbD j = false ∧ m.getLsbD j = false := by
    unfold valN
    rw [← Nat.shiftRight_eq_div_pow]
    constructor
    · intro h j hj _
      have := congrArg (fun x => x.testBit (j - n)) h
      simp only [Nat.testBit_shiftRight, Nat.testBit_or, Nat.zero_testBit, Bool.or_eq_false_iff] at this
      rw [show n + (j - n) = j from by omega] at this
      exact this
    · intro h
      apply Nat.eq_of_testBit_eq
      intro j
      rw [Nat.testBit_shiftRight, Nat.testBit_or, Nat.zero_testBit, Bool.or_eq_false_iff]
      by_cases hj : n + j < 32
      · exact h (n + j) (by omega) hj
      · have e : 2 ^ 32 ≤ 2 ^ (n + j) := Nat.pow_le_pow_right (by omega) (by omega)
        exact ⟨Nat.testBit_lt_two_pow (Nat.lt_of_lt_of_le p.isLt e), Nat.testBit_lt_two_pow (Nat.lt_of_lt_of_le m.isLt e)⟩
  unfold hasB
  rw [Bool.and_eq_true, decide_eq_true_iff, decide_eq_true_iff, h1, h2]
theorem hasB_vld {n : Nat} {p m : BitVec 32} (hn : n ≤ 24) (h : hasB n (p, m) = true) : vld p m = true := by
  obtain ⟨h1, h2⟩ := (hasB_bits n p m).1 h
  refine vld_yes fun k hk => ?_
  rw [h1 k hk, Bool.false_or]
  by_cases h24 : k < 24
  · simp [h24]
  · obtain ⟨a, b⟩ := h2 k (by omega) hk
    rw [a, b]; rfl
theorem hasB_not {n : Nat} {p m : BitVec 32} (hn : n ≤ 24) (h : vld p m = false) : hasB n (p, m) = false := by
  rw [Bool.eq_false_iff]; intro e; rw [hasB_vld hn e] at h; cases h
theorem hasB_get {n k : Nat} {p m : BitVec 32} (hk : n ≤ k) (hk2 : k < 32) (h : getV p m k ≠ 0) : hasB n (p, m) = false := by
  rw [Bool.eq_false_iff]; intro e
  obtain ⟨a, b⟩ := ((hasB_bits n p m).1 e).2 k hk hk2
  exact h (by unfold getV; rw [a, b]; rfl)
theorem hasB_yes {n : Nat} {p m : BitVec 32} (hv : vld p m = true) (h : ∀ k, n ≤ k → k < 24 → getV p m k = 0) : hasB n (p, m) = true := by
  refine (hasB_bits n p m).2 ⟨fun j hj => (vld_bits.1 hv j hj).1, fun j hj hj2 => ?_⟩
  by_cases h24 : j < 24
  · have := h j hj h24
    unfold getV at this
    cases hp : p.getLsbD j <;> cases hm : m.getLsbD j <;> simp [hp, hm] at this <;> exact ⟨rfl, rfl⟩
  · have := (vld_bits.1 hv j hj2).2
    have ha : (16777215#32).getLsbD j = false := (by decide : ∀ k : Fin 32, 24 ≤ k.val → (16777215#32).getLsbD k.val = false) ⟨j, hj2⟩ (by show 24 ≤ j; omega)
    rw [ha] at this
    cases hp : p.getLsbD j <;> cases hm : m.getLsbD j <;> simp [hp, hm] at this <;> exact ⟨rfl, rfl⟩
set_option maxRecDepth 100000 in
set_option maxHeartbeats 4000000 in
theorem rbel_any {w : World} {base R : Nat} {l : List ByteArray} {a : List (ByteArray × Snd)} {nv av : Value} (h : RInv w base R l a nv av) (hl : l.length ≤ 24) (s : Snd) : Gives 49 #[.pointer (some ⟨R, 0, none⟩), snv s] w (.bool (hasB l.length s)) := by
  unfold Gives
  obtain ⟨p, m⟩ := s
  unfold snv
  have HI := Lib.hid h
  have hR := h.lt
  obtain ⟨ao, ac, hnv, -, -, -⟩ := h.names.ss.open
  subst hnv
  have hlen := Lib.hid (show ∃ n, l.length = n from ⟨_, rfl⟩)
  have q1 := h.cells.2.1
  clear h
  have hno := fun hv => hasB_not (p := p) (m := m) hl hv
  have hgt := fun k h1 h2 h3 => hasB_get (n := l.length) (k := k) (p := p) (m := m) h1 h2 h3
  have hys := fun h1 h2 => hasB_yes (n := l.length) (p := p) (m := m) h1 h2
  generalize hasB l.length (p, m) = H at *
  have HNO := Lib.hid hno; have HGT := Lib.hid hgt; have HYS := Lib.hid hys
  clear hno hgt hys hlen
  generalize l.length = n at *
  have hb0 := (Below.refl w.heap.size w).alloc (Nat.le_refl _) (.cells #[.int .u32 (p.toNat : Int), .int .u32 (m.toNat : Int)] 39)
  rcases hv : vld p m with _ | _
  · have hE := HNO.out hv
    have hVa := fun W => rvalid_any p m W
    rw [hv] at hVa
    have HVA := Lib.hid hVa; have HE := Lib.hid hE
    clear hVa hE hv
    go_enter Try.func49, Try.ntmps49
    go_wp2_with (go_at_call 74; refine Gives.then (HVA.out _) ?_; intro w1 hb)
    go_returns
    exact ⟨by rw [HE.out]; rfl, hb0.trans (hb.mono hb0.size)⟩
  · have hVa := fun W => rvalid_any p m W
    rw [hv] at hVa
    have HVA := Lib.hid hVa; have HV := Lib.hid hv
    clear hVa hv
    go_enter Try.func49, Try.ntmps49
    go_wp2_with fail
    go_at_call 74
    refine Gives.then (HVA.out _) ?_
    intro w1 hb
    have hw := hb0.trans (hb.mono hb0.size)
    have r0 := (hb.cell (p := ⟨w.heap.size, 0, none⟩) (by simp)).trans (cell_block (World.alloc_heap_new w _) rfl)
    have r1 := (hb.cell (p := ⟨w.heap.size, 1, none⟩) (by simp)).trans (cell_block (World.alloc_heap_new w _) rfl)
    have r2 := (hw.cell (p := ⟨R, 1, none⟩) hR).trans q1
    have lw : w.heap.size < w1.heap.size := by have := hb.size; rw [World.size_alloc] at this; omega
    clear hb hb0
    go_wp2_with fail
    go_loopw [5] (fun i wr => ∃ k : Nat, n ≤ k ∧ k ≤ 24 ∧ i = .int .i64 (k : Int) ∧ (∀ j, n ≤ j → j < k → getV p m j = 0) ∧ Below w1.heap.size w1 wr) (fun i _ => 24 - (intOf i).toNat)
    case atStart => exact ⟨n, Nat.le_refl _, hl, rfl, fun j h1 h2 => by omega, Below.refl _ _⟩
    case round =>
      obtain ⟨k, hk0, hk, rfl, hall, hwr⟩ := hrel
      have c0 := (hwr.cell (p := ⟨w.heap.size, 0, none⟩) lw).trans r0
      have c1 := (hwr.cell (p := ⟨w.heap.size, 1, none⟩) lw).trans r1
      have HALL := Lib.hid hall; have HWR := Lib.hid hwr
      clear r0 r1 r2 q1 hall hwr
      by_cases hlt : k < 24
      · have hget := fun W => rget_ok p m k HV.out hlt W
        by_cases hz : getV p m k = 0
        · have hmore : ∀ j, n ≤ j → j < k + 1 → getV p m j = 0 := fun j h1 h2 => by
            by_cases e : j = k
            · rw [e]; exact hz
            · exact HALL.out j h1 (by omega)
          rw [hz] at hget
          have HG := Lib.hid hget; have HM := Lib.hid hmore
          clear hget hmore hz
          go_wp2_with (go_at_call 59; refine Gives.then (HG.out _) ?_; intro w2 hb2; have HW2 := Lib.hid (HWR.out.trans (hb2.mono HWR.out.size)); clear hb2)
          go_roundw
          case rel => exact ⟨k + 1, by omega, by omega, by go_num, HM.out, HW2.out⟩
          case measure => simp [intOf]; omega
        · have hE := HGT.out k hk0 (by omega) hz
          have hz1 : (getV p m k == 0) = false := by rw [Bool.eq_false_iff]; intro e; exact hz (beq_iff_eq.1 e)
          have HE := Lib.hid hE
          have HG := Lib.hid hget
          clear hget hE hz
          generalize getV p m k = g at *
          go_wp2_with (go_at_call 59; refine Gives.then (HG.out _) ?_; intro w2 hb2; have HW2 := Lib.hid (HWR.out.trans (hb2.mono HWR.out.size)); clear hb2)
          go_returns
          exact ⟨by rw [HE.out]; rfl, hw.trans (HW2.out.mono hw.size)⟩
      · obtain rfl : k = 24 := by omega
        have HE := Lib.hid (HYS.out HV.out HALL.out)
        go_wp2_with fail
        go_returns
        exact ⟨by rw [HE.out]; rfl, hw.trans (HWR.out.mono hw.size)⟩
end Go.Proofs.Ytmgikhldkebjbaa
