/-
  Lemmas that the theorem of this claim rests on: 1 texts, one behind the other.
-/
import Derived.Test.YtmobilppakjihaaDoorM8
import Derived.Lib.BitFns
set_option linter.unusedSimpArgs false
set_option linter.unusedVariables false
/-
  The greatest place of a set.
-/
namespace Go.Proofs.YtmobilppakjihaaDoor
open Go.RowKit Go.Sort
theorem len_fold (X : Array UInt8) (h : ByteArray.mk X = Lib.len8tab) : ByteArray.mk X = Lib.len8tab := h
theorem blen_log : ∀ (f x : Nat), x < 2 ^ f → Lib.bitLenAux f x = if x = 0 then 0 else Nat.log2 x + 1
  | 0, x, h => by
    have : x = 0 := by omega
    subst this; rfl
  | f + 1, x, h => by
    unfold Lib.bitLenAux
    by_cases h0 : x = 0
    · rw [if_pos h0, if_pos h0]
    · rw [if_neg h0, if_neg h0, blen_log f (x / 2) (by rw [Nat.pow_succ] at h; omega)]
      rw [Nat.log2_def x]
      by_cases h2 : 2 ≤ x
      · rw [if_pos h2, if_neg (by omega)]; omega
      · rw [if_neg h2, if_pos (by omega)]
theorem blen_eq {x : Nat} (h : x < 18446744073709551616) (h0 : x ≠ 0) : Lib.bitLen x = Nat.log2 x + 1 := by
  unfold Lib.bitLen
  rw [blen_log 64 x (by simpa using h), if_neg h0]
/-- The shift of a length. -/
theorem log_div {x k : Nat} (h : 2 ^ k ≤ x) : Nat.log2 x = Nat.log2 (x / 2 ^ k) + k := by
  induction k generalizing x with
  | zero => simp
  | succ k ih =>
    have h1 : 2 ^ k ≤ x / 2 := by rw [Nat.pow_succ] at h; omega
    have h2 : 2 ≤ x := by
      have := Nat.two_pow_pos k
      rw [Nat.pow_succ] at h; omega
    rw [Nat.log2_def x, if_pos h2, ih h1, Nat.div_div_eq_div_mul, Nat.pow_succ, Nat.mul_comm 2]
    omega
theorem len8_nat {q : Nat} (h : q < 256) (h0 : q ≠ 0) : Lib.len8 ((q : Int) % 256) = ((Nat.log2 q + 1 : Nat) : Int) ∧ Nat.log2 q < 8 := by
  have e := Lib.len8_eq ⟨q, h⟩
  have l := Lib.bitLen_le8 ⟨q, h⟩
  simp only at e l
  rw [blen_eq (by omega) h0] at e l
  rw [show (q : Int) % 256 = (q : Int) from by omega]
  exact ⟨e, by omega⟩
set_option maxHeartbeats 4000000 in
set_option maxRecDepth 100000 in
theorem len64_any (x : Nat) (w : World) (h0 : x ≠ 0) (h1 : x < 8589934592) :
    Calls Tryd.prog 83 #[.int .u64 (x : Int)] w fun e w' => e = .returned (.int .i64 ((Nat.log2 x + 1 : Nat) : Int)) ∧ w = w' := by
  by_cases c4 : x < 4294967296
  · by_cases c3 : x < 65536
    · by_cases c2 : x < 256
      · obtain ⟨e, l⟩ := len8_nat c2 h0
        have g1 : decide ((256 : Int) ≤ (x : Int)) = false := decide_eq_false (by omega)
        have g2 : decide ((65536 : Int) ≤ (x : Int)) = false := decide_eq_false (by omega)
        have g3 : decide ((4294967296 : Int) ≤ (x : Int)) = false := decide_eq_false (by omega)
        have E := Lib.hid e; have L := Lib.hid l
        clear h0 h1 c2 c3 c4 e l
        go_enter Tryd.func83, Tryd.ntmps83
        rw [len_fold]
        rotate_left
        · decide +kernel
        go_wp2_with fail
        go_returns
        refine ⟨ret_num ?_, rfl⟩
        have l := L.out
        have e := E.out
        unfold wrap64
        omega
      · obtain ⟨q, hq⟩ : ∃ q, x / 256 = q := ⟨_, rfl⟩
        obtain ⟨e, l⟩ := len8_nat (q := q) (by omega) (by omega)
        have hlog := log_div (x := x) (k := 8) (by omega)
        rw [show x / 2 ^ 8 = q from hq] at hlog
        have hqi : (x : Int) / 256 = (q : Int) := by omega
        have g1 : decide ((256 : Int) ≤ (x : Int)) = true := decide_eq_true (by omega)
        have g2 : decide ((65536 : Int) ≤ (x : Int)) = false := decide_eq_false (by omega)
        have g3 : decide ((4294967296 : Int) ≤ (x : Int)) = false := decide_eq_false (by omega)
        have E := Lib.hid e; have L := Lib.hid l; have HL := Lib.hid hlog; have HQ := Lib.hid hqi
        clear h0 h1 c2 c3 c4 e l hlog hq hqi
        go_enter Tryd.func83, Tryd.ntmps83
        rw [len_fold]
        rotate_left
        · decide +kernel
        go_wp2_with fail
        go_returns
        refine ⟨ret_num ?_, rfl⟩
        have l := L.out
        have e := E.out
        have hl := HL.out
        have hq := HQ.out
        rw [hl]
        unfold wrap64
        simp only [hq]
        omega
    · by_cases c2 : x < 16777216
      · obtain ⟨q, hq⟩ : ∃ q, x / 65536 = q := ⟨_, rfl⟩
        obtain ⟨e, l⟩ := len8_nat (q := q) (by omega) (by omega)
        have hlog := log_div (x := x) (k := 16) (by omega)
        rw [show x / 2 ^ 16 = q from hq] at hlog
        have hqi : (x : Int) / 65536 = (q : Int) := by omega
        have g1 : decide ((256 : Int) ≤ (x : Int) / 65536) = false := decide_eq_false (by omega)
        have g2 : decide ((65536 : Int) ≤ (x : Int)) = true := decide_eq_true (by omega)
        have g3 : decide ((4294967296 : Int) ≤ (x : Int)) = false := decide_eq_false (by omega)
        have E := Lib.hid e; have L := Lib.hid l; have HL := Lib.hid hlog; have HQ := Lib.hid hqi
        clear h0 h1 c2 c3 c4 e l hlog hq hqi
        go_enter Tryd.func83, Tryd.ntmps83
        rw [len_fold]
        rotate_left
        · decide +kernel
        go_wp2_with fail
        go_returns
        refine ⟨ret_num ?_, rfl⟩
        have l := L.out
        have e := E.out
        have hl := HL.out
        have hq := HQ.out
        rw [hl]
        unfold wrap64
        simp only [hq]
        omega
      · obtain ⟨q, hq⟩ : ∃ q, x / 16777216 = q := ⟨_, rfl⟩
        obtain ⟨e, l⟩ := len8_nat (q := q) (by omega) (by omega)
        have hlog := log_div (x := x) (k := 24) (by omega)
        rw [show x / 2 ^ 24 = q from hq] at hlog
        have hqi : (x : Int) / 65536 / 256 = (q : Int) := by omega
        have g1 : decide ((256 : Int) ≤ (x : Int) / 65536) = true := decide_eq_true (by omega)
        have g2 : decide ((65536 : Int) ≤ (x : Int)) = true := decide_eq_true (by omega)
        have g3 : decide ((4294967296 : Int) ≤ (x : Int)) = false := decide_eq_false (by omega)
        have E := Lib.hid e; have L := Lib.hid l; have HL := Lib.hid hlog; have HQ := Lib.hid hqi
        clear h0 h1 c2 c3 c4 e l hlog hq hqi
        go_enter Tryd.func83, Tryd.ntmps83
        rw [len_fold]
        rotate_left
        · decide +kernel
        go_wp2_with fail
        go_returns
        refine ⟨ret_num ?_, rfl⟩
        have l := L.out
        have e := E.out
        have hl := HL.out
        have hq := HQ.out
        rw [hl]
        unfold wrap64
        simp only [hq]
        omega
  · obtain ⟨q, hq⟩ : ∃ q, x / 4294967296 = q := ⟨_, rfl⟩
    obtain ⟨e, l⟩ := len8_nat (q := q) (by omega) (by omega)
    have hlog := log_div (x := x) (k := 32) (by omega)
    rw [show x / 2 ^ 32 = q from hq] at hlog
    have hqi : (x : Int) / 4294967296 = (q : Int) := by omega
    have g1 : decide ((256 : Int) ≤ (x : Int) / 4294967296) = false := decide_eq_false (by omega)
    have g2 : decide ((65536 : Int) ≤ (x : Int) / 4294967296) = false := decide_eq_false (by omega)
    have g3 : decide ((4294967296 : Int) ≤ (x : Int)) = true := decide_eq_true (by omega)
    have E := Lib.hid e; have L := Lib.hid l; have HL := Lib.hid hlog; have HQ := Lib.hid hqi
    clear h0 h1 c4 e l hlog hq hqi
    go_enter Tryd.func83, Tryd.ntmps83
    rw [len_fold]
    rotate_left
    · decide +kernel
    go_wp2_with fail
    go_returns
    refine ⟨ret_num ?_, rfl⟩
    have l := L.out
    have e := E.out
    have hl := HL.out
    have hq := HQ.out
    rw [hl]
    unfold wrap64
    simp only [hq]
    omega
set_option maxHeartbeats 400000 in
theorem greatest_any (s : BitVec 64) (w : World) (h0 : s.toNat ≠ 0) (h1 : s.toNat < 8589934592) :
    Calls Tryd.prog 60 #[.int .u64 (s.toNat : Int)] w fun e w' => e = .returned (.int .i64 (Nat.log2 s.toNat : Int)) ∧ w = w' := by
  have hl := len64_any s.toNat w h0 h1
  have hlog : Nat.log2 s.toNat < 64 := by rw [Nat.log2_lt h0]; exact s.isLt
  generalize s.toNat = x at *
  generalize Nat.log2 x = g at *
  have HL := Lib.hid hl; have HG := Lib.hid hlog
  clear h0 h1 hl hlog
  go_enter Tryd.func60, Tryd.ntmps60
  go_wp2_with (go_at_call 83; refine HL.out.mono ?_; rintro e w1 ⟨rfl, rfl⟩)
  go_returns
  refine ⟨ret_num ?_, rfl⟩
  have := HG.out
  first | omega | (unfold wrap64; omega)
/-- The greatest place of a set. -/
theorem log_bit {s : BitVec 64} (h0 : s.toNat ≠ 0) : s.getLsbD (Nat.log2 s.toNat) = true ∧ ∀ b, s.getLsbD b = true → b ≤ Nat.log2 s.toNat := by
  refine ⟨?_, fun b hb => ?_⟩
  · show s.toNat.testBit _ = true
    rw [Nat.testBit_eq_decide_div_mod_eq, decide_eq_true_eq]
    have h1 := Nat.log2_self_le h0
    have h2 : s.toNat < 2 ^ (Nat.log2 s.toNat + 1) := Nat.lt_log2_self
    have hd : s.toNat / 2 ^ Nat.log2 s.toNat = 1 := by
      rw [Nat.pow_succ] at h2
      exact Nat.div_eq_of_lt_le (by omega) (by omega)
    rw [hd]
  · have hb' : s.toNat.testBit b = true := hb
    have h1 := Nat.ge_two_pow_of_testBit hb'
    exact (Nat.le_log2 h0).2 h1
end Go.Proofs.YtmobilppakjihaaDoor
