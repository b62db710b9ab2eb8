/-
  The arithmetic of 32-bit sets as the walk writes it, in words of BitVec 32. No program is named here.
-/
import Derived.WalkKit
namespace Go.Proofs.Ytmgikhldkebjbaa
open Go.RowKit

theorem ofInt32_nat (x : BitVec 32) : BitVec.ofInt 32 (x.toNat : Int) = x := by
  rw [BitVec.ofInt_natCast]; simp
theorem u32_lt (x : BitVec 32) : x.toNat < 4294967296 := x.isLt
theorem wrap_u32_nat (x : BitVec 32) : IntKind.u32.wrap (x.toNat : Int) = (x.toNat : Int) := by
  have := u32_lt x; rw [IntKind.wrap_u32]; omega
theorem bv_and (a b : Int) : bits .and .u32 a b = ((BitVec.ofInt 32 a &&& BitVec.ofInt 32 b).toNat : Int) := by
  show IntKind.u32.wrap _ = _; exact wrap_u32_nat _
theorem bv_or (a b : Int) : bits .or .u32 a b = ((BitVec.ofInt 32 a ||| BitVec.ofInt 32 b).toNat : Int) := by
  show IntKind.u32.wrap _ = _; exact wrap_u32_nat _
theorem bv_xor (a b : Int) : bits .xor .u32 a b = ((BitVec.ofInt 32 a ^^^ BitVec.ofInt 32 b).toNat : Int) := by
  show IntKind.u32.wrap _ = _; exact wrap_u32_nat _
theorem bv_andNot (a b : Int) : bits .andNot .u32 a b = ((BitVec.ofInt 32 a &&& ~~~BitVec.ofInt 32 b).toNat : Int) := by
  show IntKind.u32.wrap _ = _; exact wrap_u32_nat _
theorem nat_beq (x y : BitVec 32) : (((x.toNat : Nat) : Int) == ((y.toNat : Nat) : Int)) = (x == y) := by
  rw [Bool.eq_iff_iff]; simp [BitVec.toNat_inj, Int.ofNat_inj]
theorem nat_beq0 (x : BitVec 32) : (((x.toNat : Nat) : Int) == 0) = (x == 0#32) := by
  have := nat_beq x 0#32; simpa using this
/-- A sound as a value. -/
abbrev sv (p m : BitVec 32) : Value := .agg #[.int .u32 (p.toNat : Int), .int .u32 (m.toNat : Int)]
/-- The set of one feature. -/
def bit (k : Nat) : BitVec 32 := 1#32 <<< k
theorem bit_toNat (k : Nat) (hk : k < 32) : (bit k).toNat = 2 ^ k := by
  unfold bit
  rw [BitVec.toNat_shiftLeft, Nat.shiftLeft_eq]
  have : 2 ^ k < 2 ^ 32 := Nat.pow_lt_pow_right (by omega) hk
  simp; omega
theorem pow_bit (k : Nat) (hk : k < 32) : (2 : Int) ^ k % 4294967296 = ((bit k).toNat : Int) := by
  have h2 : 2 ^ k < 2 ^ 32 := Nat.pow_lt_pow_right (by omega) hk
  rw [bit_toNat k hk, show (2 ^ k : Int) = ((2 ^ k : Nat) : Int) from by simp]
  generalize 2 ^ k = z at *
  omega
theorem bit_get (k j : Nat) (hk : k < 32) : (bit k).getLsbD j = decide (j = k) := by
  unfold bit
  rw [BitVec.getLsbD_shiftLeft]
  by_cases h : j = k
  · subst h; simp [hk]
  · simp [h]; intro _ h2 h3; omega
theorem and_bit (x : BitVec 32) (k : Nat) (hk : k < 32) : x.toNat &&& (bit k).toNat = 0 ↔ x.getLsbD k = false := by
  rw [← BitVec.toNat_and, show (0 : Nat) = (0#32).toNat from rfl, BitVec.toNat_inj]
  constructor
  · intro h
    have := congrArg (fun y => y.getLsbD k) h
    simpa [bit_get k k hk] using this
  · intro h
    apply BitVec.eq_of_getLsbD_eq
    intro j hj
    simp [bit_get k j hk]
    intro h1 h2; subst h2; simp [h] at h1
/-- The value of a feature. -/
def getV (p m : BitVec 32) (k : Nat) : Int := if p.getLsbD k then 1 else if m.getLsbD k then -1 else 0
/-- A sound with another value of a feature. -/
def withP (p : BitVec 32) (k : Nat) (v : Int) : BitVec 32 := if v = 1 then (p &&& ~~~bit k) ||| bit k else p &&& ~~~bit k
def withM (m : BitVec 32) (k : Nat) (v : Int) : BitVec 32 := if v = -1 then (m &&& ~~~bit k) ||| bit k else m &&& ~~~bit k
/-- The complement of a set, as one word. -/
def bnot (c : BitVec 32) : BitVec 32 := ~~~c
theorem bnot_toNat (c : BitVec 32) : (bnot c).toNat = 4294967295 - c.toNat := by unfold bnot; simp
theorem xor_all (c : BitVec 32) : 4294967295 ^^^ c.toNat = (bnot c).toNat := by
  rw [show (4294967295 : Nat) = (BitVec.allOnes 32).toNat from by decide, ← BitVec.toNat_xor, BitVec.allOnes_xor]; rfl
theorem u32_unsigned : IntKind.u32.signed = false := rfl
theorem u32_max : IntKind.u32.max = 4294967295 := rfl
theorem sub_mod (x : Nat) : (4294967295 - x) % 4294967296 = 4294967295 - x := by omega
/-- Which sounds are valid. -/
def vld (p m : BitVec 32) : Bool := (p &&& m == 0#32) && ((p ||| m) &&& ~~~16777215#32 == 0#32)
end Go.Proofs.Ytmgikhldkebjbaa
