/-
  Sets of features that are gone over one after the other: the first k bits of one set, the others of another one.
-/
import Derived.Test.YtdbbmhefndjedaaDoorVa
namespace Go.Proofs.YtdbbmhefndjedaaDoor
open Go.RowKit Go.Sort
/-- The first k features. -/
def low (k : Nat) : BitVec 32 := BitVec.ofNat 32 (2 ^ k - 1)
theorem low_get (k j : Nat) (hj : j < 32) : (low k).getLsbD j = decide (j < k) := by
  unfold low
  rw [BitVec.getLsbD_ofNat, Nat.testBit_two_pow_sub_one]
  simp [hj]
/-- The first k bits of F, the others of G. -/
def mix (F G : BitVec 32) (k : Nat) : BitVec 32 := (F &&& low k) ||| (G &&& ~~~low k)
theorem mix_get (F G : BitVec 32) (k j : Nat) (hj : j < 32) : (mix F G k).getLsbD j = if j < k then F.getLsbD j else G.getLsbD j := by
  unfold mix
  rw [BitVec.getLsbD_or, BitVec.getLsbD_and, BitVec.getLsbD_and, BitVec.getLsbD_not, low_get k j hj]
  by_cases h : j < k <;> simp [h, hj]
theorem mix_zero (F G : BitVec 32) : mix F G 0 = G := by
  apply bv_ext; intro j hj; rw [mix_get F G 0 j hj, if_neg (by omega)]
theorem mix_all {F G : BitVec 32} (h : ∀ j, j < 32 → 24 ≤ j → F.getLsbD j = G.getLsbD j) : mix F G 24 = F := by
  apply bv_ext; intro j hj; rw [mix_get F G 24 j hj]
  split
  · rfl
  · exact (h j hj (by omega)).symm
theorem mix_putP (F G : BitVec 32) (k : Nat) (v : Int) (hk : k < 32) (h : F.getLsbD k = decide (v = 1)) : withP (mix F G k) k v = mix F G (k + 1) := by
  apply bv_ext; intro j hj
  rw [withP_get _ k v j hk hj, mix_get F G (k + 1) j hj, mix_get F G k j hj]
  by_cases e : j = k
  · subst e; rw [if_pos rfl, if_pos (by omega), h]
  · rw [if_neg e]
    by_cases h2 : j < k
    · rw [if_pos h2, if_pos (by omega)]
    · rw [if_neg h2, if_neg (by omega)]
theorem mix_putM (F G : BitVec 32) (k : Nat) (v : Int) (hk : k < 32) (h : F.getLsbD k = decide (v = -1)) : withM (mix F G k) k v = mix F G (k + 1) := by
  apply bv_ext; intro j hj
  rw [withM_get _ k v j hk hj, mix_get F G (k + 1) j hj, mix_get F G k j hj]
  by_cases e : j = k
  · subst e; rw [if_pos rfl, if_pos (by omega), h]
  · rw [if_neg e]
    by_cases h2 : j < k
    · rw [if_pos h2, if_pos (by omega)]
    · rw [if_neg h2, if_neg (by omega)]
theorem mix_keep (F G : BitVec 32) (k : Nat) (h : F.getLsbD k = G.getLsbD k) : mix F G (k + 1) = mix F G k := by
  apply bv_ext; intro j hj
  rw [mix_get F G (k + 1) j hj, mix_get F G k j hj]
  by_cases e : j = k
  · subst e; rw [if_pos (by omega), if_neg (by omega), h]
  · by_cases h2 : j < k
    · rw [if_pos h2, if_pos (by omega)]
    · rw [if_neg h2, if_neg (by omega)]
theorem mix_bit (F G : BitVec 32) (k : Nat) (hk : k < 32) (h : F.getLsbD k = true) (hg : G = 0#32) : mix F G k ||| bit k = mix F G (k + 1) := by
  apply bv_ext; intro j hj
  rw [BitVec.getLsbD_or, mix_get F G (k + 1) j hj, mix_get F G k j hj, bit_get k j hk]
  by_cases e : j = k
  · subst e; rw [if_neg (Nat.lt_irrefl j), if_pos (Nat.lt_succ_self j), h]; simp
  · by_cases h2 : j < k
    · rw [if_pos h2, if_pos (by omega)]; simp [e]
    · rw [if_neg h2, if_neg (show ¬ j < k + 1 by omega), hg]; simp [e]
/-- The bits of a valid sound's features. -/
theorem vld_high {p m : BitVec 32} (h : vld p m = true) (j : Nat) (hj : j < 32) (h24 : 24 ≤ j) : p.getLsbD j = false ∧ m.getLsbD j = false := by
  have h2 := (vld_bits.1 h j hj).2
  have ha : (16777215#32).getLsbD j = false := (by decide : ∀ k : Fin 32, 24 ≤ k.val → (16777215#32).getLsbD k.val = false) ⟨j, hj⟩ h24
  rw [ha] at h2
  revert h2
  cases p.getLsbD j <;> cases m.getLsbD j <;> simp
theorem getV_bits {p m : BitVec 32} (h : vld p m = true) (k : Nat) (hk : k < 32) : p.getLsbD k = decide (getV p m k = 1) ∧ m.getLsbD k = decide (getV p m k = -1) := by
  obtain ⟨h1, h2⟩ := getV_of_vld h k hk
  exact ⟨h1.symm, h2.symm⟩
theorem diff_bit {p m q n : BitVec 32} (h1 : vld p m = true) (h2 : vld q n = true) (k : Nat) (hk : k < 32) : ((p ^^^ q) ||| (m ^^^ n)).getLsbD k = decide (getV p m k ≠ getV q n k) := by
  obtain ⟨a1, a2⟩ := getV_bits h1 k hk
  obtain ⟨b1, b2⟩ := getV_bits h2 k hk
  rw [BitVec.getLsbD_or, BitVec.getLsbD_xor, BitVec.getLsbD_xor, a1, a2, b1, b2]
  rcases getV_three p m k with e | e | e <;> rcases getV_three q n k with f | f | f <;> simp [e, f]
/-- What Get of the specification returns, of a feature. -/
def gV (p m : BitVec 32) (k : Nat) : Int := if vld p m then getV p m k else 0
theorem gV_of {p m : BitVec 32} (h : vld p m = true) (k : Nat) : gV p m k = getV p m k := by unfold gV; rw [if_pos h]
theorem gV_not {p m : BitVec 32} (h : vld p m = false) (k : Nat) : gV p m k = 0 := by unfold gV; rw [if_neg (by simp [h])]
theorem gV_three (p m : BitVec 32) (k : Nat) : gV p m k = 1 ∨ gV p m k = 0 ∨ gV p m k = -1 := by
  unfold gV; split
  · exact getV_three p m k
  · exact .inr (.inl rfl)
theorem rgv (p m : BitVec 32) (k : Nat) (hk : k < 24) (w : World) : Gives 20 #[sn p.toNat m.toNat, .int .i64 (k : Int)] w (.int .i64 (gV p m k)) := by
  have := rgv_get p m k w
  rwa [gI_nat p m k hk] at this
end Go.Proofs.YtdbbmhefndjedaaDoor
