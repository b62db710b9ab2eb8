/-
  The specification's Bundle: what an item does.
-/
import Derived.Test.YtmgikhldkebjbaaNd
namespace Go.Proofs.Ytmgikhldkebjbaa
open Go.RowKit Go.Shelf Go.Sort
/-- The sound of one feature, and whether a sound has a value for it. -/
theorem valN_bit (r : Snd) (hv : vld r.1 r.2 = true) (j : Nat) (hj : j < 24) : (valN r &&& (bit j).toNat = 0) ↔ getV r.1 r.2 j = 0 := by
  have e : valN r = (r.1 ||| r.2).toNat := by unfold valN; rw [BitVec.toNat_or]
  rw [e, and_bit _ j (by omega), BitVec.getLsbD_or]
  unfold getV
  cases r.1.getLsbD j <;> cases r.2.getLsbD j <;> simp
theorem with_plus (r : Snd) (j : Nat) (hj : j < 24) (h : getV r.1 r.2 j = 0) : withP r.1 j 1 = r.1 ||| bit j ∧ withM r.2 j 1 = r.2 ||| 0#32 := by
  unfold getV at h
  have hp : r.1.getLsbD j = false := by cases hh : r.1.getLsbD j <;> simp [hh] at h ⊢
  have hm : r.2.getLsbD j = false := by cases hh : r.2.getLsbD j <;> simp [hh, hp] at h ⊢
  constructor
  · apply BitVec.eq_of_getLsbD_eq
    intro i hi
    rw [withP_get _ _ _ _ (by omega) hi, BitVec.getLsbD_or, bit_get j i (by omega)]
    by_cases e : i = j
    · subst e; simp
    · simp [e]
  · apply BitVec.eq_of_getLsbD_eq
    intro i hi
    rw [withM_get _ _ _ _ (by omega) hi, BitVec.getLsbD_or]
    by_cases e : i = j
    · subst e; simp [hm]
    · simp [e]
theorem with_minus (r : Snd) (j : Nat) (hj : j < 24) (h : getV r.1 r.2 j = 0) : withP r.1 j (-1) = r.1 ||| 0#32 ∧ withM r.2 j (-1) = r.2 ||| bit j := by
  unfold getV at h
  have hp : r.1.getLsbD j = false := by cases hh : r.1.getLsbD j <;> simp [hh] at h ⊢
  have hm : r.2.getLsbD j = false := by cases hh : r.2.getLsbD j <;> simp [hh, hp] at h ⊢
  constructor
  · apply BitVec.eq_of_getLsbD_eq
    intro i hi
    rw [withP_get _ _ _ _ (by omega) hi, BitVec.getLsbD_or]
    by_cases e : i = j
    · subst e; simp [hp]
    · simp [e]
  · apply BitVec.eq_of_getLsbD_eq
    intro i hi
    rw [withM_get _ _ _ _ (by omega) hi, BitVec.getLsbD_or, bit_get j i (by omega)]
    by_cases e : i = j
    · subst e; simp
    · simp [e]
/-- What becomes of a valid sound by one item: nothing, or one value more. -/
theorem stepB_is (l : List ByteArray) (hl : l.length ≤ 24) (r : Snd) (hv : vld r.1 r.2 = true) (x : ByteArray) :
    (x.size = 0 ∧ stepB l r x = none) ∨
    (0 < x.size ∧ ∃ c, x.data.toList.getD 0 0 = c ∧
      ((c ≠ 43 ∧ c ≠ 45 ∧ stepB l r x = none) ∨
       ((c = 43 ∨ c = 45) ∧
        ((featO l (x.extract 1 x.size) = none ∧ stepB l r x = none) ∨
         ∃ j, j < 24 ∧ featO l (x.extract 1 x.size) = some j ∧
          ((getV r.1 r.2 j ≠ 0 ∧ stepB l r x = none) ∨
           (getV r.1 r.2 j = 0 ∧ ∃ v : Int, (v = if c = 43 then 1 else -1) ∧ stepB l r x = some (withP r.1 j v, withM r.2 j v) ∧ vld (withP r.1 j v) (withM r.2 j v) = true)))))) := by
  by_cases h0 : x.size = 0
  · left
    exact ⟨h0, by unfold stepB; rw [valS_empty h0]⟩
  · right
    refine ⟨by omega, _, rfl, ?_⟩
    generalize hc : x.data.toList.getD 0 0 = c
    cases hf : featO l (x.extract 1 x.size) with
    | none =>
      have hs : stepB l r x = none := by unfold stepB; rw [valS_no hf]
      by_cases h43 : c = 43
      · exact .inr ⟨.inl h43, .inl ⟨rfl, hs⟩⟩
      · by_cases h45 : c = 45
        · exact .inr ⟨.inr h45, .inl ⟨rfl, hs⟩⟩
        · exact .inl ⟨h43, h45, hs⟩
    | some j =>
      have hj : j < 24 := by
        obtain ⟨h1, _⟩ := featO_some hf
        omega
      have hval := valS_of (l := l) h0 hf hc
      by_cases h43 : c = 43
      · subst h43
        rw [if_pos rfl] at hval
        refine .inr ⟨.inl rfl, .inr ⟨j, hj, rfl, ?_⟩⟩
        have hb := valN_bit r hv j hj
        have hs : stepB l r x = if getV r.1 r.2 j = 0 then some (r.1 ||| bit j, r.2 ||| 0#32) else none := by
          unfold stepB; rw [hval]
          have e : valN (bit j, 0#32) = (bit j).toNat := by unfold valN; simp
          simp only [e]
          by_cases hg : getV r.1 r.2 j = 0
          · rw [if_pos hg, if_pos (hb.2 hg)]
          · rw [if_neg hg, if_neg (fun e => hg (hb.1 e))]
        by_cases hg : getV r.1 r.2 j = 0
        · obtain ⟨w1, w2⟩ := with_plus r j hj hg
          exact .inr ⟨hg, 1, by simp, by rw [hs, if_pos hg, w1, w2], vld_with hv j 1 hj⟩
        · exact .inl ⟨hg, by rw [hs, if_neg hg]⟩
      · by_cases h45 : c = 45
        · subst h45
          rw [if_neg (by decide), if_pos rfl] at hval
          refine .inr ⟨.inr rfl, .inr ⟨j, hj, rfl, ?_⟩⟩
          have hb := valN_bit r hv j hj
          have hs : stepB l r x = if getV r.1 r.2 j = 0 then some (r.1 ||| 0#32, r.2 ||| bit j) else none := by
            unfold stepB; rw [hval]
            have e : valN (0#32, bit j) = (bit j).toNat := by unfold valN; simp
            simp only [e]
            by_cases hg : getV r.1 r.2 j = 0
            · rw [if_pos hg, if_pos (hb.2 hg)]
            · rw [if_neg hg, if_neg (fun e => hg (hb.1 e))]
          by_cases hg : getV r.1 r.2 j = 0
          · obtain ⟨w1, w2⟩ := with_minus r j hj hg
            exact .inr ⟨hg, -1, by simp, by rw [hs, if_pos hg, w1, w2], vld_with hv j (-1) hj⟩
          · exact .inl ⟨hg, by rw [hs, if_neg hg]⟩
        · refine .inl ⟨h43, h45, ?_⟩
          rw [if_neg h43, if_neg h45] at hval
          unfold stepB; rw [hval]
end Go.Proofs.Ytmgikhldkebjbaa
