/-
  FeatsSets, for every argument.
-/
import Derived.Test.YtdbbmhefndjedaaDoorSk
import Derived.Test.YtdbbmhefndjedaaDoorMb
import Derived.Test.YtdbbmhefndjedaaDoorLa
namespace Go.Proofs.YtdbbmhefndjedaaDoor
open Go.RowKit Go.Sort
/-- The value of a feature, for whatever number. -/
def gI (p m : BitVec 32) (g : Int) : Int := if 0 ≤ g ∧ g < 24 then getV p m g.toNat else 0
theorem gI_nat (p m : BitVec 32) (k : Nat) (h : k < 24) : gI p m (k : Int) = getV p m k := by unfold gI; rw [if_pos (by omega)]; rfl
theorem gv_get (p m : BitVec 32) (h : vld p m = true) (g : Int) (w : World) : Gives 19 #[sn p.toNat m.toNat, .int .i64 g] w (.int .i64 (gI p m g)) := by
  by_cases hg : 0 ≤ g ∧ g < 24
  · obtain ⟨k, rfl⟩ := Int.eq_ofNat_of_zero_le hg.1
    rw [gI_nat p m k (by omega)]
    exact get_ok p m k h (by omega) w
  · have e : gI p m g = 0 := by unfold gI; rw [if_neg hg]
    rw [e]
    exact get_badF p m g h (by omega) w
theorem withP_get (p : BitVec 32) (k : Nat) (v : Int) (j : Nat) (hk : k < 32) (hj : j < 32) : (withP p k v).getLsbD j = if j = k then decide (v = 1) else p.getLsbD j := by
  unfold withP
  have hd : decide (j < 32) = true := decide_eq_true hj
  by_cases hv : v = 1
  · rw [if_pos hv]
    simp only [BitVec.getLsbD_or, BitVec.getLsbD_and, BitVec.getLsbD_not, bit_get k j hk, hd, Bool.true_and]
    by_cases e : j = k <;> simp [e, hv]
  · rw [if_neg hv]
    simp only [BitVec.getLsbD_and, BitVec.getLsbD_not, bit_get k j hk, hd, Bool.true_and]
    by_cases e : j = k <;> simp [e, hv]
theorem withM_get (p : BitVec 32) (k : Nat) (v : Int) (j : Nat) (hk : k < 32) (hj : j < 32) : (withM p k v).getLsbD j = if j = k then decide (v = -1) else p.getLsbD j := by
  unfold withM
  have hd : decide (j < 32) = true := decide_eq_true hj
  by_cases hv : v = -1
  · rw [if_pos hv]
    simp only [BitVec.getLsbD_or, BitVec.getLsbD_and, BitVec.getLsbD_not, bit_get k j hk, hd, Bool.true_and]
    by_cases e : j = k <;> simp [e, hv]
  · rw [if_neg hv]
    simp only [BitVec.getLsbD_and, BitVec.getLsbD_not, bit_get k j hk, hd, Bool.true_and]
    by_cases e : j = k <;> simp [e, hv]
theorem all_get (k : Nat) (h : k < 24) : (16777215#32).getLsbD k = true := (by decide : ∀ k : Fin 24, (16777215#32).getLsbD k.val = true) ⟨k, h⟩
/-- Valid, feature by feature. -/
theorem vld_bits {p m : BitVec 32} : vld p m = true ↔ ∀ j, j < 32 → (p.getLsbD j && m.getLsbD j) = false ∧ ((p.getLsbD j || m.getLsbD j) && !(16777215#32).getLsbD j) = false := by
  rw [vld_bv]
  constructor
  · rintro ⟨h1, h2⟩ j hj
    have a1 := congrArg (fun z => z.getLsbD j) h1
    have a2 := congrArg (fun z => z.getLsbD j) h2
    simp only [BitVec.getLsbD_and, BitVec.getLsbD_or, BitVec.getLsbD_not, BitVec.getLsbD_zero, decide_eq_true hj, Bool.true_and] at a1 a2
    exact ⟨a1, a2⟩
  · intro h
    constructor
    · apply bv_ext; intro j hj; simp only [BitVec.getLsbD_and, BitVec.getLsbD_zero]; exact (h j hj).1
    · apply bv_ext; intro j hj; simp only [BitVec.getLsbD_and, BitVec.getLsbD_or, BitVec.getLsbD_not, BitVec.getLsbD_zero, decide_eq_true hj, Bool.true_and]; exact (h j hj).2
theorem vld_with {p m : BitVec 32} (h : vld p m = true) (k : Nat) (v : Int) (hk : k < 24) : vld (withP p k v) (withM m k v) = true := by
  rw [vld_bits] at *
  intro j hj
  rw [withP_get p k v j (by omega) hj, withM_get m k v j (by omega) hj]
  by_cases e : j = k
  · subst e
    rw [if_pos rfl, if_pos rfl, all_get j hk]
    by_cases h1 : v = 1
    · subst h1; simp
    · simp [h1]
  · rw [if_neg e, if_neg e]; exact h j hj
theorem getV_with {p m : BitVec 32} (k : Nat) (v : Int) (j : Nat) (hk : k < 24) (hj : j < 32) (hv : v = 1 ∨ v = 0 ∨ v = -1) : getV (withP p k v) (withM m k v) j = if j = k then v else getV p m j := by
  unfold getV
  rw [withP_get p k v j (by omega) hj, withM_get m k v j (by omega) hj]
  by_cases e : j = k
  · subst e
    rw [if_pos rfl, if_pos rfl, if_pos rfl]
    rcases hv with rfl | rfl | rfl <;> simp
  · rw [if_neg e, if_neg e, if_neg e]
theorem getV_of_vld {p m : BitVec 32} (h : vld p m = true) (k : Nat) (hk : k < 32) : decide (getV p m k = 1) = p.getLsbD k ∧ decide (getV p m k = -1) = m.getLsbD k := by
  have := (vld_bits.1 h k hk).1
  unfold getV
  revert this
  cases p.getLsbD k <;> cases m.getLsbD k <;> simp
theorem with_back {p m : BitVec 32} (h : vld p m = true) (k : Nat) (v : Int) (hk : k < 24) : withP (withP p k v) k (getV p m k) = p ∧ withM (withM m k v) k (getV p m k) = m := by
  obtain ⟨h1, h2⟩ := getV_of_vld h k (by omega)
  constructor
  · apply bv_ext; intro j hj
    rw [withP_get _ k _ j (by omega) hj]
    by_cases e : j = k
    · subst e; rw [if_pos rfl, h1]
    · rw [if_neg e, withP_get _ k _ j (by omega) hj, if_neg e]
  · apply bv_ext; intro j hj
    rw [withM_get _ k _ j (by omega) hj]
    by_cases e : j = k
    · subst e; rw [if_pos rfl, h2]
    · rw [if_neg e, withM_get _ k _ j (by omega) hj, if_neg e]
theorem getV_three (p m : BitVec 32) (k : Nat) : getV p m k = 1 ∨ getV p m k = 0 ∨ getV p m k = -1 := by
  unfold getV; cases p.getLsbD k <;> cases m.getLsbD k <;> simp
theorem gv_with (p m : BitVec 32) (k : Nat) (v : Int) (h : vld p m = true) (hk : k < 24) (hv : v = 1 ∨ v = 0 ∨ v = -1) (w : World) : Gives 15 #[sn p.toNat m.toNat, .int .i64 (k : Int), .int .i64 v] w (.tuple #[sn (withP p k v).toNat (withM m k v).toNat, .int .i64 0]) :=
  Gives.eq (with_ok p m k v h hk w) rfl (by unfold withV; rw [if_pos hv])
theorem sets_any (x0 x1 : BitVec 32) (n : Int) (hn : 0 ≤ n ∧ n ≤ 255) (v : Int) (hv : 0 ≤ v ∧ v ≤ 255) (w : World) (hT : Tab w) (ht : 0 < w.heap.size) :
    Gives 10 #[.agg #[.int .u32 x0.toNat, .int .u32 x1.toNat], .int .u8 n, .int .u8 v] w (.bool true) := by
  have hvl := vld_made x0 x1
  have hmk := made_any x0 x1
  generalize x0 &&& 16777215#32 = p at *
  generalize (x1 &&& 16777215#32) &&& ~~~x0 = m at *
  obtain ⟨k, hk⟩ : ∃ k : Nat, n % 24 = (k : Int) := Int.eq_ofNat_of_zero_le (by omega)
  have hk24 : k < 24 := by omega
  obtain ⟨V, hV⟩ : ∃ V, v % 3 - 1 = V := ⟨_, rfl⟩
  have hV3 : V = 1 ∨ V = 0 ∨ V = -1 := by omega
  refine sets_core _ _ _ _ _ _ n v (gI p m) (gI (withP p k V) (withM m k V)) w hT ht hn.1 hn.2 hv.1 hv.2 hmk ?_ (gv_valid _ _ (vld_with hvl k V hk24)) (gv_get p m hvl) (gv_get _ _ (vld_with hvl k V hk24)) ?_ ?_ ?_
  · rw [hk, hV]; exact gv_with p m k V hvl hk24 hV3
  · rw [hk, hV, gI_nat _ _ k hk24, getV_with k V k hk24 (by omega) hV3, if_pos rfl]
  · intro g hg
    rw [hk] at hg
    unfold gI
    by_cases h : 0 ≤ g ∧ g < 24
    · rw [if_pos h, if_pos h, getV_with k V g.toNat hk24 (by omega) hV3, if_neg (by omega)]
    · rw [if_neg h, if_neg h]
  · intro w
    rw [hk, gI_nat _ _ k hk24]
    have := gv_with (withP p k V) (withM m k V) k (getV p m k) (vld_with hvl k V hk24) hk24 (getV_three p m k) w
    rwa [(with_back hvl k V hk24).1, (with_back hvl k V hk24).2] at this
open Go.ChangeShapes Go.WideShapes Go.ChangeAt Go.Joins in
theorem open_byte {H : Type} {enc : TypeId × Value → H} {w : World} {base : Nat} {spare : Nat → Bool} {held : Bool} {r : Reach} {b0 : Nat} {v : Value} {d : DataW H} {p : List MemPlace}
    (hv : Value.okWide Tryd.prog w r b0 5 v) (h : DataW.Trod enc Tryd.prog w base spare held 5 v d p) : ∃ x : Int, (0 ≤ x ∧ x ≤ 255) ∧ v = .int .u8 x := by
  obtain ⟨n, rfl, _, _, hw⟩ := open_int Tryd.underlying5 hv h
  have b := bounds_u8 hw
  exact ⟨n, by omega, rfl⟩
end Go.Proofs.YtdbbmhefndjedaaDoor
