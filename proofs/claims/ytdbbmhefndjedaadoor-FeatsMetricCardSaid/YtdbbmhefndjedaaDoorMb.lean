/-
  Made, and facts on sets of features as words of 32 bits.
-/
import Derived.Test.YtdbbmhefndjedaaDoorWb
namespace Go.Proofs.YtdbbmhefndjedaaDoor
open Go.RowKit Go.Sort
attribute [local go_sem] sv bv_and bv_or bv_xor bv_andNot ofInt32_nat nat_beq nat_beq0
theorem made_any (x y : BitVec 32) (w : World) : Gives 40 #[.int .u32 x.toNat, .int .u32 y.toNat] w (sn (x &&& 16777215#32).toNat ((y &&& 16777215#32) &&& ~~~x).toNat) := by
  unfold Gives
  go_enter Tryd.func40, Tryd.ntmps40
  go_wp2
  refine bodyPost_ret (v := sn (x &&& 16777215#32).toNat ((y &&& 16777215#32) &&& ~~~x).toNat) (by simp [results, Tryd.results40, go_sem]) rfl ⟨rfl, by go_grown⟩
theorem bv_ext {x y : BitVec 32} (h : ∀ i, i < 32 → x.getLsbD i = y.getLsbD i) : x = y := BitVec.eq_of_getLsbD_eq h
theorem vld_bv {p m : BitVec 32} : vld p m = true ↔ p &&& m = 0#32 ∧ (p ||| m) &&& ~~~16777215#32 = 0#32 := by simp [vld]
theorem vld_made (x y : BitVec 32) : vld (x &&& 16777215#32) ((y &&& 16777215#32) &&& ~~~x) = true := by
  rw [vld_bv]
  constructor
  · apply bv_ext; intro i hi; simp only [BitVec.getLsbD_and, BitVec.getLsbD_or, BitVec.getLsbD_not, BitVec.getLsbD_zero]
    cases x.getLsbD i <;> simp
  · apply bv_ext; intro i hi; simp only [BitVec.getLsbD_and, BitVec.getLsbD_or, BitVec.getLsbD_not, BitVec.getLsbD_zero]
    cases (16777215#32).getLsbD i <;> simp
theorem vld_and {p m : BitVec 32} (q n : BitVec 32) (h : vld p m = true) : vld (p &&& q) (m &&& n) = true := by
  rw [vld_bv] at *
  obtain ⟨h1, h2⟩ := h
  have a1 := fun i => congrArg (fun z => z.getLsbD i) h1
  have a2 := fun i => congrArg (fun z => z.getLsbD i) h2
  simp only [BitVec.getLsbD_and, BitVec.getLsbD_or, BitVec.getLsbD_not, BitVec.getLsbD_zero] at a1 a2
  constructor
  · apply bv_ext; intro i hi; simp only [BitVec.getLsbD_and, BitVec.getLsbD_or, BitVec.getLsbD_not, BitVec.getLsbD_zero]
    have := a1 i; revert this
    cases p.getLsbD i <;> cases m.getLsbD i <;> simp
  · apply bv_ext; intro i hi; simp only [BitVec.getLsbD_and, BitVec.getLsbD_or, BitVec.getLsbD_not, BitVec.getLsbD_zero]
    have := a2 i; revert this
    cases p.getLsbD i <;> cases m.getLsbD i <;> cases (16777215#32).getLsbD i <;> simp <;> omega
theorem gv_meet (p m q n : BitVec 32) (h1 : vld p m = true) (h2 : vld q n = true) (w : World) : Gives 28 #[sn p.toNat m.toNat, sn q.toNat n.toNat] w (sn (p &&& q).toNat (m &&& n).toNat) := meet_ok p m q n (by simp [h1, h2]) w
theorem gv_diff (p m q n : BitVec 32) (h1 : vld p m = true) (h2 : vld q n = true) (w : World) : Gives 30 #[sn p.toNat m.toNat, sn q.toNat n.toNat] w (.int .u32 ((p ^^^ q) ||| (m ^^^ n)).toNat) := diff_ok p m q n (by simp [h1, h2]) w
theorem gv_sat (p m q n : BitVec 32) (h1 : vld p m = true) (h2 : vld q n = true) (w : World) : Gives 24 #[sn p.toNat m.toNat, sn q.toNat n.toNat] w (.bool ((p &&& q == q) && (m &&& n == n))) := satisfies_ok p m q n (by simp [h1, h2]) w
theorem gv_valid (p m : BitVec 32) (h : vld p m = true) (w : World) : Gives 17 #[sn p.toNat m.toNat] w (.bool true) := valid_any p m true h w
end Go.Proofs.YtdbbmhefndjedaaDoor
