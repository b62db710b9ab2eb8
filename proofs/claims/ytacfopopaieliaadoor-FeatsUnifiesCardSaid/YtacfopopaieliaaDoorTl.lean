/-
  FeatsTakes, for every argument.
-/
import Derived.Test.YtacfopopaieliaaDoorTk
import Derived.Test.YtacfopopaieliaaDoorMb
namespace Go.Proofs.YtacfopopaieliaaDoor
open Go.RowKit Go.Sort
/-- What Take makes of one half of two sounds. -/
abbrev tk (p q c : BitVec 32) : BitVec 32 := (p &&& ~~~c) ||| (q &&& ~~~(bnot c))
theorem vbit {p m : BitVec 32} (h : vld p m = true) (i : Nat) (hi : i < 32) : (p.getLsbD i && m.getLsbD i) = false ∧ ((p.getLsbD i || m.getLsbD i) && !(16777215#32).getLsbD i) = false := by
  rw [vld_bv] at h
  have a1 := congrArg (fun z => z.getLsbD i) h.1
  have a2 := congrArg (fun z => z.getLsbD i) h.2
  simp only [BitVec.getLsbD_and, BitVec.getLsbD_or, BitVec.getLsbD_not, BitVec.getLsbD_zero, hi, decide_true, Bool.true_and] at a1 a2
  exact ⟨a1, a2⟩
theorem tk_all {p m q n : BitVec 32} (h1 : vld p m = true) (h2 : vld q n = true) : tk p q 16777215#32 = q ∧ tk m n 16777215#32 = n := by
  constructor
  all_goals
    apply bv_ext; intro i hi
    have a := vbit h1 i hi; have b := vbit h2 i hi
    simp only [tk, bnot, BitVec.getLsbD_and, BitVec.getLsbD_or, BitVec.getLsbD_not, hi, decide_true, Bool.true_and]
    generalize p.getLsbD i = x1 at *; generalize m.getLsbD i = x2 at *; generalize q.getLsbD i = x3 at *; generalize n.getLsbD i = x4 at *; generalize (16777215#32).getLsbD i = x5 at *
    clear h1 h2
    revert x1 x2 x3 x4 x5; decide
theorem tk_none (p q : BitVec 32) : tk p q 0#32 = p := by
  apply bv_ext; intro i hi
  simp only [tk, bnot, BitVec.getLsbD_and, BitVec.getLsbD_or, BitVec.getLsbD_not, BitVec.getLsbD_zero, hi, decide_true, Bool.true_and]
  cases p.getLsbD i <;> cases q.getLsbD i <;> rfl
theorem tk_self (p c : BitVec 32) : tk p p c = p := by
  apply bv_ext; intro i hi
  simp only [tk, bnot, BitVec.getLsbD_and, BitVec.getLsbD_or, BitVec.getLsbD_not, hi, decide_true, Bool.true_and]
  cases p.getLsbD i <;> cases c.getLsbD i <;> rfl
theorem tk_valid {p m q n : BitVec 32} (c : BitVec 32) (h1 : vld p m = true) (h2 : vld q n = true) : vld (tk p q c) (tk m n c) = true := by
  rw [vld_bv]
  constructor
  all_goals
    apply bv_ext; intro i hi
    have a := vbit h1 i hi; have b := vbit h2 i hi
    simp only [tk, bnot, BitVec.getLsbD_and, BitVec.getLsbD_or, BitVec.getLsbD_not, BitVec.getLsbD_zero, hi, decide_true, Bool.true_and]
    generalize p.getLsbD i = x1 at *; generalize m.getLsbD i = x2 at *; generalize q.getLsbD i = x3 at *; generalize n.getLsbD i = x4 at *; generalize (16777215#32).getLsbD i = x5 at *; generalize c.getLsbD i = x6 at *
    clear h1 h2
    revert x1 x2 x3 x4 x5 x6; decide
theorem tk_from (p m q n c : BitVec 32) : ((tk p q c ^^^ q) ||| (tk m n c ^^^ n)) &&& c = 0#32 := by
  apply bv_ext; intro i hi
  simp only [tk, bnot, BitVec.getLsbD_and, BitVec.getLsbD_or, BitVec.getLsbD_xor, BitVec.getLsbD_not, BitVec.getLsbD_zero, hi, decide_true, Bool.true_and]
  cases p.getLsbD i <;> cases m.getLsbD i <;> cases q.getLsbD i <;> cases n.getLsbD i <;> cases c.getLsbD i <;> rfl
theorem tk_old (p m q n c : BitVec 32) : ((tk p q c ^^^ p) ||| (tk m n c ^^^ m)) &&& ~~~c = 0#32 := by
  apply bv_ext; intro i hi
  simp only [tk, bnot, BitVec.getLsbD_and, BitVec.getLsbD_or, BitVec.getLsbD_xor, BitVec.getLsbD_not, BitVec.getLsbD_zero, hi, decide_true, Bool.true_and]
  cases p.getLsbD i <;> cases m.getLsbD i <;> cases q.getLsbD i <;> cases n.getLsbD i <;> cases c.getLsbD i <;> rfl
theorem in_all (z : BitVec 32) : z &&& 16777215#32 &&& 4278190080#32 = 0#32 := by
  rw [BitVec.and_assoc, show (16777215#32 &&& 4278190080#32) = 0#32 from by decide]; simp
theorem gv_take (p m c q n : BitVec 32) (h1 : vld p m = true) (h2 : vld q n = true) (hc : c &&& 4278190080#32 = 0#32) (w : World) :
    Gives 38 #[sn p.toNat m.toNat, sn q.toNat n.toNat, .int .u32 c.toNat] w (.tuple #[sn (tk p q c).toNat (tk m n c).toNat, .int .i64 0]) := take_ok p m c q n (by simp [h1, h2]) hc w
theorem bits_and (x y : BitVec 32) : bits .and .u32 x.toNat y.toNat = ((x &&& y).toNat : Int) := by rw [bv_and, ofInt32_nat, ofInt32_nat]
theorem bits_andNot (x y : BitVec 32) : bits .andNot .u32 x.toNat y.toNat = ((x &&& ~~~y).toNat : Int) := by rw [bv_andNot, ofInt32_nat, ofInt32_nat]
theorem takes_valid (x0 x1 y0 y1 z p m q n : BitVec 32) (h1 : vld p m = true) (h2 : vld q n = true)
    (m1 : ∀ w, Gives 40 #[.int .u32 x0.toNat, .int .u32 x1.toNat] w (sn p.toNat m.toNat)) (m2 : ∀ w, Gives 40 #[.int .u32 y0.toNat, .int .u32 y1.toNat] w (sn q.toNat n.toNat)) (w : World) (hT : Tab w) (ht : 0 < w.heap.size) :
    Gives 12 #[.agg #[.int .u32 x0.toNat, .int .u32 x1.toNat], .agg #[.int .u32 y0.toNat, .int .u32 y1.toNat], .int .u32 z.toNat] w (.bool true) :=
  takes_core _ _ _ _ _ _ _ _ _ (z &&& 16777215#32).toNat _ _ _ _ w hT ht m1 m2 (bits_and z 16777215#32)
    (gv_take p m (z &&& 16777215#32) q n h1 h2 (in_all z))
    (fun w => by have := gv_take p m 16777215#32 q n h1 h2 (by decide) w; rwa [(tk_all h1 h2).1, (tk_all h1 h2).2] at this)
    (fun w => by have := gv_take p m 0#32 q n h1 h2 (by decide) w; rwa [tk_none, tk_none] at this)
    (fun w => by have := gv_take p m (z &&& 16777215#32) p m h1 h1 (in_all z) w; rwa [tk_self, tk_self] at this)
    (gv_valid _ _ (tk_valid _ h1 h2)) (gv_diff _ _ q n (tk_valid _ h1 h2) h2) (gv_diff _ _ p m (tk_valid _ h1 h2) h1)
    (by rw [bits_and, tk_from]; rfl) (by rw [bits_andNot, tk_old]; rfl)
theorem takes_any (x0 x1 y0 y1 z : BitVec 32) (w : World) (hT : Tab w) (ht : 0 < w.heap.size) :
    Gives 12 #[.agg #[.int .u32 x0.toNat, .int .u32 x1.toNat], .agg #[.int .u32 y0.toNat, .int .u32 y1.toNat], .int .u32 z.toNat] w (.bool true) :=
  takes_valid x0 x1 y0 y1 z _ _ _ _ (vld_made x0 x1) (vld_made y0 y1) (made_any x0 x1) (made_any y0 y1) w hT ht
end Go.Proofs.YtacfopopaieliaaDoor
