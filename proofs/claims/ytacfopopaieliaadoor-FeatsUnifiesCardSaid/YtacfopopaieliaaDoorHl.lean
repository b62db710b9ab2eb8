/-
  FeatsChanged, for every argument.
-/
import Derived.Test.YtacfopopaieliaaDoorHk
import Derived.Test.YtacfopopaieliaaDoorTl
namespace Go.Proofs.YtacfopopaieliaaDoor
open Go.RowKit Go.Sort
/-- What Change makes of one half of a sound: s is the set of the features that get a value. -/
abbrev ch (p q s c : BitVec 32) : BitVec 32 := (p &&& ~~~(c ||| s)) ||| q
theorem gv_change (p m c q n : BitVec 32) (h1 : vld p m = true) (h2 : vld q n = true) (hc : c &&& 4278190080#32 = 0#32) (hd : c &&& (q ||| n) = 0#32) (w : World) :
    Gives 36 #[sn p.toNat m.toNat, .int .u32 c.toNat, sn q.toNat n.toNat] w (.tuple #[sn (ch p q (q ||| n) c).toNat (ch m n (q ||| n) c).toNat, .int .i64 0]) := change_ok p m c q n (by simp [h1, h2]) ⟨hc, hd⟩ w
theorem bits_or (x y : BitVec 32) : bits .or .u32 x.toNat y.toNat = ((x ||| y).toNat : Int) := by rw [bv_or, ofInt32_nat, ofInt32_nat]
theorem ch_valid {p m q n : BitVec 32} (c : BitVec 32) (h1 : vld p m = true) (h2 : vld q n = true) : vld (ch p q (q ||| n) c) (ch m n (q ||| n) c) = true := by
  rw [vld_bv]
  constructor
  all_goals
    apply bv_ext; intro i hi
    have a := vbit h1 i hi; have b := vbit h2 i hi
    simp only [ch, BitVec.getLsbD_and, BitVec.getLsbD_or, BitVec.getLsbD_not, BitVec.getLsbD_zero, hi, decide_true, Bool.true_and]
    generalize p.getLsbD i = x1 at *; generalize m.getLsbD i = x2 at *; generalize q.getLsbD i = x3 at *; generalize n.getLsbD i = x4 at *; generalize (16777215#32).getLsbD i = x5 at *; generalize c.getLsbD i = x6 at *
    clear h1 h2
    revert x1 x2 x3 x4 x5 x6; decide
theorem ch_again (p q s c : BitVec 32) : ch (ch p q s c) q s c = ch p q s c := by
  apply bv_ext; intro i hi
  simp only [ch, BitVec.getLsbD_and, BitVec.getLsbD_or, BitVec.getLsbD_not, hi, decide_true, Bool.true_and]
  cases p.getLsbD i <;> cases q.getLsbD i <;> cases s.getLsbD i <;> cases c.getLsbD i <;> rfl
theorem ch_has (p q s c : BitVec 32) : ch p q s c &&& q = q := by
  apply bv_ext; intro i hi
  simp only [ch, BitVec.getLsbD_and, BitVec.getLsbD_or, BitVec.getLsbD_not, hi, decide_true, Bool.true_and]
  cases p.getLsbD i <;> cases q.getLsbD i <;> cases s.getLsbD i <;> cases c.getLsbD i <;> rfl
theorem ch_gone (p m q n z : BitVec 32) : (ch p q (q ||| n) (z &&& ~~~(q ||| n)) ||| ch m n (q ||| n) (z &&& ~~~(q ||| n))) &&& (z &&& ~~~(q ||| n)) = 0#32 := by
  apply bv_ext; intro i hi
  simp only [ch, BitVec.getLsbD_and, BitVec.getLsbD_or, BitVec.getLsbD_not, BitVec.getLsbD_zero, hi, decide_true, Bool.true_and]
  cases p.getLsbD i <;> cases m.getLsbD i <;> cases q.getLsbD i <;> cases n.getLsbD i <;> cases z.getLsbD i <;> rfl
theorem ch_diff (p m q n c : BitVec 32) : ((p ^^^ ch p q (q ||| n) c) ||| (m ^^^ ch m n (q ||| n) c)) &&& ~~~(c ||| q ||| n) = 0#32 := by
  apply bv_ext; intro i hi
  simp only [ch, BitVec.getLsbD_and, BitVec.getLsbD_or, BitVec.getLsbD_xor, BitVec.getLsbD_not, BitVec.getLsbD_zero, hi, decide_true, Bool.true_and]
  cases p.getLsbD i <;> cases m.getLsbD i <;> cases q.getLsbD i <;> cases n.getLsbD i <;> cases c.getLsbD i <;> rfl
theorem k_in (z s : BitVec 32) : z &&& 16777215#32 &&& ~~~s &&& 4278190080#32 = 0#32 := by
  rw [BitVec.and_assoc, BitVec.and_comm (~~~s), ← BitVec.and_assoc, in_all]; simp
theorem k_apart (z s : BitVec 32) : z &&& ~~~s &&& s = 0#32 := by
  apply bv_ext; intro i hi
  simp only [BitVec.getLsbD_and, BitVec.getLsbD_not, BitVec.getLsbD_zero, hi, decide_true, Bool.true_and]
  cases z.getLsbD i <;> cases s.getLsbD i <;> rfl
theorem changed_valid (x0 x1 y0 y1 z p m q n : BitVec 32) (h1 : vld p m = true) (h2 : vld q n = true)
    (m1 : ∀ w, Gives 40 #[.int .u32 x0.toNat, .int .u32 x1.toNat] w (sn p.toNat m.toNat)) (m2 : ∀ w, Gives 40 #[.int .u32 y0.toNat, .int .u32 y1.toNat] w (sn q.toNat n.toNat)) (w : World) (hT : Tab w) (ht : 0 < w.heap.size) :
    Gives 11 #[.agg #[.int .u32 x0.toNat, .int .u32 x1.toNat], .agg #[.int .u32 y0.toNat, .int .u32 y1.toNat], .int .u32 z.toNat] w (.bool true) :=
  changed_core _ _ _ _ _ _ _ _ _ ((z &&& 16777215#32) &&& ~~~(q ||| n)).toNat _ _ _ w hT ht m1 m2
    (gv_change p m _ q n h1 h2 (k_in _ _) (k_apart _ _))
    (fun w => by have := gv_change _ _ _ q n (ch_valid ((z &&& 16777215#32) &&& ~~~(q ||| n)) h1 h2) h2 (k_in z (q ||| n)) (k_apart _ _) w; rwa [ch_again, ch_again] at this)
    (gv_valid _ _ (ch_valid _ h1 h2))
    (fun w => by have := gv_sat _ _ q n (ch_valid ((z &&& 16777215#32) &&& ~~~(q ||| n)) h1 h2) h2 w; rwa [ch_has, ch_has, beq_self_eq_true, beq_self_eq_true] at this)
    (gv_diff p m _ _ h1 (ch_valid _ h1 h2))
    (by rw [show (16777215 : Int) = ((16777215#32).toNat : Int) from rfl, bits_and, bits_or, bits_andNot])
    (by rw [bits_or, bits_and, ch_gone]; rfl) (by rw [bits_or, bits_or, bits_andNot, ch_diff]; rfl)
theorem changed_any (x0 x1 y0 y1 z : BitVec 32) (w : World) (hT : Tab w) (ht : 0 < w.heap.size) :
    Gives 11 #[.agg #[.int .u32 x0.toNat, .int .u32 x1.toNat], .agg #[.int .u32 y0.toNat, .int .u32 y1.toNat], .int .u32 z.toNat] w (.bool true) :=
  changed_valid x0 x1 y0 y1 z _ _ _ _ (vld_made x0 x1) (vld_made y0 y1) (made_any x0 x1) (made_any y0 y1) w hT ht
end Go.Proofs.YtacfopopaieliaaDoor
