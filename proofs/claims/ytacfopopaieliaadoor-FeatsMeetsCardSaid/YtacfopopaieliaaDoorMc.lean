/-
  FeatsMeets, for every argument.
-/
import Derived.Test.YtacfopopaieliaaDoorMa
import Derived.Test.YtacfopopaieliaaDoorMb
namespace Go.Proofs.YtacfopopaieliaaDoor
open Go.RowKit Go.Sort
theorem and_in (x y : BitVec 32) : x &&& (x &&& y) = x &&& y := by rw [← BitVec.and_assoc, BitVec.and_self]
theorem and_in' (x y : BitVec 32) : y &&& (x &&& y) = x &&& y := by rw [BitVec.and_comm x y, and_in]
theorem diff_zero (p m q n : BitVec 32) : ((((p ^^^ q) ||| (m ^^^ n)).toNat : Int) == 0) = ((p.toNat : Int) == q.toNat && (m.toNat : Int) == n.toNat) := by
  rw [nat_beq0, nat_beq, nat_beq, Bool.eq_iff_iff]
  simp only [beq_iff_eq, Bool.and_eq_true]
  constructor
  · intro h
    have a := fun i => congrArg (fun z => z.getLsbD i) h
    simp only [BitVec.getLsbD_or, BitVec.getLsbD_xor, BitVec.getLsbD_zero] at a
    constructor
    · apply bv_ext; intro i _; have := a i; revert this; cases p.getLsbD i <;> cases q.getLsbD i <;> simp
    · apply bv_ext; intro i _; have := a i; revert this; cases m.getLsbD i <;> cases n.getLsbD i <;> simp
  · rintro ⟨rfl, rfl⟩
    simp
theorem meets_valid (x0 x1 y0 y1 z0 z1 p m q n g h : BitVec 32) (h1 : vld p m = true) (h2 : vld q n = true) (h3 : vld g h = true)
    (m1 : ∀ w, Gives 40 #[.int .u32 x0.toNat, .int .u32 x1.toNat] w (sn p.toNat m.toNat)) (m2 : ∀ w, Gives 40 #[.int .u32 y0.toNat, .int .u32 y1.toNat] w (sn q.toNat n.toNat)) (m3 : ∀ w, Gives 40 #[.int .u32 z0.toNat, .int .u32 z1.toNat] w (sn g.toNat h.toNat)) (w : World) (hT : Tab w) (ht : 0 < w.heap.size) :
    Gives 7 #[.agg #[.int .u32 x0.toNat, .int .u32 x1.toNat], .agg #[.int .u32 y0.toNat, .int .u32 y1.toNat], .agg #[.int .u32 z0.toNat, .int .u32 z1.toNat]] w (.bool true) :=
  meets_core _ _ _ _ _ _ _ _ _ _ _ _ (p &&& q).toNat (m &&& n).toNat (p &&& q &&& g).toNat (m &&& n &&& h).toNat (q &&& g).toNat (n &&& h).toNat ((p ^^^ q) ||| (m ^^^ n)).toNat w hT ht m1 m2 m3
    (gv_meet p m q n h1 h2) (fun w => by have := gv_meet q n p m h2 h1 w; rwa [BitVec.and_comm q p, BitVec.and_comm n m] at this) (fun w => by have := gv_meet p m p m h1 h1 w; rwa [BitVec.and_self, BitVec.and_self] at this)
    (gv_meet (p &&& q) (m &&& n) g h (vld_and _ _ h1) h3) (gv_meet q n g h h2 h3) (fun w => by have := gv_meet p m (q &&& g) (n &&& h) h1 (vld_and _ _ h2) w; rwa [← BitVec.and_assoc, ← BitVec.and_assoc] at this)
    (fun w => by have := gv_sat p m q n h1 h2 w; rwa [← nat_beq, ← nat_beq] at this)
    (fun w => by have := gv_sat p m (p &&& q) (m &&& n) h1 (vld_and _ _ h1) w; rwa [and_in, and_in, beq_self_eq_true, beq_self_eq_true] at this)
    (fun w => by have := gv_sat q n (p &&& q) (m &&& n) h2 (vld_and _ _ h1) w; rwa [and_in', and_in', beq_self_eq_true, beq_self_eq_true] at this)
    (gv_diff p m q n h1 h2) (diff_zero p m q n)
theorem meets_any (x0 x1 y0 y1 z0 z1 : BitVec 32) (w : World) (hT : Tab w) (ht : 0 < w.heap.size) :
    Gives 7 #[.agg #[.int .u32 x0.toNat, .int .u32 x1.toNat], .agg #[.int .u32 y0.toNat, .int .u32 y1.toNat], .agg #[.int .u32 z0.toNat, .int .u32 z1.toNat]] w (.bool true) :=
  meets_valid x0 x1 y0 y1 z0 z1 _ _ _ _ _ _ (vld_made x0 x1) (vld_made y0 y1) (vld_made z0 z1) (made_any x0 x1) (made_any y0 y1) (made_any z0 z1) w hT ht
end Go.Proofs.YtacfopopaieliaaDoor
