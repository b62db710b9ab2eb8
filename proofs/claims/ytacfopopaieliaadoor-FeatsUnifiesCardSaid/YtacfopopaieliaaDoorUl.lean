/-
  FeatsUnifies, for every argument.
-/
import Derived.Test.YtacfopopaieliaaDoorUk
import Derived.Test.YtacfopopaieliaaDoorUn
import Derived.Test.YtacfopopaieliaaDoorHl
namespace Go.Proofs.YtacfopopaieliaaDoor
open Go.RowKit Go.Sort
/-- Which sounds have all values of a condition. -/
abbrev sat (g h p m : BitVec 32) : Bool := (g &&& p == p) && (h &&& m == m)
theorem sub_or (g p q : BitVec 32) : (g &&& (p ||| q) == p ||| q) = ((g &&& p == p) && (g &&& q == q)) := by
  rw [Bool.eq_iff_iff]
  simp only [beq_iff_eq, Bool.and_eq_true]
  constructor
  · intro h
    have a := fun i => congrArg (fun z => z.getLsbD i) h
    simp only [BitVec.getLsbD_and, BitVec.getLsbD_or] at a
    constructor
    · apply bv_ext; intro i _; have := a i; revert this; simp only [BitVec.getLsbD_and]; cases g.getLsbD i <;> cases p.getLsbD i <;> cases q.getLsbD i <;> simp
    · apply bv_ext; intro i _; have := a i; revert this; simp only [BitVec.getLsbD_and]; cases g.getLsbD i <;> cases p.getLsbD i <;> cases q.getLsbD i <;> simp
  · rintro ⟨h1, h2⟩
    have a := fun i => congrArg (fun z => z.getLsbD i) h1
    have b := fun i => congrArg (fun z => z.getLsbD i) h2
    simp only [BitVec.getLsbD_and] at a b
    apply bv_ext; intro i _; have a' := a i; have b' := b i; revert a' b'; simp only [BitVec.getLsbD_and, BitVec.getLsbD_or]; cases g.getLsbD i <;> cases p.getLsbD i <;> cases q.getLsbD i <;> simp
theorem sat_or (g h p m q n : BitVec 32) : sat g h (p ||| q) (m ||| n) = (sat g h p m && sat g h q n) := by
  simp only [sat, sub_or]
  cases (g &&& p == p) <;> cases (g &&& q == q) <;> cases (h &&& m == m) <;> cases (h &&& n == n) <;> rfl
theorem or_sub (p q : BitVec 32) : (p ||| q) &&& p = p := by
  apply bv_ext; intro i _; simp only [BitVec.getLsbD_and, BitVec.getLsbD_or]; cases p.getLsbD i <;> cases q.getLsbD i <;> rfl
theorem or_sub' (p q : BitVec 32) : (p ||| q) &&& q = q := by rw [BitVec.or_comm, or_sub]
/-- Two valid sounds have a union just if no feature has opposite values. -/
theorem union_iff {p m q n : BitVec 32} (h1 : vld p m = true) (h2 : vld q n = true) : vld (p ||| q) (m ||| n) = true ↔ p &&& n = 0#32 ∧ m &&& q = 0#32 := by
  constructor
  · intro h
    constructor
    all_goals
      apply bv_ext; intro i hi
      have c := vbit h i hi
      simp only [BitVec.getLsbD_or] at c
      simp only [BitVec.getLsbD_and, BitVec.getLsbD_zero]
      generalize p.getLsbD i = x1 at *; generalize m.getLsbD i = x2 at *; generalize q.getLsbD i = x3 at *; generalize n.getLsbD i = x4 at *; generalize (16777215#32).getLsbD i = x5 at *
      clear h h1 h2
      revert x1 x2 x3 x4 x5; decide
  · rintro ⟨ha, hb⟩
    rw [vld_bv]
    constructor
    all_goals
      apply bv_ext; intro i hi
      have a := vbit h1 i hi; have b := vbit h2 i hi
      have c := congrArg (fun z => z.getLsbD i) ha; have d := congrArg (fun z => z.getLsbD i) hb
      simp only [BitVec.getLsbD_and, BitVec.getLsbD_zero] at c d
      simp only [BitVec.getLsbD_and, BitVec.getLsbD_or, BitVec.getLsbD_not, BitVec.getLsbD_zero, hi, decide_true, Bool.true_and]
      generalize p.getLsbD i = x1 at *; generalize m.getLsbD i = x2 at *; generalize q.getLsbD i = x3 at *; generalize n.getLsbD i = x4 at *; generalize (16777215#32).getLsbD i = x5 at *
      clear ha hb h1 h2
      revert x1 x2 x3 x4 x5; decide
theorem sat_vld {g h p m : BitVec 32} (hv : vld g h = true) (hs : sat g h p m = true) : vld p m = true := by
  simp only [sat, Bool.and_eq_true, beq_iff_eq] at hs
  rw [vld_bv]
  constructor
  all_goals
    apply bv_ext; intro i hi
    have a := vbit hv i hi
    have c := congrArg (fun z => z.getLsbD i) hs.1; have d := congrArg (fun z => z.getLsbD i) hs.2
    simp only [BitVec.getLsbD_and] at c d
    simp only [BitVec.getLsbD_and, BitVec.getLsbD_or, BitVec.getLsbD_not, BitVec.getLsbD_zero, hi, decide_true, Bool.true_and]
    generalize p.getLsbD i = x1 at *; generalize m.getLsbD i = x2 at *; generalize g.getLsbD i = x3 at *; generalize h.getLsbD i = x4 at *; generalize (16777215#32).getLsbD i = x5 at *
    clear hs hv
    revert x1 x2 x3 x4 x5; decide
theorem unifies_valid (x0 x1 y0 y1 z0 z1 p m q n g h : BitVec 32) (h1 : vld p m = true) (h2 : vld q n = true) (h3 : vld g h = true)
    (m1 : ∀ w, Gives 40 #[.int .u32 x0.toNat, .int .u32 x1.toNat] w (sn p.toNat m.toNat)) (m2 : ∀ w, Gives 40 #[.int .u32 y0.toNat, .int .u32 y1.toNat] w (sn q.toNat n.toNat)) (m3 : ∀ w, Gives 40 #[.int .u32 z0.toNat, .int .u32 z1.toNat] w (sn g.toNat h.toNat)) (w : World) (hT : Tab w) (ht : 0 < w.heap.size) :
    Gives 8 #[.agg #[.int .u32 x0.toNat, .int .u32 x1.toNat], .agg #[.int .u32 y0.toNat, .int .u32 y1.toNat], .agg #[.int .u32 z0.toNat, .int .u32 z1.toNat]] w (.bool true) := by
  by_cases hv : vld (p ||| q) (m ||| n) = true
  · have hz := (union_iff h1 h2).1 hv
    refine unifies_yes _ _ _ _ _ _ _ _ _ _ _ _ (p ||| q).toNat (m ||| n).toNat (sat g h p m) (sat g h q n) w hT ht m1 m2 m3 (unify_ok p m q n hv) ?_ (by rw [bits_and, hz.1]; rfl) (by rw [bits_and, hz.2]; rfl) ?_ ?_ (gv_sat g h p m h3 h1) (gv_sat g h q n h3 h2) ?_
    · intro w
      have := unify_ok q n p m (by rw [BitVec.or_comm q p, BitVec.or_comm n m]; exact hv) w
      rwa [BitVec.or_comm q p, BitVec.or_comm n m] at this
    · intro w
      have := gv_sat (p ||| q) (m ||| n) p m hv h1 w
      rwa [or_sub, or_sub, beq_self_eq_true, beq_self_eq_true] at this
    · intro w
      have := gv_sat (p ||| q) (m ||| n) q n hv h2 w
      rwa [or_sub', or_sub', beq_self_eq_true, beq_self_eq_true] at this
    · intro w
      have := gv_sat g h (p ||| q) (m ||| n) h3 hv w
      rwa [← sat_or]
  · have hn := hv
    rw [union_iff h1 h2] at hn
    rw [Bool.not_eq_true] at hv
    refine unifies_no _ _ _ _ _ _ _ _ _ _ _ _ (p &&& n).toNat (m &&& q).toNat (sat g h p m) (sat g h q n) w hT ht m1 m2 m3 (unify_bad p m q n hv) ?_ (bits_and _ _) (bits_and _ _) ?_ (gv_sat g h p m h3 h1) (gv_sat g h q n h3 h2) ?_
    · intro w
      exact unify_bad q n p m (by rw [BitVec.or_comm q p, BitVec.or_comm n m]; exact hv) w
    · rw [nat_beq0, nat_beq0]
      by_cases hx : p &&& n = 0#32
      · refine .inr ⟨by rw [hx]; rfl, ?_⟩
        rw [Bool.eq_false_iff]; intro hy; exact hn ⟨hx, by simpa using hy⟩
      · exact .inl (by rw [Bool.eq_false_iff]; intro hy; exact hx (eq_of_beq hy))
    · cases hs : sat g h p m
      · exact .inl rfl
      · refine .inr ⟨rfl, ?_⟩
        rw [Bool.eq_false_iff]; intro hy
        have := sat_vld h3 ((sat_or g h p m q n).trans (by rw [hs, hy]; rfl))
        rw [hv] at this; cases this
theorem unifies_any (x0 x1 y0 y1 z0 z1 : BitVec 32) (w : World) (hT : Tab w) (ht : 0 < w.heap.size) :
    Gives 8 #[.agg #[.int .u32 x0.toNat, .int .u32 x1.toNat], .agg #[.int .u32 y0.toNat, .int .u32 y1.toNat], .agg #[.int .u32 z0.toNat, .int .u32 z1.toNat]] w (.bool true) :=
  unifies_valid x0 x1 y0 y1 z0 z1 _ _ _ _ _ _ (vld_made x0 x1) (vld_made y0 y1) (vld_made z0 z1) (made_any x0 x1) (made_any y0 y1) (made_any z0 z1) w hT ht
end Go.Proofs.YtacfopopaieliaaDoor
