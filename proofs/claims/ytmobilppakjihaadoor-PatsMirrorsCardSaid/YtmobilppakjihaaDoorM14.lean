/-
  Lemmas that the theorem of this claim rests on: 3 texts, one behind the other.
-/
import Derived.Test.YtmobilppakjihaaDoorM8
import Derived.Test.YtmobilppakjihaaDoorM11
set_option linter.unusedSimpArgs false
set_option linter.unusedVariables false
/-
  Whether two arrays of places are equal.
-/
namespace Go.Proofs.YtmobilppakjihaaDoor
open Go.RowKit Go.Sort
theorem part_row (x : Tb) (i : Nat) (hi : i < 33) (w : World) : (Go.part 72 (tbR x) (i * 1)).run Tryd.prog w = .ok (.int .u64 ((x i).toNat : Int)) w := by
  have hz := Tryd.sizeOf72
  have hg := Tryd.isAgg72
  have ht := tbR_get x i hi
  rw [Nat.mul_one]
  unfold Go.part
  simp [Sem.run_bind, hg, hz, Result.andThen, ht]
theorem eq_num (a b : BitVec 64) (w : World) : (Op.equalIn 9999 72 (.int .u64 (a.toNat : Int)) (.int .u64 (b.toNat : Int))).run Tryd.prog w = .ok (a == b) w := by
  rw [show 9999 = 9998 + 1 from rfl, Op.equalIn]
  simp only [Sem.run_bind, run_underlying Tryd.underlying72, Result.andThen_ok]
  simp
  rw [Bool.eq_iff_iff, beq_iff_eq, beq_iff_eq, Int.natCast_inj, BitVec.toNat_inj]
theorem eqTb (x y : Tb) (w : World) : (Op.equalIn (9999 + 1) 74 (.agg (tbR x)) (.agg (tbR y))).run Tryd.prog w = .ok ((List.range 33).all fun a => x a == y a) w := by
  have hz := Tryd.sizeOf72
  rw [Op.equalIn]
  simp only [Sem.run_bind, run_underlying Tryd.underlying74, Result.andThen_ok]
  simp only [hz, Sem.run_pure, Result.andThen_ok]
  have key : ∀ l : List Nat, (∀ i ∈ l, i < 33) → (Sem.run Tryd.prog (forIn l ((none : Option Bool), ()) fun i __s => do
            let __do_lift ← Go.part 72 (tbR x) (i * 1)
            let __do_lift_1 ← Go.part 72 (tbR y) (i * 1)
            let __do_lift ← Op.equalIn 9999 72 __do_lift __do_lift_1
            if (!__do_lift) = true then pure (ForInStep.done (some false, ())) else pure (ForInStep.yield (none, ()))) w) = .ok (if (l.all fun a => x a == y a) = true then (none, ()) else (some false, ())) w := by
    intro l
    induction l with
    | nil => intro _; simp
    | cons i l ih =>
      intro hl
      rw [List.forIn_cons]
      simp only [Sem.run_bind, part_row x i (hl i (by simp)), part_row y i (hl i (by simp)), Result.andThen_ok, eq_num, List.all_cons]
      by_cases hb : x i = y i
      · have hb1 : (x i == y i) = true := by simpa using hb
        have := ih (fun j hj => hl j (by simp [hj]))
        simp only [hb1, Bool.not_true, Bool.false_eq_true, if_false, Sem.run_pure, Result.andThen_ok, this, Bool.true_and]
      · have hb1 : (x i == y i) = false := by simpa using hb
        simp [hb1]
  rw [Std.Legacy.Range.forIn_eq_forIn_range']
  have hr : List.range' 0 33 1 = List.range 33 := by rw [List.range_eq_range']
  simp only [Std.Legacy.Range.size, Nat.sub_zero, Nat.add_sub_cancel, Nat.div_one]
  rw [key _ (fun i hi => by simp [List.mem_range'] at hi; omega)]
  simp only [Result.andThen_ok, hr]
  rcases hb : ((List.range 33).all fun a => x a == y a) with _ | _ <;> simp
end Go.Proofs.YtmobilppakjihaaDoor

/-
  What a repeated pattern matches: how many rounds there can be.
-/
namespace Go.Proofs.YtmobilppakjihaaDoor
open Go.RowKit Go.Sort
theorem countP_lt {α : Type} {p q : α → Bool} : ∀ {l : List α}, (∀ x ∈ l, p x = true → q x = true) → (∃ x ∈ l, p x = false ∧ q x = true) → l.countP p < l.countP q
  | [], _, h => by obtain ⟨x, hx, _⟩ := h; cases hx
  | y :: l, h1, h2 => by
    have hm : l.countP p ≤ l.countP q := List.countP_mono_left (fun x hx => h1 x (by simp [hx]))
    rw [List.countP_cons, List.countP_cons]
    obtain ⟨x, hx, hp, hq⟩ := h2
    rcases List.mem_cons.1 hx with rfl | hx
    · rw [hp, hq]; simp; omega
    · have ih := countP_lt (fun z hz => h1 z (by simp [hz])) ⟨x, hx, hp, hq⟩
      have hy := h1 y (by simp)
      rcases hpy : p y with _ | _
      · simp; split <;> omega
      · rw [hy hpy]; simp; omega
def prs : List (Nat × Nat) := (List.range 33).flatMap fun a => (List.range 64).map fun b => (a, b)
theorem prs_len : prs.length = 2112 := by decide +kernel
theorem mem_prs {a b : Nat} (ha : a < 33) (hb : b < 64) : (a, b) ∈ prs := by
  simp [prs, ha, hb]
/-- How many places a table has. -/
def cntT (x : Tb) : Nat := prs.countP fun p => (x p.1).getLsbD p.2
theorem cntT_le (x : Tb) : cntT x ≤ 2112 := by
  unfold cntT
  rw [← prs_len]
  exact List.countP_le_length
theorem cnt_step {n : Nat} {x : Tb} (hn : n ≤ 32) (hx : OkT n x) {lo i : Nat} (h : unT n x lo (i + 1) ≠ unT n x lo i) (hi : i ≤ cntT (unT n x lo i)) : i + 1 ≤ cntT (unT n x lo (i + 1)) := by
  have hlt : cntT (unT n x lo i) < cntT (unT n x lo (i + 1)) := by
    refine countP_lt (fun p hp hb => (or_bit _ _ _ _).2 (.inl hb)) ?_
    apply Classical.byContradiction
    intro hc
    apply h
    apply Tb.ext
    intro a b
    constructor
    · intro hm
      apply Classical.byContradiction
      intro hm2
      have hok := OkT.un (by omega) hx lo (i + 1) a b hm
      refine hc ⟨(a, b), mem_prs (by omega) (by omega), ?_, hm⟩
      simpa [mem] using hm2
    · intro hm
      exact (or_bit _ _ _ _).2 (.inl hm)
  omega
theorem eq33 {n : Nat} (hn : n ≤ 32) {x y : Tb} (hx : OkT n x) (hy : OkT n y) : ((List.range 33).all fun a => x a == y a) = true ↔ x = y := by
  rw [List.all_eq_true]
  constructor
  · intro h
    funext a
    by_cases ha : a < 33
    · simpa using h a (List.mem_range.2 ha)
    · rw [hx.beyond (by omega), hy.beyond (by omega)]
  · rintro rfl a _
    simp
theorem run_eqTb (x y : Tb) (w : World) : (binOp .eql 74 (.agg (tbR x)) (.agg (tbR y))).run Tryd.prog w = .ok (.bool ((List.range 33).all fun a => x a == y a)) w := by
  rw [run_eql_struct, eqTb]; rfl
end Go.Proofs.YtmobilppakjihaaDoor

/-
  What a repeated pattern matches.
-/
namespace Go.Proofs.YtmobilppakjihaaDoor
open Go.RowKit Go.Sort
/-- Whether two arrays of places are equal. -/
def eqV (x y : Tb) : Bool := (List.range 33).all fun a => x a == y a
theorem run_eqV (x y : Tb) (w : World) : (binOp .eql 74 (.agg (tbR x)) (.agg (tbR y))).run Tryd.prog w = .ok (.bool (eqV x y)) w := run_eqTb x y w
attribute [local go_sem ↓] run_eqV
set_option maxRecDepth 100000 in
set_option maxHeartbeats 4000000 in
theorem prep_any (T : List Snd → Tb) (u : Value) (lo : Nat) (hi : Int) (ss : List Snd) (wv : Value) (w : World) (hl : ss.length ≤ 32) (hW : Wd w wv ss) (hN : NodeT w u T) (hT : Tab64 w) (ht0 : 0 < w.heap.size) (hlo : lo ≤ 32) (hhi : hi = -1 ∨ (lo : Int) ≤ hi ∧ hi ≤ 32) :
    Gives 112 #[.agg #[u, .int .i64 (lo : Int), .int .i64 hi], wv] w (.agg (tbR (repT ss.length (T ss) lo hi))) := by
  unfold Gives
  obtain ⟨t, pl, f, rfl, hfn, hok, hmat⟩ := hN
  obtain ⟨wo, wc, hwv, -, -, -⟩ := hW.open
  have hmt := fun W hb => hmat W hb ss wv hl (hW.below hb)
  have hOK := hok ss hl
  have hemp := fun W (hb : Below w.heap.size w W) => pempty_any ss wv W hl (hW.below hb)
  have hth := fun (a b : Tb) (ha : OkT ss.length a) (W : World) (hb : Below w.heap.size w W) => pthen_any ss.length hl a b ha W (hT.below hb ht0) (by have := hb.size; omega)
  subst hwv
  have hme := hfn.2.1 pl
  have hcf := hfn.2.2
  generalize T ss = X at *
  obtain ⟨n, hn⟩ : ∃ n, ss.length = n := ⟨_, rfl⟩
  rw [hn] at hl hmt hOK hemp hth ⊢
  have hpw := fun k => OkT.pw (by omega) hOK k
  have HMT := Lib.hid hmt; have HOK := Lib.hid hOK; have HEMP := Lib.hid hemp; have HTH := Lib.hid hth; have HPW := Lib.hid hpw
  have HZ := Lib.hid tbR_zero
  have HNL := Lib.hid hl; have HHI := Lib.hid hhi
  clear hmt hOK hemp hth hW hT ht0 hok hmat hn hfn hpw hl hhi
  go_enter Tryd.func112, Tryd.ntmps112
  go_wp2_with fail
  rw [← HZ.out]
  refine Gives.then (HMT.out _ (by go_grown)) ?_
  intro w1 hb1
  clear hme hcf
  go_wp2_with fail
  go_at_call 109
  have hA : Below w.heap.size w ((w.alloc (.cells #[.iface t pl, .int .i64 (lo : Int), .int .i64 hi] 114)).alloc (.cells (tbR zeroT) 74)) := by go_grown
  have hB1 : Below w.heap.size w w1 := hA.trans (hb1.mono hA.size)
  refine Gives.then (HEMP.out _ hB1) ?_
  intro w2 hb2
  have hz : w.heap.size + 2 ≤ w1.heap.size := by have := hb1.size; simpa using this
  have hB2 : Below w.heap.size w w2 := hB1.trans (hb2.mono hB1.size)
  have q1 : TbAt w2 (w.heap.size + 1) zeroT := by have := ((TbAt.new (w.alloc (.cells #[.iface t pl, .int .i64 (lo : Int), .int .i64 hi] 114)) zeroT).below hb1).below hb2; rwa [World.size_alloc] at this
  have q0 : ∀ o v, ((w.alloc (.cells #[.iface t pl, .int .i64 (lo : Int), .int .i64 hi] 114)).alloc (.cells (tbR zeroT) 74)).cell? ⟨w.heap.size, o, none⟩ = some v → w2.cell? ⟨w.heap.size, o, none⟩ = some v := fun o v h =>
    (hb2.cell (p := ⟨w.heap.size, o, none⟩) (by simp only []; omega)).trans ((hb1.cell (p := ⟨w.heap.size, o, none⟩) (by simp only [World.size_alloc]; omega)).trans h)
  have c1 := q0 1 (.int .i64 (lo : Int)) (by go_cell)
  have c2 := q0 2 (.int .i64 hi) (by go_cell)
  have hz2 : w.heap.size + 2 ≤ w2.heap.size := by have := hb2.size; omega
  have p5 := (TbAt.new w2 zeroT).past (.cells (tbR zeroT) 74)
  have p6 := TbAt.new (w2.alloc (.cells (tbR zeroT) 74)) zeroT
  rw [World.size_alloc] at p6
  have P5 := Lib.hid p5; have P6 := Lib.hid (p6.setRow_other (g := w2.heap.size) (by omega) (tbR X)); have Q1 := Lib.hid q1; have C1 := Lib.hid c1; have C2 := Lib.hid c2; have HB2 := Lib.hid hB2
  clear q0 q1 c1 c2 p5 p6 hB1 hB2 hb1 hb2 hA
  have d1 : ((((w2.alloc (.cells (tbR zeroT) 74)).alloc (.cells (tbR zeroT) 74)).setRow w2.heap.size (tbR X)).setRow (w2.heap.size + 1) (tbR (sameT n))).cell? ⟨w.heap.size, 1, none⟩ = some (.int .i64 (lo : Int)) := by
    rw [cell_setRow_other _ _ _ _ (by simp only []; omega), cell_setRow_other _ _ _ _ (by simp only []; omega)]
    exact keep_alloc (keep_alloc C1.out (by omega)) (by rw [World.size_alloc]; omega)
  have hlo2 : (lo : Int) ≤ 32 := by omega
  go_wp2_with (first | (rw [← HZ.out]; refine wpList_st rfl (.tmp 5) (.tmp 13) rfl w2.heap.size zeroT _ rfl rfl P5.out ?_) | (refine wpList_st rfl (.tmp 6) (.tmp 16) rfl (w2.heap.size + 1) zeroT _ rfl rfl P6.out ?_))
  obtain ⟨B, hB⟩ : ∃ B, w2.heap.size = B := ⟨_, rfl⟩
  refine wp_gen ?_
  intro W1 hW1
  have s5 : TbAt W1 B X := by rw [hW1, ← hB]; exact (P5.out.setRow X).setRow_other (by omega) _
  have s6 : TbAt W1 (B + 1) (pwT n X 0) := by
    rw [hW1, ← hB]
    exact (P6.out.setRow (sameT n))
  have s1 : TbAt W1 (w.heap.size + 1) zeroT := by rw [hW1]; exact (((Q1.out.past _).past _).setRow_other (by omega) _).setRow_other (by omega) _
  have hBB : Below w.heap.size w W1 := by rw [hW1]; exact below_setRow (below_setRow ((HB2.out.alloc HB2.out.size _).alloc (by have := HB2.out.size; rw [World.size_alloc]; omega) _) (by omega) _) (by omega) _
  have d1 : W1.cell? ⟨w.heap.size, 1, none⟩ = some (.int .i64 (lo : Int)) := by rw [hW1]; exact d1
  have d2 : W1.cell? ⟨w.heap.size, 2, none⟩ = some (.int .i64 hi) := by
    rw [hW1, cell_setRow_other _ _ _ _ (by simp only []; omega), cell_setRow_other _ _ _ _ (by simp only []; omega)]
    exact keep_alloc (keep_alloc C2.out (by omega)) (by rw [World.size_alloc]; omega)
  have hBw : w.heap.size + 2 ≤ B := by omega
  rw [hB]
  have S := Lib.hid (And.intro s5 (And.intro s6 (And.intro s1 (And.intro (And.intro d1 d2) hBB))))
  clear hW1 d1 d2 s5 s6 s1 hBB hB P5 P6 Q1 C1 C2 HB2 hz hz2
  go_loopw [19] (fun i wr => ∃ k : Nat, k ≤ lo ∧ i = .int .i64 (k : Int) ∧ TbAt wr B X ∧ TbAt wr (B + 1) (pwT n X k) ∧ TbAt wr (w.heap.size + 1) zeroT ∧ (wr.cell? ⟨w.heap.size, 1, none⟩ = some (.int .i64 (lo : Int)) ∧ wr.cell? ⟨w.heap.size, 2, none⟩ = some (.int .i64 hi)) ∧ Below w.heap.size w wr) (fun i _ => lo - (intOf i).toNat)
  case atStart => exact ⟨0, by omega, rfl, S.out.1, S.out.2.1, S.out.2.2.1, S.out.2.2.2.1, S.out.2.2.2.2⟩
  case round =>
    obtain ⟨k, hk, rfl, h5, h6, h1, ⟨d1, d2⟩, hw⟩ := hrel
    have H5 := Lib.hid h5; have H6 := Lib.hid h6; have H1 := Lib.hid h1; have HW := Lib.hid hw
    have hBr : B + 1 < wr.heap.size := h6.lt
    clear h5 h6 h1 hw S
    by_cases hlt : k < lo
    · have D := Lib.hid (And.intro d1 d2)
      clear d1 d2
      go_wp2_with (first | (refine wpList_ld rfl (.tmp 6) rfl (B + 1) _ rfl H6.out ?_) | (refine wpList_ld rfl (.tmp 5) rfl B _ rfl H5.out ?_) | (go_at_call 110; refine Gives.then (HTH.out _ X (HPW.out k) _ HW.out) ?_; intro w3 hb3; have h6b := Lib.hid (H6.out.below hb3)) | (refine wpList_st rfl (.tmp 6) (.tmp 23) rfl (B + 1) _ _ rfl rfl h6b.out ?_))
      refine ⟨⟨k + 1, by omega, by go_num, (H5.out.below hb3).setRow_other (by omega) _, h6b.out.setRow _, (H1.out.below hb3).setRow_other (by omega) _, ⟨?_, ?_⟩, below_setRow (HW.out.trans (hb3.mono HW.out.size)) (by omega) _⟩, by simp [intOf]; omega⟩
      · rw [cell_setRow_other _ _ _ _ (by simp only []; omega)]; exact (hb3.cell (p := ⟨w.heap.size, 1, none⟩) (by simp only []; omega)).trans D.out.1
      · rw [cell_setRow_other _ _ _ _ (by simp only []; omega)]; exact (hb3.cell (p := ⟨w.heap.size, 2, none⟩) (by simp only []; omega)).trans D.out.2
    · obtain rfl : k = lo := by omega
      clear hlt hk
      have D := Lib.hid (And.intro d1 d2)
      have e1 : ((wr.alloc (.cells (tbR zeroT) 74)).setRow wr.heap.size (tbR (pwT n X k))).cell? ⟨w.heap.size, 1, none⟩ = some (.int .i64 (k : Int)) := by
        rw [cell_setRow_other _ _ _ _ (by simp only []; omega)]
        exact keep_alloc D.out.1 (by omega)
      clear d1 d2
      go_wp2_with (first | (refine wpList_ld rfl (.tmp 6) rfl (B + 1) _ rfl H6.out ?_) | (rw [← HZ.out]; refine wpList_st rfl (.tmp 7) (.tmp 25) rfl wr.heap.size zeroT _ rfl rfl (TbAt.new wr zeroT) ?_))
      obtain ⟨C, hC⟩ : ∃ C, wr.heap.size = C := ⟨_, rfl⟩
      refine wp_gen ?_
      intro W2 hW2
      have s5 : TbAt W2 B X := by rw [hW2]; exact (H5.out.past _).setRow_other (by omega) _
      have s6 : TbAt W2 (B + 1) (pwT n X (k + 0)) := by rw [hW2]; exact (H6.out.past _).setRow_other (by omega) _
      have s1 : TbAt W2 (w.heap.size + 1) zeroT := by rw [hW2]; exact (H1.out.past _).setRow_other (by omega) _
      have s7 : TbAt W2 C (unT n X k 0) := by rw [hW2, ← hC]; exact (TbAt.new wr zeroT).setRow _
      have hBB : Below w.heap.size w W2 := by rw [hW2]; exact below_setRow (HW.out.alloc HW.out.size _) (by omega) _
      have d2 : W2.cell? ⟨w.heap.size, 2, none⟩ = some (.int .i64 hi) := by
        rw [hW2, cell_setRow_other _ _ _ _ (by simp only []; omega)]
        exact keep_alloc D.out.2 (by omega)
      have hCB : B + 2 ≤ C := by omega
      rw [hC]
      have S := Lib.hid (And.intro s5 (And.intro s6 (And.intro s1 (And.intro s7 (And.intro d2 hBB)))))
      clear hW2 s5 s6 s1 s7 d2 hBB hC e1 H5 H6 H1 HW D hBr
      go_loopw [8] (fun z w7 => ∃ i : Nat, i ≤ cntT (unT n X k i) ∧ (hi = -1 ∨ (k : Int) + (i : Int) ≤ hi) ∧ z = .int .i64 ((k : Int) + (i : Int)) ∧ TbAt w7 B X ∧ TbAt w7 (B + 1) (pwT n X (k + i)) ∧ TbAt w7 (w.heap.size + 1) zeroT ∧ TbAt w7 C (unT n X k i) ∧ w7.cell? ⟨w.heap.size, 2, none⟩ = some (.int .i64 hi) ∧ Below w.heap.size w w7) (fun z _ => 3000 + k - (intOf z).toNat)
      case atStart => exact ⟨0, by omega, by have := HHI.out; omega, by simp, S.out.1, S.out.2.1, S.out.2.2.1, S.out.2.2.2.1, S.out.2.2.2.2.1, S.out.2.2.2.2.2⟩
      case round =>
        obtain ⟨i, hi1, hi2, rfl, h5, h6, h1, h7, d2, hw⟩ := hrel
        have hcl := cntT_le (unT n X k i)
        have H5 := Lib.hid h5; have H6 := Lib.hid h6; have H1 := Lib.hid h1; have H7 := Lib.hid h7; have HW := Lib.hid hw; have HI1 := Lib.hid hi1; have HI2 := Lib.hid hi2
        have hib : i ≤ 2112 := by omega
        have hBr : C < wr.heap.size := h7.lt
        clear h5 h6 h1 h7 hw S hcl hi1 hi2
        rcases hmore : (decide (hi = -1) || decide ((k : Int) + (i : Int) < hi)) with _ | _
        · -- as often as it may be
          have hne : ¬ hi = -1 := by intro e; simp [e] at hmore
          have hge : ¬ (k : Int) + (i : Int) < hi := by intro e; simp [e] at hmore
          have heq : (k : Int) + (i : Int) = hi := by have := HI2.out; omega
          have hres := rep_most (n := n) (x := X) hne heq
          have b1 : (hi == -1) = false := by simpa using hne
          have b2 : decide ((k : Int) + (i : Int) < hi) = false := decide_eq_false hge
          have HR := Lib.hid hres
          clear hmore hne hge heq hres
          go_wp2_with (first | (refine wpList_ld rfl (.tmp 7) rfl C _ rfl H7.out ?_) | (refine wpList_st rfl (.tmp 4) (.tmp 49) rfl (w.heap.size + 1) _ _ rfl rfl H1.out ?_))
          refine bodyPost_ret (v := .agg (tbR (repT n X k hi))) ?_ rfl ⟨rfl, below_setRow HW.out (by omega) _⟩
          rw [HR.out]
          exact parts_ret rfl _ _ (w.heap.size + 1) _ _ rfl (H1.out.setRow _) (fun a ha => rfl)
        · have hgo : hi = -1 ∨ (k : Int) + (i : Int) + 1 ≤ hi := by
            simp only [Bool.or_eq_true, decide_eq_true_eq] at hmore
            omega
          have HGO := Lib.hid hgo
          have hk1 : pwT n X (k + (i + 1)) = thnT n (pwT n X (k + i)) X := rfl
          have hu1 : unT n X k (i + 1) = orT (unT n X k i) (pwT n X (k + (i + 1))) := rfl
          obtain ⟨P1, hP1⟩ : ∃ P1, thnT n (pwT n X (k + i)) X = P1 := ⟨_, rfl⟩
          obtain ⟨U1, hU1⟩ : ∃ U1, orT (unT n X k i) P1 = U1 := ⟨_, rfl⟩
          have hth := fun W hb => HTH.out (pwT n X (k + i)) X (HPW.out _) W hb
          simp only [hP1] at hth
          rw [hP1] at hk1
          rw [hk1, hU1] at hu1
          have HP1 := Lib.hid hk1; have HU1 := Lib.hid hu1; have HTHI := Lib.hid hth; have HU := Lib.hid hU1
          clear hk1 hu1 hth hP1 hU1 hgo
          have hbb : ((hi == -1) = true ∧ True) ∨ ((hi == -1) = false ∧ decide ((k : Int) + (i : Int) < hi) = true) := by
            by_cases he : hi = -1
            · exact .inl ⟨by simp [he], trivial⟩
            · refine .inr ⟨by simpa using he, ?_⟩
              simpa [he] using hmore
          clear hmore
          rcases hbb with ⟨b1, -⟩ | ⟨b1, b2⟩
          all_goals (
            go_wp2_with (first | (refine wpList_ld rfl (.tmp 6) rfl (B + 1) _ rfl H6.out ?_) | (refine wpList_ld rfl (.tmp 5) rfl B _ rfl H5.out ?_) | (go_at_call 110; refine Gives.then (HTHI.out _ HW.out) ?_; intro w3 hb3; have h6b := Lib.hid (H6.out.below hb3); have h7b := Lib.hid ((H7.out.below hb3).setRow_other (g := B + 1) (by omega) (tbR P1)); have h6c := Lib.hid (h6b.out.setRow P1)) | (refine wpList_st rfl (.tmp 6) (.tmp 41) rfl (B + 1) _ _ rfl rfl h6b.out ?_) | (refine wpList_ld rfl (.tmp 7) rfl C _ rfl h7b.out ?_) | (refine wpList_ld rfl (.tmp 6) rfl (B + 1) _ rfl h6c.out ?_))
            go_at_call 103
            refine Gives.then (Gives.eq (por_any _ _ _) rfl (by rw [HU.out])) ?_
            intro w4 hb4
            have hb3w : Below w.heap.size w w3 := HW.out.trans (hb3.mono HW.out.size)
            have hv : Below w.heap.size w (w3.setRow (B + 1) (tbR P1)) := below_setRow hb3w (by omega) _
            have xb : Below w.heap.size w w4 := hv.trans (hb4.mono hv.size)
            have x5 := ((H5.out.below hb3).setRow_other (g := B + 1) (by omega) (tbR P1)).below hb4
            have x6 := h6c.out.below hb4
            have x7 := h7b.out.below hb4
            have x1 := ((H1.out.below hb3).setRow_other (g := B + 1) (by omega) (tbR P1)).below hb4
            have hs34 : wr.heap.size ≤ w4.heap.size := by have e1 := hb3.size; have e2 := hb4.size; rw [size_setRow] at e2; omega
            have xd2 : w4.cell? ⟨w.heap.size, 2, none⟩ = some (.int .i64 hi) := by
              refine (hb4.cell (p := ⟨w.heap.size, 2, none⟩) (by rw [size_setRow]; have := hb3.size; simp only []; omega)).trans ?_
              rw [cell_setRow_other _ _ _ _ (by simp only []; omega)]
              exact (hb3.cell (p := ⟨w.heap.size, 2, none⟩) (by simp only []; omega)).trans d2
            have y9 : TbAt ((w4.alloc (.cells (tbR zeroT) 74)).setRow w4.heap.size (tbR U1)) w4.heap.size U1 := (TbAt.new w4 zeroT).setRow _
            have y7 := (x7.past (.cells (tbR zeroT) 74)).setRow_other (g := w4.heap.size) (by omega) (tbR U1)
            have y1 := (x1.past (.cells (tbR zeroT) 74)).setRow_other (g := w4.heap.size) (by omega) (tbR U1)
            have y5 := (x5.past (.cells (tbR zeroT) 74)).setRow_other (g := w4.heap.size) (by omega) (tbR U1)
            have y6 := (x6.past (.cells (tbR zeroT) 74)).setRow_other (g := w4.heap.size) (by omega) (tbR U1)
            have yb : Below w.heap.size w ((w4.alloc (.cells (tbR zeroT) 74)).setRow w4.heap.size (tbR U1)) := below_setRow (xb.alloc xb.size _) xb.size _
            have yd2 : ((w4.alloc (.cells (tbR zeroT) 74)).setRow w4.heap.size (tbR U1)).cell? ⟨w.heap.size, 2, none⟩ = some (.int .i64 hi) := by
              rw [cell_setRow_other _ _ _ _ (by simp only []; omega)]
              exact keep_alloc xd2 (by omega)
            have Y9 := Lib.hid y9; have Y7 := Lib.hid y7; have Y1 := Lib.hid y1; have Y5 := Lib.hid y5; have Y6 := Lib.hid y6; have YB := Lib.hid yb; have YD := Lib.hid yd2
            clear hb3w hv xb x5 x6 x7 x1 xd2 y9 y7 y1 y5 y6 yb yd2 hb4 hb3 h6b h7b h6c d2
            rcases heq : eqV U1 (unT n X k i) with _ | _
            · have hne : unT n X k (i + 1) ≠ unT n X k i := fun e => by
                rw [HU1.out] at e
                rw [e] at heq
                have : eqV (unT n X k i) (unT n X k i) = true := by unfold eqV; simp
                rw [this] at heq; cases heq
              have hcnt := cnt_step HNL.out HOK.out hne HI1.out
              have HCNT := Lib.hid hcnt
              clear hne hcnt
              go_wp2_with (first | (rw [← HZ.out]; refine wpList_st rfl (.tmp 9) (.tmp 44) rfl w4.heap.size zeroT _ rfl rfl (TbAt.new w4 zeroT) ?_) | (refine wpList_ld rfl (.tmp 9) rfl w4.heap.size _ rfl Y9.out ?_) | (refine wpList_ld rfl (.tmp 7) rfl C _ rfl Y7.out ?_) | (refine wpList_st rfl (.tmp 7) (.tmp 48) rfl C _ _ rfl rfl Y7.out ?_))
              refine ⟨⟨i + 1, HCNT.out, by have := HGO.out; omega, by rw [show ((k : Int) + (i : Int) + 1) = (k : Int) + ((i + 1 : Nat) : Int) from by omega], Y5.out.setRow_other (by omega) _, (Y6.out.setRow_other (by omega) _).eq HP1.out.symm, Y1.out.setRow_other (by omega) _, (Y7.out.setRow U1).eq HU1.out.symm, ?_, below_setRow YB.out (by omega) _⟩, by simp [intOf]; omega⟩
              rw [cell_setRow_other _ _ _ _ (by simp only []; omega)]
              exact YD.out
            · have hU : unT n X k (i + 1) = unT n X k i := by
                rw [HU1.out]
                refine (eq33 HNL.out ?_ (OkT.un (by have := HNL.out; omega) HOK.out k i)).1 heq
                rw [← HU1.out]
                exact OkT.un (by have := HNL.out; omega) HOK.out k (i + 1)
              have hres := rep_stop (hi := hi) (by unfold bigN; omega) HI2.out hU
              have HR := Lib.hid hres
              clear hU hres
              go_wp2_with (first | (rw [← HZ.out]; refine wpList_st rfl (.tmp 9) (.tmp 44) rfl w4.heap.size zeroT _ rfl rfl (TbAt.new w4 zeroT) ?_) | (refine wpList_ld rfl (.tmp 9) rfl w4.heap.size _ rfl Y9.out ?_) | (refine wpList_ld rfl (.tmp 7) rfl C _ rfl Y7.out ?_) | (refine wpList_st rfl (.tmp 4) (.tmp 49) rfl (w.heap.size + 1) _ _ rfl rfl Y1.out ?_))
              refine bodyPost_ret (v := .agg (tbR (repT n X k hi))) ?_ rfl ⟨rfl, below_setRow YB.out (by omega) _⟩
              rw [HR.out]
              exact parts_ret rfl _ _ (w.heap.size + 1) _ _ rfl (Y1.out.setRow _) (fun a ha => rfl))
end Go.Proofs.YtmobilppakjihaaDoor
