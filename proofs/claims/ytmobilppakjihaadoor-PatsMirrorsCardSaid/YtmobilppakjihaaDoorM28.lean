/-
  Lemmas that the theorem of this claim rests on: 3 texts, one behind the other.
-/
import Derived.Test.YtmobilppakjihaaDoorM25
import Derived.Test.YtmobilppakjihaaDoorM22
import Derived.Test.YtmobilppakjihaaDoorM26
import Derived.Test.YtmobilppakjihaaDoorM27
set_option linter.unusedSimpArgs false
set_option linter.unusedVariables false
/-
  Equality of patterns: the specification's (alike), the program's (same).
-/
namespace Go.Proofs.YtmobilppakjihaaDoor
open Go.RowKit Go.Sort
attribute [local go_sem ↓] snd_eql snd_neq
theorem eqv_step {k k' : Fo} {j : Nat} {d1 d2 : Nd} {k1 k2 : Fo} (h1 : k.drop j = .cons d1 k1 (k.drop (j + 1))) (h2 : k'.drop j = .cons d2 k2 (k'.drop (j + 1))) : (k.drop j).eqv (k'.drop j) = (ptq d1 k1 d2 k2 && (k.drop (j + 1)).eqv (k'.drop (j + 1))) := by
  rw [h1, h2]
  rfl
theorem ptq_no {d d' : Nd} {k k' : Fo} (h : d.kind ≠ d'.kind ∨ d.is ≠ d'.is ∨ d.neg ≠ d'.neg ∨ d.mi ≠ d'.mi ∨ d.ma ≠ d'.ma ∨ k.len ≠ k'.len) : ptq d k d' k' = false := by
  rcases hb : ptq d k d' k' with _ | _
  · rfl
  · unfold ptq at hb
    simp only [Bool.and_eq_true, decide_eq_true_eq, beq_iff_eq] at hb
    obtain ⟨⟨⟨⟨⟨h1, h2⟩, h3⟩, h4⟩, h5⟩, h6⟩ := hb
    have h7 := Fo.eqv_len _ _ h6
    rcases h with h | h | h | h | h | h <;> exact absurd (by assumption) h
theorem ptq_yes {d d' : Nd} {k k' : Fo} (h1 : d.kind = d'.kind) (h2 : d.is = d'.is) (h3 : d.neg = d'.neg) (h4 : d.mi = d'.mi) (h5 : d.ma = d'.ma) : ptq d k d' k' = k.eqv k' := by
  unfold ptq
  simp [h1, h2, h3, h4, h5]
theorem int_ne {a b : Int} (h : a ≠ b) : (a != b) = true := by simpa using h
theorem int_eqf {a b : Int} (h : a ≠ b) : (a == b) = false := by simpa using h
theorem bv_ne {a b : BitVec 32} (h : a ≠ b) : ((a.toNat : Int) == (b.toNat : Int)) = false := by
  rw [beq_eq_false_iff_ne]
  intro e
  exact h (BitVec.eq_of_toNat_eq (by omega))
theorem bool_cases (a b : Bool) : a = b ∨ a = !b := by cases a <;> cases b <;> simp
set_option maxRecDepth 100000 in
set_option maxHeartbeats 8000000 in
theorem ralike_all : ∀ (s : Nat) (d : Nd) (k : Fo) (d' : Nd) (k' : Fo) (w : World), k.size < s → Pt w d k → Pt w d' k' → Gives 53 #[ndV d, ndV d'] w (.bool (ptq d k d' k')) := by
  intro s
  induction s with
  | zero => intro d k d' k' w h; omega
  | succ s ih =>
  intro d k d' k' w hks hp hp'
  unfold Gives
  obtain ⟨ao, cap, hsl, c1, m1, hcell⟩ := hp.open
  obtain ⟨ao', cap', hsl', c1', m1', hcell'⟩ := hp'.open
  have hml := maxLen_lt (Nat.le_trans c1 m1)
  have hml' := maxLen_lt (Nat.le_trans c1' m1')
  have HP := Lib.hid hp; have HP' := Lib.hid hp'
  obtain ⟨kind, ⟨p, m⟩, neg, mi, ma, sl⟩ := d
  obtain ⟨kind', ⟨p', m'⟩, neg', mi', ma', sl'⟩ := d'
  simp only at hsl hsl'
  subst hsl
  subst hsl'
  obtain ⟨L, hL⟩ : ∃ L, k.len = L := ⟨_, rfl⟩
  obtain ⟨L', hL'⟩ : ∃ L, k'.len = L := ⟨_, rfl⟩
  have hno := fun h => ptq_no (d := ⟨kind, (p, m), neg, mi, ma, .slice ao k.len cap⟩) (d' := ⟨kind', (p', m'), neg', mi', ma', .slice ao' k'.len cap'⟩) (k := k) (k' := k') h
  have hyes := fun h1 h2 h3 h4 h5 => ptq_yes (d := ⟨kind, (p, m), neg, mi, ma, .slice ao k.len cap⟩) (d' := ⟨kind', (p', m'), neg', mi', ma', .slice ao' k'.len cap'⟩) (k := k) (k' := k') h1 h2 h3 h4 h5
  unfold ndV
  simp only at hno hyes ⊢
  generalize ptq ⟨kind, (p, m), neg, mi, ma, .slice ao k.len cap⟩ k ⟨kind', (p', m'), neg', mi', ma', .slice ao' k'.len cap'⟩ k' = R at *
  rw [hL] at hml hcell hno ⊢
  rw [hL'] at hml' hcell' hno ⊢
  have HC := Lib.hid hcell; have HC' := Lib.hid hcell'; have HL := Lib.hid hL; have HL' := Lib.hid hL'; have IH := Lib.hid ih; have HKS := Lib.hid hks
  clear hcell hcell' hL hL' ih hks hp hp' c1 m1 c1' m1'
  have R0 := Lib.hid (show ((w.alloc (.cells #[.int .i64 kind, .int .u32 (p.toNat : Int), .int .u32 (m.toNat : Int), .bool neg, .int .i64 mi, .int .i64 ma, .slice ao L cap] 27)).alloc (.cells #[.int .i64 kind', .int .u32 (p'.toNat : Int), .int .u32 (m'.toNat : Int), .bool neg', .int .i64 mi', .int .i64 ma', .slice ao' L' cap'] 27)).heap[w.heap.size]? = some (.cells #[.int .i64 kind, .int .u32 (p.toNat : Int), .int .u32 (m.toNat : Int), .bool neg, .int .i64 mi, .int .i64 ma, .slice ao L cap] 27) from (Below.heap_alloc _ _ _ (by rw [World.size_alloc]; omega)).trans (World.alloc_heap_new w _))
  have R0' := Lib.hid (show ((w.alloc (.cells #[.int .i64 kind, .int .u32 (p.toNat : Int), .int .u32 (m.toNat : Int), .bool neg, .int .i64 mi, .int .i64 ma, .slice ao L cap] 27)).alloc (.cells #[.int .i64 kind', .int .u32 (p'.toNat : Int), .int .u32 (m'.toNat : Int), .bool neg', .int .i64 mi', .int .i64 ma', .slice ao' L' cap'] 27)).heap[w.heap.size + 1]? = some (.cells #[.int .i64 kind', .int .u32 (p'.toNat : Int), .int .u32 (m'.toNat : Int), .bool neg', .int .i64 mi', .int .i64 ma', .slice ao' L' cap'] 27) from heap_alloc2_new w _ _)
  have HB0 := Lib.hid (show Below w.heap.size w ((w.alloc (.cells #[.int .i64 kind, .int .u32 (p.toNat : Int), .int .u32 (m.toNat : Int), .bool neg, .int .i64 mi, .int .i64 ma, .slice ao L cap] 27)).alloc (.cells #[.int .i64 kind', .int .u32 (p'.toNat : Int), .int .u32 (m'.toNat : Int), .bool neg', .int .i64 mi', .int .i64 ma', .slice ao' L' cap'] 27)) by go_grown)
  by_cases e0 : kind = kind'
  · subst e0
    have b0 : (kind == kind) = true := by simp
    have b0' : (kind != kind) = false := by simp
    by_cases e1 : p = p'
    · subst e1
      have b1 : ((p.toNat : Int) == (p.toNat : Int)) = true := by simp
      by_cases e2 : m = m'
      · subst e2
        have b2 : ((m.toNat : Int) == (m.toNat : Int)) = true := by simp
        rcases bool_cases neg neg' with e3 | e3
        · subst e3
          have b3 : (neg == neg) = true := by simp
          have b3' : (neg != neg) = false := by simp
          by_cases e4 : mi = mi'
          · subst e4
            have b4 : (mi == mi) = true := by simp
            have b4' : (mi != mi) = false := by simp
            by_cases e5 : ma = ma'
            · subst e5
              have b5 : (ma == ma) = true := by simp
              have b5' : (ma != ma) = false := by simp
              by_cases e6 : L = L'
              · subst e6
                have hR := hyes rfl rfl rfl rfl rfl
                clear hno hyes
                have b6 : ((L : Int) != (L : Int)) = false := by simp
                have HR := Lib.hid hR
                clear hR
                go_enter Tryd.func53, Tryd.ntmps53
                go_wp2_with fail
                go_loopw [5] (fun i wr => ∃ j : Nat, j ≤ L ∧ i = .int .i64 (j : Int) ∧ k.eqv k' = (k.drop j).eqv (k'.drop j) ∧ wr.heap[w.heap.size]? = some (.cells #[.int .i64 kind, .int .u32 (p.toNat : Int), .int .u32 (m.toNat : Int), .bool neg, .int .i64 mi, .int .i64 ma, .slice ao L cap] 27) ∧ wr.heap[w.heap.size + 1]? = some (.cells #[.int .i64 kind, .int .u32 (p.toNat : Int), .int .u32 (m.toNat : Int), .bool neg, .int .i64 mi, .int .i64 ma, .slice ao' L cap'] 27) ∧ Below w.heap.size w wr) (fun i _ => L - (intOf i).toNat)
                case atStart => exact ⟨0, by omega, rfl, by rw [Fo.drop_zero, Fo.drop_zero], R0.out, R0'.out, HB0.out⟩
                case round =>
                clear R0 R0' HB0
                obtain ⟨j, hj, rfl, heq, hA, hB, hw⟩ := hrel
                have g0 := cell_block hA (o := 0) rfl; have g1 := cell_block hA (o := 1) rfl; have g2 := cell_block hA (o := 2) rfl; have g3 := cell_block hA (o := 3) rfl; have g4 := cell_block hA (o := 4) rfl; have g5 := cell_block hA (o := 5) rfl; have g6 := cell_block hA (o := 6) rfl
                have h0 := cell_block hB (o := 0) rfl; have h1 := cell_block hB (o := 1) rfl; have h2 := cell_block hB (o := 2) rfl; have h3 := cell_block hB (o := 3) rfl; have h4 := cell_block hB (o := 4) rfl; have h5 := cell_block hB (o := 5) rfl; have h6 := cell_block hB (o := 6) rfl
                have HW := Lib.hid hw; have RA := Lib.hid hA; have RB := Lib.hid hB; have HEQ := Lib.hid heq
                clear hw hA hB heq
                by_cases hlt : j < L
                · have hji : (j : Int) < (L : Int) := by omega
                  obtain ⟨q, off, hao, lb, hpf⟩ := HC.out j hlt
                  obtain ⟨q', off', hao', lb', hpf'⟩ := HC'.out j hlt
                  subst hao
                  subst hao'
                  obtain ⟨d1, k1, he⟩ := Fo.drop_step k j (by rw [HL.out]; exact hlt)
                  obtain ⟨d2, k2, he'⟩ := Fo.drop_step k' j (by rw [HL'.out]; exact hlt)
                  have hsz := Fo.drop_size k j
                  have hst := eqv_step he he'
                  rw [he] at hpf hsz
                  rw [he'] at hpf'
                  simp only [Fo.size] at hsz
                  obtain ⟨e0, e1, e2, e3, e4, e5, e6, e7, -⟩ := hpf
                  obtain ⟨e0', e1', e2', e3', e4', e5', e6', e7', -⟩ := hpf'
                  have hc := fun o v (h : w.cell? ⟨q, o, none⟩ = some v) => (HW.out.cell (p := ⟨q, o, none⟩) lb).trans h
                  have hc' := fun o v (h : w.cell? ⟨q', o, none⟩ = some v) => (HW.out.cell (p := ⟨q', o, none⟩) lb').trans h
                  have f0 := hc _ _ e0; have f1 := hc _ _ e1; have f2 := hc _ _ e2; have f3 := hc _ _ e3; have f4 := hc _ _ e4; have f5 := hc _ _ e5; have f6 := hc _ _ e6
                  have k0 := hc' _ _ e0'; have k1' := hc' _ _ e1'; have k2' := hc' _ _ e2'; have k3 := hc' _ _ e3'; have k4 := hc' _ _ e4'; have k5 := hc' _ _ e5'; have k6 := hc' _ _ e6'
                  obtain ⟨x1, y1, hs1, -, -, -⟩ := Pt.open e7
                  obtain ⟨x2, y2, hs2, -, -, -⟩ := Pt.open e7'
                  have hrec := fun W (hb : Below w.heap.size w W) => IH.out d1 k1 d2 k2 W (by have := HKS.out; omega) (Pt.below e7 hb) (Pt.below e7' hb)
                  obtain ⟨B, hB⟩ : ∃ B, ptq d1 k1 d2 k2 = B := ⟨_, rfl⟩
                  rw [hB] at hrec hst
                  unfold ndV at hrec
                  rw [hs1] at hrec f6
                  rw [hs2] at hrec k6
                  have HREC := Lib.hid hrec; have HST := Lib.hid hst
                  clear hrec hst hB he he' hsz hs1 hs2 e0 e1 e2 e3 e4 e5 e6 e7 e0' e1' e2' e3' e4' e5' e6' e7' hc hc' HC HC'
                  go_wp2_with fail
                  have y0 := cell_regrown g6; have y0' := cell_regrown h6
                  have z0 := cell_regrown f0; have z1 := cell_regrown f1; have z2 := cell_regrown f2; have z3 := cell_regrown f3; have z4 := cell_regrown f4; have z5 := cell_regrown f5; have z6 := cell_regrown f6
                  have t0 := cell_regrown k0; have t1 := cell_regrown k1'; have t2 := cell_regrown k2'; have t3 := cell_regrown k3; have t4 := cell_regrown k4; have t5 := cell_regrown k5; have t6 := cell_regrown k6
                  refine wp_region_quiet_below (by kernel_rfl) (by kernel_rfl) ?_
                  try simp only [List.append]
                  repeat (go_big_quiet_step (first | (go_at_call 53; with_reducible exact Calls.regrown_of (HREC.out _ (HW.out.trans ((below_regrown _ _ _).mono HW.out.size))))))
                  refine wpQuiet_nil ?_
                  intro w11 hw11
                  have hb11 : Below wr.heap.size wr w11 := by obtain ⟨qq, rfl⟩ := hw11; exact below_regrown _ _ _
                  have HW11 := Lib.hid (HW.out.trans (hb11.mono HW.out.size))
                  have RA11 := Lib.hid ((hb11.block _ (Array.getElem?_eq_some_iff.1 RA.out).1).trans RA.out)
                  have RB11 := Lib.hid ((hb11.block _ (Array.getElem?_eq_some_iff.1 RB.out).1).trans RB.out)
                  clear hb11 hw11 y0 y0' z0 z1 z2 z3 z4 z5 z6 t0 t1 t2 t3 t4 t5 t6 f0 f1 f2 f3 f4 f5 f6 k0 k1' k2' k3 k4 k5 k6 HW RA RB HREC g0 g1 g2 g3 g4 g5 g6 h0 h1 h2 h3 h4 h5 h6
                  rcases B with _ | _
                  · have hfin : R = false := by rw [HR.out, HEQ.out, HST.out]; rfl
                    subst hfin
                    clear HR HEQ HST
                    go_wp2_with fail
                    go_returns
                    exact ⟨rfl, HW11.out⟩
                  · go_wp2_with fail
                    go_roundw
                    case rel => exact ⟨j + 1, by omega, by go_num, by rw [HEQ.out, HST.out]; rfl, RA11.out, RB11.out, HW11.out⟩
                    case measure => simp [intOf] <;> omega
                · obtain rfl : j = L := by omega
                  have hji : ¬ (j : Int) < (j : Int) := by omega
                  have hfin : R = true := by
                    have h1 := Fo.drop_len k
                    have h2 := Fo.drop_len k'
                    rw [HL.out] at h1
                    rw [HL'.out] at h2
                    rw [HR.out, HEQ.out, h1, h2]
                    rfl
                  subst hfin
                  clear HC HC' hlt HR HEQ
                  go_wp2_with fail
                  go_returns
                  exact ⟨rfl, HW.out⟩
              · obtain rfl := hno (.inr (.inr (.inr (.inr (.inr e6)))))
                have b6 := int_ne (show (L : Int) ≠ (L' : Int) by omega)
                have b6' := int_eqf (show (L : Int) ≠ (L' : Int) by omega)
                clear e6
                clear hno hyes HC HC'
                go_enter Tryd.func53, Tryd.ntmps53
                go_wp2_with fail
                go_returns
                exact ⟨rfl, HB0.out⟩
            · obtain rfl := hno (.inr (.inr (.inr (.inr (.inl e5)))))
              have b5 := int_ne e5
              have b5' := int_eqf e5
              clear e5
              clear hno hyes HC HC'
              go_enter Tryd.func53, Tryd.ntmps53
              go_wp2_with fail
              go_returns
              exact ⟨rfl, HB0.out⟩
          · obtain rfl := hno (.inr (.inr (.inr (.inl e4))))
            have b4 := int_ne e4
            have b4' := int_eqf e4
            clear e4
            clear hno hyes HC HC'
            go_enter Tryd.func53, Tryd.ntmps53
            go_wp2_with fail
            go_returns
            exact ⟨rfl, HB0.out⟩
        · subst e3
          obtain rfl := hno (.inr (.inr (.inl (by cases neg' <;> simp))))
          have b3 : ((!neg') == neg') = false := by cases neg' <;> rfl
          have b3' : ((!neg') != neg') = true := by cases neg' <;> rfl
          clear hno hyes HC HC'
          go_enter Tryd.func53, Tryd.ntmps53
          go_wp2_with fail
          go_returns
          exact ⟨rfl, HB0.out⟩
      · obtain rfl := hno (.inr (.inl (fun e => e2 (congrArg Prod.snd e))))
        have b2 := bv_ne e2
        clear e2
        clear hno hyes HC HC'
        go_enter Tryd.func53, Tryd.ntmps53
        go_wp2_with fail
        go_returns
        exact ⟨rfl, HB0.out⟩
    · obtain rfl := hno (.inr (.inl (fun e => e1 (congrArg Prod.fst e))))
      have b1 := bv_ne e1
      clear e1
      clear hno hyes HC HC'
      go_enter Tryd.func53, Tryd.ntmps53
      go_wp2_with fail
      go_returns
      exact ⟨rfl, HB0.out⟩
  · obtain rfl := hno (.inl e0)
    have b0 := int_ne e0
    have b0' := int_eqf e0
    clear e0
    clear hno hyes HC HC'
    go_enter Tryd.func53, Tryd.ntmps53
    go_wp2_with fail
    go_returns
    exact ⟨rfl, HB0.out⟩
end Go.Proofs.YtmobilppakjihaaDoor

/-
  Equality of patterns: the program's (same), and of both (Equal).
-/
namespace Go.Proofs.YtmobilppakjihaaDoor
open Go.RowKit Go.Sort
attribute [local go_sem ↓] snd_eql snd_neq
set_option maxRecDepth 100000 in
set_option maxHeartbeats 8000000 in
theorem peqf_any (s : Nat) (ih : ∀ (d : Nd) (k : Fo) (d' : Nd) (k' : Fo) (w : World), k.size < s → Pt w d k → Pt w d' k' → Gives 52 #[ndV d, ndV d'] w (.bool (ptq d k d' k'))) (k k' : Fo) (hks : k.size ≤ s) (d d' : Nd) (w : World) (hp : Pt w d k) (hp' : Pt w d' k') :
    Gives 78 #[d.sl, d'.sl, .func (.func 52) #[] #[]] w (.bool (k.eqv k')) := by
  unfold Gives
  obtain ⟨ao, cap, hsl, c1, m1, hcell⟩ := hp.open
  obtain ⟨ao', cap', hsl', c1', m1', hcell'⟩ := hp'.open
  have hml := maxLen_lt (Nat.le_trans c1 m1)
  have hml' := maxLen_lt (Nat.le_trans c1' m1')
  obtain ⟨L, hL⟩ : ∃ L, k.len = L := ⟨_, rfl⟩
  obtain ⟨L', hL'⟩ : ∃ L, k'.len = L := ⟨_, rfl⟩
  have hle := Fo.eqv_len k k'
  obtain ⟨R, hR⟩ : ∃ R, k.eqv k' = R := ⟨_, rfl⟩
  rw [hR] at hle ⊢
  rw [hsl, hsl', hL, hL']
  rw [hL] at hml hcell hle
  rw [hL'] at hml' hcell' hle
  have HC := Lib.hid hcell; have HC' := Lib.hid hcell'; have HL := Lib.hid hL; have HL' := Lib.hid hL'; have IH := Lib.hid ih; have HKS := Lib.hid hks; have HR := Lib.hid hR
  clear hcell hcell' hL hL' ih hks hp hp' c1 m1 c1' m1' hsl hsl' hR
  by_cases e6 : L = L'
  · subst e6
    clear hle
    have b6 : ((L : Int) != (L : Int)) = false := by simp
    go_enter Tryd.func78, Tryd.ntmps78
    go_wp2_with fail
    go_loopw [17] (fun i wr => ∃ j : Nat, j ≤ L ∧ i = .int .i64 (j : Int) ∧ k.eqv k' = (k.drop j).eqv (k'.drop j) ∧ Below w.heap.size w wr) (fun i _ => L - (intOf i).toNat)
    case atStart => exact ⟨0, by omega, rfl, by rw [Fo.drop_zero, Fo.drop_zero], Below.refl _ _⟩
    case round =>
    obtain ⟨j, hj, rfl, heq, hw⟩ := hrel
    have HW := Lib.hid hw; have HEQ := Lib.hid heq
    clear hw heq
    by_cases hlt : j < L
    · have hji : (j : Int) < (L : Int) := by omega
      obtain ⟨q, off, hao, lb, hpf⟩ := HC.out j hlt
      obtain ⟨q', off', hao', lb', hpf'⟩ := HC'.out j hlt
      subst hao
      subst hao'
      obtain ⟨d1, k1, he⟩ := Fo.drop_step k j (by rw [HL.out]; exact hlt)
      obtain ⟨d2, k2, he'⟩ := Fo.drop_step k' j (by rw [HL'.out]; exact hlt)
      have hsz := Fo.drop_size k j
      have hst := eqv_step he he'
      rw [he] at hpf hsz
      rw [he'] at hpf'
      simp only [Fo.size] at hsz
      obtain ⟨e0, e1, e2, e3, e4, e5, e6, e7, -⟩ := hpf
      obtain ⟨e0', e1', e2', e3', e4', e5', e6', e7', -⟩ := hpf'
      have hc := fun o v (h : w.cell? ⟨q, o, none⟩ = some v) => (HW.out.cell (p := ⟨q, o, none⟩) lb).trans h
      have hc' := fun o v (h : w.cell? ⟨q', o, none⟩ = some v) => (HW.out.cell (p := ⟨q', o, none⟩) lb').trans h
      have f0 := hc _ _ e0; have f1 := hc _ _ e1; have f2 := hc _ _ e2; have f3 := hc _ _ e3; have f4 := hc _ _ e4; have f5 := hc _ _ e5; have f6 := hc _ _ e6
      have k0 := hc' _ _ e0'; have k1' := hc' _ _ e1'; have k2' := hc' _ _ e2'; have k3 := hc' _ _ e3'; have k4 := hc' _ _ e4'; have k5 := hc' _ _ e5'; have k6 := hc' _ _ e6'
      obtain ⟨x1, y1, hs1, -, -, -⟩ := Pt.open e7
      obtain ⟨x2, y2, hs2, -, -, -⟩ := Pt.open e7'
      have hrec := fun W (hb : Below w.heap.size w W) => IH.out d1 k1 d2 k2 W (by have := HKS.out; omega) (Pt.below e7 hb) (Pt.below e7' hb)
      obtain ⟨B, hB⟩ : ∃ B, ptq d1 k1 d2 k2 = B := ⟨_, rfl⟩
      rw [hB] at hrec hst
      unfold ndV at hrec
      rw [hs1] at hrec f6
      rw [hs2] at hrec k6
      have m0 := fun (A : Obj) => keep_alloc (X := A) k0 (by have := HW.out.size; omega)
      have m1 := fun (A : Obj) => keep_alloc (X := A) k1' (by have := HW.out.size; omega)
      have m2 := fun (A : Obj) => keep_alloc (X := A) k2' (by have := HW.out.size; omega)
      have m3 := fun (A : Obj) => keep_alloc (X := A) k3 (by have := HW.out.size; omega)
      have m4 := fun (A : Obj) => keep_alloc (X := A) k4 (by have := HW.out.size; omega)
      have m5 := fun (A : Obj) => keep_alloc (X := A) k5 (by have := HW.out.size; omega)
      have m6 := fun (A : Obj) => keep_alloc (X := A) k6 (by have := HW.out.size; omega)
      have HREC := Lib.hid hrec; have HST := Lib.hid hst
      clear hrec hst hB he he' hsz hs1 hs2 e0 e1 e2 e3 e4 e5 e6 e7 e0' e1' e2' e3' e4' e5' e6' e7' hc hc' HC HC' k0 k1' k2' k3 k4 k5 k6
      go_wp2_with fail
      refine calls_gen ?_
      intro V hV
      have hv : Below w.heap.size w V := by rw [hV]; exact (HW.out.alloc HW.out.size _).alloc (by rw [World.size_alloc]; have := HW.out.size; omega) _
      clear hV f0 f1 f2 f3 f4 f5 f6 m0 m1 m2 m3 m4 m5 m6
      go_at_call 52
      refine Gives.then (HREC.out _ hv) ?_
      intro w3 hb3
      have HW3 := Lib.hid (hv.trans (hb3.mono hv.size))
      clear hv hb3 HW HREC
      rcases B with _ | _
      · have hfin : R = false := by rw [← HR.out, HEQ.out, HST.out]; rfl
        subst hfin
        clear HR HEQ HST
        go_wp2_with fail
        go_returns
        exact ⟨rfl, HW3.out⟩
      · go_wp2_with fail
        go_roundw
        case rel => exact ⟨j + 1, by omega, by go_num, by rw [HEQ.out, HST.out]; rfl, HW3.out⟩
        case measure => simp [intOf] <;> omega
    · obtain rfl : j = L := by omega
      have hji : ¬ (j : Int) < (j : Int) := by omega
      have hfin : R = true := by
        have h1 := Fo.drop_len k
        have h2 := Fo.drop_len k'
        rw [HL.out] at h1
        rw [HL'.out] at h2
        rw [← HR.out, HEQ.out, h1, h2]
        rfl
      subst hfin
      clear HC HC' hlt HR HEQ
      go_wp2_with fail
      go_returns
      exact ⟨rfl, HW.out⟩
  · have hfin : R = false := by
      rcases hb : R with _ | _
      · rfl
      · exact absurd (hle hb) e6
    subst hfin
    have b6 := int_ne (show (L : Int) ≠ (L' : Int) by omega)
    clear hle HC HC' HR
    go_enter Tryd.func78, Tryd.ntmps78
    go_wp2_with fail
    go_returns
    exact ⟨rfl, Below.refl _ _⟩
set_option maxRecDepth 100000 in
set_option maxHeartbeats 8000000 in
theorem psame_all : ∀ (s : Nat) (d : Nd) (k : Fo) (d' : Nd) (k' : Fo) (w : World), k.size < s → Pt w d k → Pt w d' k' → Gives 52 #[ndV d, ndV d'] w (.bool (ptq d k d' k')) := by
  intro s
  induction s with
  | zero => intro d k d' k' w h; omega
  | succ s ih =>
  intro d k d' k' w hks hp hp'
  unfold Gives
  obtain ⟨ao, cap, hsl, c1, m1, hcell⟩ := hp.open
  obtain ⟨ao', cap', hsl', c1', m1', hcell'⟩ := hp'.open
  have hml := maxLen_lt (Nat.le_trans c1 m1)
  have hml' := maxLen_lt (Nat.le_trans c1' m1')
  obtain ⟨kind, ⟨p, m⟩, neg, mi, ma, sl⟩ := d
  obtain ⟨kind', ⟨p', m'⟩, neg', mi', ma', sl'⟩ := d'
  simp only at hsl hsl'
  subst hsl
  subst hsl'
  obtain ⟨L, hL⟩ : ∃ L, k.len = L := ⟨_, rfl⟩
  obtain ⟨L', hL'⟩ : ∃ L, k'.len = L := ⟨_, rfl⟩
  have hno := fun h => ptq_no (d := ⟨kind, (p, m), neg, mi, ma, .slice ao k.len cap⟩) (d' := ⟨kind', (p', m'), neg', mi', ma', .slice ao' k'.len cap'⟩) (k := k) (k' := k') h
  have hyes := fun h1 h2 h3 h4 h5 => ptq_yes (d := ⟨kind, (p, m), neg, mi, ma, .slice ao k.len cap⟩) (d' := ⟨kind', (p', m'), neg', mi', ma', .slice ao' k'.len cap'⟩) (k := k) (k' := k') h1 h2 h3 h4 h5
  unfold ndV
  simp only at hno hyes ⊢
  generalize ptq ⟨kind, (p, m), neg, mi, ma, .slice ao k.len cap⟩ k ⟨kind', (p', m'), neg', mi', ma', .slice ao' k'.len cap'⟩ k' = R at *
  have HP := Lib.hid hp; have HP' := Lib.hid hp'
  rw [hL] at hml hcell hno ⊢
  rw [hL'] at hml' hcell' hno ⊢
  have HC := Lib.hid hcell; have HC' := Lib.hid hcell'; have HL := Lib.hid hL; have HL' := Lib.hid hL'; have IH := Lib.hid ih; have HKS := Lib.hid hks
  clear hcell hcell' hL hL' ih hks hp hp' c1 m1 c1' m1'
  have R0 := Lib.hid (show ((w.alloc (.cells #[.int .i64 kind, .int .u32 (p.toNat : Int), .int .u32 (m.toNat : Int), .bool neg, .int .i64 mi, .int .i64 ma, .slice ao L cap] 27)).alloc (.cells #[.int .i64 kind', .int .u32 (p'.toNat : Int), .int .u32 (m'.toNat : Int), .bool neg', .int .i64 mi', .int .i64 ma', .slice ao' L' cap'] 27)).heap[w.heap.size]? = some (.cells #[.int .i64 kind, .int .u32 (p.toNat : Int), .int .u32 (m.toNat : Int), .bool neg, .int .i64 mi, .int .i64 ma, .slice ao L cap] 27) from (Below.heap_alloc _ _ _ (by rw [World.size_alloc]; omega)).trans (World.alloc_heap_new w _))
  have R0' := Lib.hid (show ((w.alloc (.cells #[.int .i64 kind, .int .u32 (p.toNat : Int), .int .u32 (m.toNat : Int), .bool neg, .int .i64 mi, .int .i64 ma, .slice ao L cap] 27)).alloc (.cells #[.int .i64 kind', .int .u32 (p'.toNat : Int), .int .u32 (m'.toNat : Int), .bool neg', .int .i64 mi', .int .i64 ma', .slice ao' L' cap'] 27)).heap[w.heap.size + 1]? = some (.cells #[.int .i64 kind', .int .u32 (p'.toNat : Int), .int .u32 (m'.toNat : Int), .bool neg', .int .i64 mi', .int .i64 ma', .slice ao' L' cap'] 27) from heap_alloc2_new w _ _)
  have HB0 := Lib.hid (show Below w.heap.size w ((w.alloc (.cells #[.int .i64 kind, .int .u32 (p.toNat : Int), .int .u32 (m.toNat : Int), .bool neg, .int .i64 mi, .int .i64 ma, .slice ao L cap] 27)).alloc (.cells #[.int .i64 kind', .int .u32 (p'.toNat : Int), .int .u32 (m'.toNat : Int), .bool neg', .int .i64 mi', .int .i64 ma', .slice ao' L' cap'] 27)) by go_grown)
  by_cases e0 : kind = kind'
  · subst e0
    have b0 : (kind == kind) = true := by simp
    by_cases e1 : p = p'
    · subst e1
      have b1 : ((p.toNat : Int) == (p.toNat : Int)) = true := by simp
      by_cases e2 : m = m'
      · subst e2
        have b2 : ((m.toNat : Int) == (m.toNat : Int)) = true := by simp
        rcases bool_cases neg neg' with e3 | e3
        · subst e3
          have b3 : (neg == neg) = true := by simp
          by_cases e4 : mi = mi'
          · subst e4
            have b4 : (mi == mi) = true := by simp
            by_cases e5 : ma = ma'
            · subst e5
              have b5 : (ma == ma) = true := by simp
              have hR := hyes rfl rfl rfl rfl rfl
              have hq := fun (W : World) (hb : Below w.heap.size w W) => peqf_any s IH.out k k' (by have := HKS.out; omega) _ _ W (Pt.below HP.out hb) (Pt.below HP'.out hb)
              simp only at hq
              rw [HL.out, HL'.out, ← hR] at hq
              have HQ := Lib.hid hq
              clear hno hyes hR hq HC HC'
              go_enter Tryd.func52, Tryd.ntmps52
              go_wp2_with (go_at_call 78; refine Gives.then (HQ.out _ HB0.out) ?_; intro w3 hb3; have HB3 := Lib.hid (HB0.out.trans (hb3.mono HB0.out.size)); clear hb3)
              go_returns
              exact ⟨rfl, HB3.out⟩
            · obtain rfl := hno (.inr (.inr (.inr (.inr (.inl e5)))))
              have b5' := int_eqf e5
              clear e5
              clear hno hyes HC HC'
              go_enter Tryd.func52, Tryd.ntmps52
              go_wp2_with fail
              go_returns
              exact ⟨rfl, HB0.out⟩
          · obtain rfl := hno (.inr (.inr (.inr (.inl e4))))
            have b4' := int_eqf e4
            clear e4
            clear hno hyes HC HC'
            go_enter Tryd.func52, Tryd.ntmps52
            go_wp2_with fail
            go_returns
            exact ⟨rfl, HB0.out⟩
        · subst e3
          obtain rfl := hno (.inr (.inr (.inl (by cases neg' <;> simp))))
          have b3 : ((!neg') == neg') = false := by cases neg' <;> rfl
          clear hno hyes HC HC'
          go_enter Tryd.func52, Tryd.ntmps52
          go_wp2_with fail
          go_returns
          exact ⟨rfl, HB0.out⟩
      · obtain rfl := hno (.inr (.inl (fun e => e2 (congrArg Prod.snd e))))
        have b2 := bv_ne e2
        clear e2
        clear hno hyes HC HC'
        go_enter Tryd.func52, Tryd.ntmps52
        go_wp2_with fail
        go_returns
        exact ⟨rfl, HB0.out⟩
    · obtain rfl := hno (.inr (.inl (fun e => e1 (congrArg Prod.fst e))))
      have b1 := bv_ne e1
      clear e1
      clear hno hyes HC HC'
      go_enter Tryd.func52, Tryd.ntmps52
      go_wp2_with fail
      go_returns
      exact ⟨rfl, HB0.out⟩
  · obtain rfl := hno (.inl e0)
    have b0' := int_eqf e0
    clear e0
    clear hno hyes HC HC'
    go_enter Tryd.func52, Tryd.ntmps52
    go_wp2_with fail
    go_returns
    exact ⟨rfl, HB0.out⟩
/-- Whether two patterns are valid and the same. -/
def eqB (d : Nd) (k : Fo) (d' : Nd) (k' : Fo) : Bool := decide (pkE d k = 0) && decide (pkE d' k' = 0) && ptq d k d' k'
set_option maxRecDepth 100000 in
set_option maxHeartbeats 4000000 in
theorem pequal_any (d : Nd) (k : Fo) (d' : Nd) (k' : Fo) (w : World) (hp : Pt w d k) (hp' : Pt w d' k') : Gives 20 #[ndV d, ndV d'] w (.bool (eqB d k d' k')) := by
  unfold Gives
  have hc := fun (W : World) (hb : Below w.heap.size w W) => pcheck_any d k W (hp.below hb)
  have hc' := fun (W : World) (hb : Below w.heap.size w W) => pcheck_any d' k' W (hp'.below hb)
  have hs := fun (W : World) (hb : Below w.heap.size w W) => psame_all (k.size + 1) d k d' k' W (by omega) (hp.below hb) (hp'.below hb)
  obtain ⟨ao, cap, hsl, -, -, -⟩ := hp.open
  obtain ⟨ao', cap', hsl', -, -, -⟩ := hp'.open
  unfold eqB
  obtain ⟨E, hE⟩ : ∃ E, pkE d k = E := ⟨_, rfl⟩
  obtain ⟨E', hE'⟩ : ∃ E, pkE d' k' = E := ⟨_, rfl⟩
  obtain ⟨B, hB⟩ : ∃ B, ptq d k d' k' = B := ⟨_, rfl⟩
  rw [hE] at hc ⊢
  rw [hE'] at hc' ⊢
  rw [hB] at hs ⊢
  obtain ⟨kind, ⟨p, m⟩, neg, mi, ma, sl⟩ := d
  obtain ⟨kind', ⟨p', m'⟩, neg', mi', ma', sl'⟩ := d'
  simp only at hsl hsl'
  subst hsl
  subst hsl'
  obtain ⟨L, hL⟩ : ∃ L, k.len = L := ⟨_, rfl⟩
  obtain ⟨L', hL'⟩ : ∃ L, k'.len = L := ⟨_, rfl⟩
  rw [hL] at hc hs ⊢
  rw [hL'] at hc' hs ⊢
  unfold ndV at hc hc' hs ⊢
  simp only at hc hc' hs ⊢
  have HC := Lib.hid hc; have HC' := Lib.hid hc'; have HS := Lib.hid hs
  clear hc hc' hs hp hp' hL hL' hE hE' hB
  have R0 := Lib.hid (show ((w.alloc (.cells #[.int .i64 kind, .int .u32 (p.toNat : Int), .int .u32 (m.toNat : Int), .bool neg, .int .i64 mi, .int .i64 ma, .slice ao L cap] 27)).alloc (.cells #[.int .i64 kind', .int .u32 (p'.toNat : Int), .int .u32 (m'.toNat : Int), .bool neg', .int .i64 mi', .int .i64 ma', .slice ao' L' cap'] 27)).heap[w.heap.size]? = some (.cells #[.int .i64 kind, .int .u32 (p.toNat : Int), .int .u32 (m.toNat : Int), .bool neg, .int .i64 mi, .int .i64 ma, .slice ao L cap] 27) from (Below.heap_alloc _ _ _ (by rw [World.size_alloc]; omega)).trans (World.alloc_heap_new w _))
  have R0' := Lib.hid (show ((w.alloc (.cells #[.int .i64 kind, .int .u32 (p.toNat : Int), .int .u32 (m.toNat : Int), .bool neg, .int .i64 mi, .int .i64 ma, .slice ao L cap] 27)).alloc (.cells #[.int .i64 kind', .int .u32 (p'.toNat : Int), .int .u32 (m'.toNat : Int), .bool neg', .int .i64 mi', .int .i64 ma', .slice ao' L' cap'] 27)).heap[w.heap.size + 1]? = some (.cells #[.int .i64 kind', .int .u32 (p'.toNat : Int), .int .u32 (m'.toNat : Int), .bool neg', .int .i64 mi', .int .i64 ma', .slice ao' L' cap'] 27) from heap_alloc2_new w _ _)
  have HB0 := Lib.hid (show Below w.heap.size w ((w.alloc (.cells #[.int .i64 kind, .int .u32 (p.toNat : Int), .int .u32 (m.toNat : Int), .bool neg, .int .i64 mi, .int .i64 ma, .slice ao L cap] 27)).alloc (.cells #[.int .i64 kind', .int .u32 (p'.toNat : Int), .int .u32 (m'.toNat : Int), .bool neg', .int .i64 mi', .int .i64 ma', .slice ao' L' cap'] 27)) by go_grown)
  go_enter Tryd.func20, Tryd.ntmps20
  go_wp2_with fail
  generalize ((w.alloc (.cells #[.int .i64 kind, .int .u32 (p.toNat : Int), .int .u32 (m.toNat : Int), .bool neg, .int .i64 mi, .int .i64 ma, .slice ao L cap] 27)).alloc (.cells #[.int .i64 kind', .int .u32 (p'.toNat : Int), .int .u32 (m'.toNat : Int), .bool neg', .int .i64 mi', .int .i64 ma', .slice ao' L' cap'] 27)) = v0 at *
  go_at_call 14
  refine Gives.then (HC.out _ HB0.out) ?_
  intro w1 hb
  have HB1 := Lib.hid (HB0.out.trans (hb.mono HB0.out.size))
  have R1 := Lib.hid ((hb.block _ (Array.getElem?_eq_some_iff.1 R0.out).1).trans R0.out)
  have R1' := Lib.hid ((hb.block _ (Array.getElem?_eq_some_iff.1 R0'.out).1).trans R0'.out)
  clear hb HB0 R0 R0' HC
  by_cases h1 : E = 0
  · subst h1
    simp only [decide_true, Bool.true_and]
    have g0 := cell_block R1.out (o := 0) rfl; have g1 := cell_block R1.out (o := 1) rfl; have g2 := cell_block R1.out (o := 2) rfl; have g3 := cell_block R1.out (o := 3) rfl; have g4 := cell_block R1.out (o := 4) rfl; have g5 := cell_block R1.out (o := 5) rfl; have g6 := cell_block R1.out (o := 6) rfl
    have h0 := cell_block R1'.out (o := 0) rfl; have h1 := cell_block R1'.out (o := 1) rfl; have h2 := cell_block R1'.out (o := 2) rfl; have h3 := cell_block R1'.out (o := 3) rfl; have h4 := cell_block R1'.out (o := 4) rfl; have h5 := cell_block R1'.out (o := 5) rfl; have h6 := cell_block R1'.out (o := 6) rfl
    go_wp2_with fail
    go_at_call 14
    refine Gives.then (HC'.out _ HB1.out) ?_
    intro w2 hb
    have HB2 := Lib.hid (HB1.out.trans (hb.mono HB1.out.size))
    have R2 := Lib.hid ((hb.block _ (Array.getElem?_eq_some_iff.1 R1.out).1).trans R1.out)
    have R2' := Lib.hid ((hb.block _ (Array.getElem?_eq_some_iff.1 R1'.out).1).trans R1'.out)
    clear hb HB1 R1 R1' HC' g0 g1 g2 g3 g4 g5 g6 h0 h1 h2 h3 h4 h5 h6
    by_cases h2 : E' = 0
    · subst h2
      have g0 := cell_block R2.out (o := 0) rfl; have g1 := cell_block R2.out (o := 1) rfl; have g2 := cell_block R2.out (o := 2) rfl; have g3 := cell_block R2.out (o := 3) rfl; have g4 := cell_block R2.out (o := 4) rfl; have g5 := cell_block R2.out (o := 5) rfl; have g6 := cell_block R2.out (o := 6) rfl
      have h0 := cell_block R2'.out (o := 0) rfl; have h1 := cell_block R2'.out (o := 1) rfl; have h2 := cell_block R2'.out (o := 2) rfl; have h3 := cell_block R2'.out (o := 3) rfl; have h4 := cell_block R2'.out (o := 4) rfl; have h5 := cell_block R2'.out (o := 5) rfl; have h6 := cell_block R2'.out (o := 6) rfl
      go_wp2_with fail
      go_at_call 52
      refine Gives.then (HS.out _ HB2.out) ?_
      intro w3 hb
      have HB3 := Lib.hid (HB2.out.trans (hb.mono HB2.out.size))
      clear hb HB2
      go_wp2_with fail
      go_returns
      exact ⟨by simp, HB3.out⟩
    · have b2 := int_eqf h2
      have hf : (decide (E' = 0) && B) = false := by simp [h2]
      have HF := Lib.hid hf
      clear h2 hf
      go_wp2_with fail
      go_returns
      exact ⟨by rw [HF.out]; rfl, HB2.out⟩
  · have b1 := int_eqf h1
    have hf : (decide (E = 0) && decide (E' = 0) && B) = false := by simp [h1]
    have HF := Lib.hid hf
    clear h1 hf
    go_wp2_with fail
    go_returns
    exact ⟨by rw [HF.out]; rfl, HB1.out⟩
set_option maxRecDepth 100000 in
set_option maxHeartbeats 4000000 in
theorem requal06_any (d : Nd) (k : Fo) (d' : Nd) (k' : Fo) (w : World) (hp : Pt w d k) (hp' : Pt w d' k') : Gives 21 #[ndV d, ndV d'] w (.bool (eqB d k d' k')) := by
  unfold Gives
  have hc := fun (W : World) (hb : Below w.heap.size w W) => rpcheck_any d k W (hp.below hb)
  have hc' := fun (W : World) (hb : Below w.heap.size w W) => rpcheck_any d' k' W (hp'.below hb)
  have hs := fun (W : World) (hb : Below w.heap.size w W) => ralike_all (k.size + 1) d k d' k' W (by omega) (hp.below hb) (hp'.below hb)
  obtain ⟨ao, cap, hsl, -, -, -⟩ := hp.open
  obtain ⟨ao', cap', hsl', -, -, -⟩ := hp'.open
  unfold eqB
  obtain ⟨E, hE⟩ : ∃ E, pkE d k = E := ⟨_, rfl⟩
  obtain ⟨E', hE'⟩ : ∃ E, pkE d' k' = E := ⟨_, rfl⟩
  obtain ⟨B, hB⟩ : ∃ B, ptq d k d' k' = B := ⟨_, rfl⟩
  rw [hE] at hc ⊢
  rw [hE'] at hc' ⊢
  rw [hB] at hs ⊢
  obtain ⟨kind, ⟨p, m⟩, neg, mi, ma, sl⟩ := d
  obtain ⟨kind', ⟨p', m'⟩, neg', mi', ma', sl'⟩ := d'
  simp only at hsl hsl'
  subst hsl
  subst hsl'
  obtain ⟨L, hL⟩ : ∃ L, k.len = L := ⟨_, rfl⟩
  obtain ⟨L', hL'⟩ : ∃ L, k'.len = L := ⟨_, rfl⟩
  rw [hL] at hc hs ⊢
  rw [hL'] at hc' hs ⊢
  unfold ndV at hc hc' hs ⊢
  simp only at hc hc' hs ⊢
  have HC := Lib.hid hc; have HC' := Lib.hid hc'; have HS := Lib.hid hs
  clear hc hc' hs hp hp' hL hL' hE hE' hB
  have R0 := Lib.hid (show ((w.alloc (.cells #[.int .i64 kind, .int .u32 (p.toNat : Int), .int .u32 (m.toNat : Int), .bool neg, .int .i64 mi, .int .i64 ma, .slice ao L cap] 27)).alloc (.cells #[.int .i64 kind', .int .u32 (p'.toNat : Int), .int .u32 (m'.toNat : Int), .bool neg', .int .i64 mi', .int .i64 ma', .slice ao' L' cap'] 27)).heap[w.heap.size]? = some (.cells #[.int .i64 kind, .int .u32 (p.toNat : Int), .int .u32 (m.toNat : Int), .bool neg, .int .i64 mi, .int .i64 ma, .slice ao L cap] 27) from (Below.heap_alloc _ _ _ (by rw [World.size_alloc]; omega)).trans (World.alloc_heap_new w _))
  have R0' := Lib.hid (show ((w.alloc (.cells #[.int .i64 kind, .int .u32 (p.toNat : Int), .int .u32 (m.toNat : Int), .bool neg, .int .i64 mi, .int .i64 ma, .slice ao L cap] 27)).alloc (.cells #[.int .i64 kind', .int .u32 (p'.toNat : Int), .int .u32 (m'.toNat : Int), .bool neg', .int .i64 mi', .int .i64 ma', .slice ao' L' cap'] 27)).heap[w.heap.size + 1]? = some (.cells #[.int .i64 kind', .int .u32 (p'.toNat : Int), .int .u32 (m'.toNat : Int), .bool neg', .int .i64 mi', .int .i64 ma', .slice ao' L' cap'] 27) from heap_alloc2_new w _ _)
  have HB0 := Lib.hid (show Below w.heap.size w ((w.alloc (.cells #[.int .i64 kind, .int .u32 (p.toNat : Int), .int .u32 (m.toNat : Int), .bool neg, .int .i64 mi, .int .i64 ma, .slice ao L cap] 27)).alloc (.cells #[.int .i64 kind', .int .u32 (p'.toNat : Int), .int .u32 (m'.toNat : Int), .bool neg', .int .i64 mi', .int .i64 ma', .slice ao' L' cap'] 27)) by go_grown)
  go_enter Tryd.func21, Tryd.ntmps21
  go_wp2_with fail
  generalize ((w.alloc (.cells #[.int .i64 kind, .int .u32 (p.toNat : Int), .int .u32 (m.toNat : Int), .bool neg, .int .i64 mi, .int .i64 ma, .slice ao L cap] 27)).alloc (.cells #[.int .i64 kind', .int .u32 (p'.toNat : Int), .int .u32 (m'.toNat : Int), .bool neg', .int .i64 mi', .int .i64 ma', .slice ao' L' cap'] 27)) = v0 at *
  go_at_call 15
  refine Gives.then (HC.out _ HB0.out) ?_
  intro w1 hb
  have HB1 := Lib.hid (HB0.out.trans (hb.mono HB0.out.size))
  have R1 := Lib.hid ((hb.block _ (Array.getElem?_eq_some_iff.1 R0.out).1).trans R0.out)
  have R1' := Lib.hid ((hb.block _ (Array.getElem?_eq_some_iff.1 R0'.out).1).trans R0'.out)
  clear hb HB0 R0 R0' HC
  by_cases h1 : E = 0
  · subst h1
    simp only [decide_true, Bool.true_and]
    have g0 := cell_block R1.out (o := 0) rfl; have g1 := cell_block R1.out (o := 1) rfl; have g2 := cell_block R1.out (o := 2) rfl; have g3 := cell_block R1.out (o := 3) rfl; have g4 := cell_block R1.out (o := 4) rfl; have g5 := cell_block R1.out (o := 5) rfl; have g6 := cell_block R1.out (o := 6) rfl
    have h0 := cell_block R1'.out (o := 0) rfl; have h1 := cell_block R1'.out (o := 1) rfl; have h2 := cell_block R1'.out (o := 2) rfl; have h3 := cell_block R1'.out (o := 3) rfl; have h4 := cell_block R1'.out (o := 4) rfl; have h5 := cell_block R1'.out (o := 5) rfl; have h6 := cell_block R1'.out (o := 6) rfl
    go_wp2_with fail
    go_at_call 15
    refine Gives.then (HC'.out _ HB1.out) ?_
    intro w2 hb
    have HB2 := Lib.hid (HB1.out.trans (hb.mono HB1.out.size))
    have R2 := Lib.hid ((hb.block _ (Array.getElem?_eq_some_iff.1 R1.out).1).trans R1.out)
    have R2' := Lib.hid ((hb.block _ (Array.getElem?_eq_some_iff.1 R1'.out).1).trans R1'.out)
    clear hb HB1 R1 R1' HC' g0 g1 g2 g3 g4 g5 g6 h0 h1 h2 h3 h4 h5 h6
    by_cases h2 : E' = 0
    · subst h2
      have g0 := cell_block R2.out (o := 0) rfl; have g1 := cell_block R2.out (o := 1) rfl; have g2 := cell_block R2.out (o := 2) rfl; have g3 := cell_block R2.out (o := 3) rfl; have g4 := cell_block R2.out (o := 4) rfl; have g5 := cell_block R2.out (o := 5) rfl; have g6 := cell_block R2.out (o := 6) rfl
      have h0 := cell_block R2'.out (o := 0) rfl; have h1 := cell_block R2'.out (o := 1) rfl; have h2 := cell_block R2'.out (o := 2) rfl; have h3 := cell_block R2'.out (o := 3) rfl; have h4 := cell_block R2'.out (o := 4) rfl; have h5 := cell_block R2'.out (o := 5) rfl; have h6 := cell_block R2'.out (o := 6) rfl
      go_wp2_with fail
      go_at_call 53
      refine Gives.then (HS.out _ HB2.out) ?_
      intro w3 hb
      have HB3 := Lib.hid (HB2.out.trans (hb.mono HB2.out.size))
      clear hb HB2
      go_wp2_with fail
      go_returns
      exact ⟨by simp, HB3.out⟩
    · have b2 := int_eqf h2
      have hf : (decide (E' = 0) && B) = false := by simp [h2]
      have HF := Lib.hid hf
      clear h2 hf
      go_wp2_with fail
      go_returns
      exact ⟨by rw [HF.out]; rfl, HB2.out⟩
  · have b1 := int_eqf h1
    have hf : (decide (E = 0) && decide (E' = 0) && B) = false := by simp [h1]
    have HF := Lib.hid hf
    clear h1 hf
    go_wp2_with fail
    go_returns
    exact ⟨by rw [HF.out]; rfl, HB1.out⟩
end Go.Proofs.YtmobilppakjihaaDoor

/-
  PatsChecks.
-/
namespace Go.Proofs.YtmobilppakjihaaDoor
open Go.RowKit Go.Sort
theorem eqv_self : ∀ f : Fo, f.eqv f = true
  | .nil => rfl
  | .cons d k r => by simp [Fo.eqv, eqv_self k, eqv_self r]
theorem eqB_self (d : Nd) (k : Fo) : eqB d k d k = (pkE d k == 0) := by
  have h : ptq d k d k = true := by simp [ptq, eqv_self]
  unfold eqB
  rw [h]
  by_cases h0 : pkE d k = 0
  · simp [h0]
  · simp [h0]
set_option maxRecDepth 100000 in
set_option maxHeartbeats 4000000 in
theorem rempty_any (d : Nd) (k : Fo) (w : World) (hp : Pt w d k) : Gives 19 #[ndV d] w (.bool (emB d k)) := by
  unfold Gives
  have hck := fun (W : World) (hb : Below w.heap.size w W) => rpcheck_any d k W (hp.below hb)
  have htb : mtE d k z2 = 0 → ∀ (W : World) (sv : Value), Below w.heap.size w W → Wd W sv z2 → Calls Tryd.prog 51 #[ndV d, sv] W fun e w' => ∃ g, e = .returned (.slice (some ⟨g, 0, none⟩) 3 3) ∧ w'.cell? ⟨g, 1, none⟩ = some (.int .u64 ((tabP z2 d k 1).toNat : Int)) ∧ Below W.heap.size W w' := fun hE W sv hb hW => by
    refine (rtable_any d k z2 sv W (hp.below hb) hW hE).mono ?_
    rintro e w' ⟨v, rfl, ⟨g, rfl, hr⟩, hb'⟩
    exact ⟨g, rfl, hr.cell (a := 1) (by decide), hb'⟩
  obtain ⟨ao, cap, hsl, -, -, -⟩ := hp.open
  have hz : mtE d k z2 = pkE d k := by
    unfold mtE
    by_cases h : pkE d k = 0
    · rw [if_pos h, h]; decide
    · rw [if_neg h]
  obtain ⟨R, hR⟩ : ∃ R, emB d k = R := ⟨_, rfl⟩
  have hR1 : R = (decide (pkE d k = 0) && (tabP z2 d k 1).getLsbD 1) := by rw [← hR, emB, hz]
  obtain ⟨T, hT⟩ : ∃ T, tabP z2 d k = T := ⟨_, rfl⟩
  obtain ⟨E, hE⟩ : ∃ E, pkE d k = E := ⟨_, rfl⟩
  rw [hz] at htb
  rw [hE] at hck htb hR1
  rw [hT] at htb hR1
  rw [hR]
  clear hz hR hT hE
  obtain ⟨kind, ⟨p, m⟩, neg, mi, ma, sl⟩ := d
  simp only at hsl
  subst hsl
  obtain ⟨kl, hkl⟩ : ∃ kl, k.len = kl := ⟨_, rfl⟩
  rw [hkl] at hck htb ⊢
  unfold ndV at hck htb ⊢
  simp only at hck htb ⊢
  have HCK := Lib.hid hck; have HTB := Lib.hid htb
  clear hck htb hp hkl
  have R0 := Lib.hid (World.alloc_heap_new w (.cells #[.int .i64 kind, .int .u32 (p.toNat : Int), .int .u32 (m.toNat : Int), .bool neg, .int .i64 mi, .int .i64 ma, .slice ao kl cap] 27))
  have HB0 := Lib.hid (show Below w.heap.size w (w.alloc (.cells #[.int .i64 kind, .int .u32 (p.toNat : Int), .int .u32 (m.toNat : Int), .bool neg, .int .i64 mi, .int .i64 ma, .slice ao kl cap] 27)) by go_grown)
  have hmk : ∀ w, Sem.run Tryd.prog (Instr.makeSlice 34 (Value.int IntKind.i64 2) (Value.int IntKind.i64 2)) w = .ok (.slice (some ⟨w.heap.size, 0, none⟩) 2 2) (w.alloc (.cells #[.int .u32 0, .int .u32 0, .int .u32 0, .int .u32 0] 24)) := fun _ => by kernel_rfl
  go_enter Tryd.func19, Tryd.ntmps19
  go_wp2_with fail
  generalize (w.alloc (.cells #[.int .i64 kind, .int .u32 (p.toNat : Int), .int .u32 (m.toNat : Int), .bool neg, .int .i64 mi, .int .i64 ma, .slice ao kl cap] 27)) = v0 at *
  go_at_call 15
  refine Gives.then (HCK.out _ HB0.out) ?_
  intro w1 hb1
  have HB1 := Lib.hid (HB0.out.trans (hb1.mono HB0.out.size))
  have R1 := Lib.hid ((hb1.block _ (Array.getElem?_eq_some_iff.1 R0.out).1).trans R0.out)
  have g0 := cell_block R1.out (o := 0) rfl; have g1 := cell_block R1.out (o := 1) rfl; have g2 := cell_block R1.out (o := 2) rfl; have g3 := cell_block R1.out (o := 3) rfl; have g4 := cell_block R1.out (o := 4) rfl; have g5 := cell_block R1.out (o := 5) rfl; have g6 := cell_block R1.out (o := 6) rfl
  clear hb1 R0 HB0 HCK
  by_cases hE : E = 0
  · subst hE
    replace HTB := Lib.hid (HTB.out rfl)
    have hR2 : R = (T 1).getLsbD 1 := by rw [hR1]; simp
    have hbit := has_nat (T 1) 1
    rw [← hR2] at hbit
    have hbit2 : (bits BinOp.and IntKind.u64 (((T 1).toNat : Int) / 2) 1 == 1) = R := by simpa using hbit
    clear hR1 hR2
    go_wp2_with fail
    have lR1 := (Array.getElem?_eq_some_iff.1 R1.out).1
    have gc0 : w1.cell? ⟨w.heap.size, 0, none⟩ = some (.int .i64 kind) := g0
    have ga0 : ∀ O : Obj, (w1.alloc O).cell? ⟨w.heap.size, 0, none⟩ = some (.int .i64 kind) := fun O => keep_alloc (X := O) gc0 lR1
    have gc1 : w1.cell? ⟨w.heap.size, 1, none⟩ = some (.int .u32 (p.toNat : Int)) := g1
    have ga1 : ∀ O : Obj, (w1.alloc O).cell? ⟨w.heap.size, 1, none⟩ = some (.int .u32 (p.toNat : Int)) := fun O => keep_alloc (X := O) gc1 lR1
    have gc2 : w1.cell? ⟨w.heap.size, 2, none⟩ = some (.int .u32 (m.toNat : Int)) := g2
    have ga2 : ∀ O : Obj, (w1.alloc O).cell? ⟨w.heap.size, 2, none⟩ = some (.int .u32 (m.toNat : Int)) := fun O => keep_alloc (X := O) gc2 lR1
    have gc3 : w1.cell? ⟨w.heap.size, 3, none⟩ = some (.bool neg) := g3
    have ga3 : ∀ O : Obj, (w1.alloc O).cell? ⟨w.heap.size, 3, none⟩ = some (.bool neg) := fun O => keep_alloc (X := O) gc3 lR1
    have gc4 : w1.cell? ⟨w.heap.size, 4, none⟩ = some (.int .i64 mi) := g4
    have ga4 : ∀ O : Obj, (w1.alloc O).cell? ⟨w.heap.size, 4, none⟩ = some (.int .i64 mi) := fun O => keep_alloc (X := O) gc4 lR1
    have gc5 : w1.cell? ⟨w.heap.size, 5, none⟩ = some (.int .i64 ma) := g5
    have ga5 : ∀ O : Obj, (w1.alloc O).cell? ⟨w.heap.size, 5, none⟩ = some (.int .i64 ma) := fun O => keep_alloc (X := O) gc5 lR1
    have gc6 : w1.cell? ⟨w.heap.size, 6, none⟩ = some (.slice ao kl cap) := g6
    have ga6 : ∀ O : Obj, (w1.alloc O).cell? ⟨w.heap.size, 6, none⟩ = some (.slice ao kl cap) := fun O => keep_alloc (X := O) gc6 lR1
    clear g0 g1 g2 g3 g4 g5 g6
    go_region_with (first | (go_at_call 51; refine calls_gen ?_; intro V hV; have hv : Below w1.heap.size w1 V := (by rw [hV]; go_grown); have b9 : V.heap[w1.heap.size]? = some (.cells #[.int .u32 0, .int .u32 0, .int .u32 0, .int .u32 0] 24) := (by rw [hV]; exact World.alloc_heap_new _ _); clear hV; refine (HTB.out V _ (HB1.out.trans (hv.mono HB1.out.size)) (wd_z2 b9)).mono ?_; rintro e w2 ⟨g, rfl, c1, hb2⟩; have HB2 := Lib.hid ((HB1.out.trans (hv.mono HB1.out.size)).trans (hb2.mono ((HB1.out.trans (hv.mono HB1.out.size)).size))); clear hb2 hv b9))
    all_goals
      go_wp2_with fail
      go_returns
      exact ⟨rfl, HB2.out⟩
  · have hEi : (E != 0) = true := int_ne hE
    have hR2 : R = false := by rw [hR1]; simp [hE]
    subst hR2
    clear hR1 hE HTB hmk
    go_wp2_with fail
    go_returns
    exact ⟨rfl, HB1.out⟩
set_option maxRecDepth 100000 in
set_option maxHeartbeats 8000000 in
theorem checks_any (d1 : Nd) (k1 : Fo) (d2 : Nd) (k2 : Fo) (w : World) (hp1 : Pt w d1 k1) (hp2 : Pt w d2 k2) (hT : Tab64 w) (ht0 : 0 < w.heap.size) :
    Gives 3 #[ndV d1, ndV d2] w (.bool true) := by
  unfold Gives
  have hA := fun (W : World) (hb : Below w.heap.size w W) => pcheck_any d1 k1 W (hp1.below hb)
  have hB := fun (W : World) (hb : Below w.heap.size w W) => rpcheck_any d1 k1 W (hp1.below hb)
  have hC := fun (W : World) (hb : Below w.heap.size w W) => size_any d1 k1 W (hp1.below hb)
  have hD := fun (W : World) (hb : Below w.heap.size w W) => rsize_any d1 k1 W (hp1.below hb)
  have hF := fun (W : World) (hb : Below w.heap.size w W) => empty_anyP d1 k1 W (hp1.below hb) (hT.below hb ht0) (by have := hb.size; omega)
  have hG := fun (W : World) (hb : Below w.heap.size w W) => rempty_any d1 k1 W (hp1.below hb)
  have hH := fun (W : World) (hb : Below w.heap.size w W) => pequal_any d1 k1 d2 k2 W (hp1.below hb) (hp2.below hb)
  have hI := fun (W : World) (hb : Below w.heap.size w W) => requal06_any d1 k1 d2 k2 W (hp1.below hb) (hp2.below hb)
  have hJ := fun (W : World) (hb : Below w.heap.size w W) => pequal_any d2 k2 d1 k1 W (hp2.below hb) (hp1.below hb)
  have hK := fun (W : World) (hb : Below w.heap.size w W) => requal06_any d2 k2 d1 k1 W (hp2.below hb) (hp1.below hb)
  have hM := fun (W : World) (hb : Below w.heap.size w W) => pequal_any d1 k1 d1 k1 W (hp1.below hb) (hp1.below hb)
  have hwk : Hid (∀ W : World, Below w.heap.size w W → Gives 22 #[] W (.bool true)) := fun W hb => works_any W (hT.below hb ht0) (by have := hb.size; omega)
  rw [eqB_self] at hM
  obtain ⟨ao1, cap1, hsl1, -, -, -⟩ := hp1.open
  obtain ⟨ao2, cap2, hsl2, -, -, -⟩ := hp2.open
  generalize pkE d1 k1 = E at *
  generalize szP k1 = S at *
  generalize emB d1 k1 = B at *
  generalize eqB d1 k1 d2 k2 = Q1 at *
  generalize eqB d2 k2 d1 k1 = Q2 at *
  obtain ⟨kind1, ⟨p1, m1⟩, neg1, mi1, ma1, sl1⟩ := d1
  obtain ⟨kind2, ⟨p2, m2⟩, neg2, mi2, ma2, sl2⟩ := d2
  simp only at hsl1 hsl2
  subst hsl1
  subst hsl2
  obtain ⟨kl1, hkl1⟩ : ∃ kl, k1.len = kl := ⟨_, rfl⟩
  obtain ⟨kl2, hkl2⟩ : ∃ kl, k2.len = kl := ⟨_, rfl⟩
  rw [hkl1] at hA hB hC hD hF hG hH hI hJ hK hM ⊢
  rw [hkl2] at hH hI hJ hK ⊢
  unfold ndV at hA hB hC hD hF hG hH hI hJ hK hM ⊢
  simp only at hA hB hC hD hF hG hH hI hJ hK hM ⊢
  have HA := Lib.hid hA; have HBq := Lib.hid hB; have HC := Lib.hid hC; have HD := Lib.hid hD; have HF := Lib.hid hF; have HG := Lib.hid hG; have HH := Lib.hid hH; have HI := Lib.hid hI; have HJ := Lib.hid hJ; have HK := Lib.hid hK; have HM := Lib.hid hM
  clear hA hB hC hD hF hG hH hI hJ hK hM hp1 hp2 hT ht0 hkl1 hkl2
  have R1 := Lib.hid (show ((w.alloc (.cells #[.int .i64 kind1, .int .u32 (p1.toNat : Int), .int .u32 (m1.toNat : Int), .bool neg1, .int .i64 mi1, .int .i64 ma1, .slice ao1 kl1 cap1] 27)).alloc (.cells #[.int .i64 kind2, .int .u32 (p2.toNat : Int), .int .u32 (m2.toNat : Int), .bool neg2, .int .i64 mi2, .int .i64 ma2, .slice ao2 kl2 cap2] 27)).heap[w.heap.size]? = some (.cells #[.int .i64 kind1, .int .u32 (p1.toNat : Int), .int .u32 (m1.toNat : Int), .bool neg1, .int .i64 mi1, .int .i64 ma1, .slice ao1 kl1 cap1] 27) from (Below.heap_alloc _ _ _ (by rw [World.size_alloc]; omega)).trans (World.alloc_heap_new w _))
  have R2 := Lib.hid (show ((w.alloc (.cells #[.int .i64 kind1, .int .u32 (p1.toNat : Int), .int .u32 (m1.toNat : Int), .bool neg1, .int .i64 mi1, .int .i64 ma1, .slice ao1 kl1 cap1] 27)).alloc (.cells #[.int .i64 kind2, .int .u32 (p2.toNat : Int), .int .u32 (m2.toNat : Int), .bool neg2, .int .i64 mi2, .int .i64 ma2, .slice ao2 kl2 cap2] 27)).heap[w.heap.size + 1]? = some (.cells #[.int .i64 kind2, .int .u32 (p2.toNat : Int), .int .u32 (m2.toNat : Int), .bool neg2, .int .i64 mi2, .int .i64 ma2, .slice ao2 kl2 cap2] 27) from heap_alloc2_new w _ _)
  have HB0 := Lib.hid (show Below w.heap.size w ((w.alloc (.cells #[.int .i64 kind1, .int .u32 (p1.toNat : Int), .int .u32 (m1.toNat : Int), .bool neg1, .int .i64 mi1, .int .i64 ma1, .slice ao1 kl1 cap1] 27)).alloc (.cells #[.int .i64 kind2, .int .u32 (p2.toNat : Int), .int .u32 (m2.toNat : Int), .bool neg2, .int .i64 mi2, .int .i64 ma2, .slice ao2 kl2 cap2] 27)) by go_grown)
  have bE : (E == E) = true := by simp
  have bS : ((S : Int) == (S : Int)) = true := by simp
  have bB : (B == B) = true := by simp
  have bQ1 : (Q1 == Q1) = true := by simp
  have bQ2 : (Q2 == Q2) = true := by simp
  have bZ : ((E == 0) == (E == 0)) = true := by simp
  go_enter Tryd.func3, Tryd.ntmps3
  go_wp2_with fail
  generalize ((w.alloc (.cells #[.int .i64 kind1, .int .u32 (p1.toNat : Int), .int .u32 (m1.toNat : Int), .bool neg1, .int .i64 mi1, .int .i64 ma1, .slice ao1 kl1 cap1] 27)).alloc (.cells #[.int .i64 kind2, .int .u32 (p2.toNat : Int), .int .u32 (m2.toNat : Int), .bool neg2, .int .i64 mi2, .int .i64 ma2, .slice ao2 kl2 cap2] 27)) = v0 at *
  have g0 := cell_block R1.out (o := 0) rfl; have g1 := cell_block R1.out (o := 1) rfl; have g2 := cell_block R1.out (o := 2) rfl; have g3 := cell_block R1.out (o := 3) rfl; have g4 := cell_block R1.out (o := 4) rfl; have g5 := cell_block R1.out (o := 5) rfl; have g6 := cell_block R1.out (o := 6) rfl
  have h0 := cell_block R2.out (o := 0) rfl; have h1 := cell_block R2.out (o := 1) rfl; have h2 := cell_block R2.out (o := 2) rfl; have h3 := cell_block R2.out (o := 3) rfl; have h4 := cell_block R2.out (o := 4) rfl; have h5 := cell_block R2.out (o := 5) rfl; have h6 := cell_block R2.out (o := 6) rfl
  have yg0 := cell_regrown g0; have yg1 := cell_regrown g1; have yg2 := cell_regrown g2; have yg3 := cell_regrown g3; have yg4 := cell_regrown g4; have yg5 := cell_regrown g5; have yg6 := cell_regrown g6; have yh0 := cell_regrown h0; have yh1 := cell_regrown h1; have yh2 := cell_regrown h2; have yh3 := cell_regrown h3; have yh4 := cell_regrown h4; have yh5 := cell_regrown h5; have yh6 := cell_regrown h6
  clear g0 g1 g2 g3 g4 g5 g6 h0 h1 h2 h3 h4 h5 h6
  refine wp_region_quiet_below (by kernel_rfl) (by kernel_rfl) ?_
  try simp only [List.append]
  repeat (go_big_quiet_step (first
    | (go_at_call 14; first | (with_reducible exact Calls.regrown_of (HA.out _ (HB0.out.trans ((below_regrown _ _ _).mono HB0.out.size)))))
    | (go_at_call 15; first | (with_reducible exact Calls.regrown_of (HBq.out _ (HB0.out.trans ((below_regrown _ _ _).mono HB0.out.size)))))
    | (go_at_call 16; first | (with_reducible exact Calls.regrown_of (HC.out _ (HB0.out.trans ((below_regrown _ _ _).mono HB0.out.size)))))
    | (go_at_call 17; first | (with_reducible exact Calls.regrown_of (HD.out _ (HB0.out.trans ((below_regrown _ _ _).mono HB0.out.size)))))
    | (go_at_call 18; first | (with_reducible exact Calls.regrown_of (HF.out _ (HB0.out.trans ((below_regrown _ _ _).mono HB0.out.size)))))
    | (go_at_call 19; first | (with_reducible exact Calls.regrown_of (HG.out _ (HB0.out.trans ((below_regrown _ _ _).mono HB0.out.size)))))
    | (go_at_call 20; first | (with_reducible exact Calls.regrown_of (HH.out _ (HB0.out.trans ((below_regrown _ _ _).mono HB0.out.size)))) | (with_reducible exact Calls.regrown_of (HJ.out _ (HB0.out.trans ((below_regrown _ _ _).mono HB0.out.size)))) | (with_reducible exact Calls.regrown_of (HM.out _ (HB0.out.trans ((below_regrown _ _ _).mono HB0.out.size)))))
    | (go_at_call 21; first | (with_reducible exact Calls.regrown_of (HI.out _ (HB0.out.trans ((below_regrown _ _ _).mono HB0.out.size)))) | (with_reducible exact Calls.regrown_of (HK.out _ (HB0.out.trans ((below_regrown _ _ _).mono HB0.out.size)))))
    | (go_at_call 22; first | (with_reducible exact Calls.regrown_of (hwk.out _ (HB0.out.trans ((below_regrown _ _ _).mono HB0.out.size)))))))
  refine wpQuiet_nil ?_
  intro w1 hw1
  have HB1 := Lib.hid (HB0.out.trans (show Below w.heap.size v0 w1 from by obtain ⟨q, rfl⟩ := hw1; exact (below_regrown _ _ _).mono HB0.out.size))
  clear hw1 yg0 yg1 yg2 yg3 yg4 yg5 yg6 yh0 yh1 yh2 yh3 yh4 yh5 yh6
  go_wp2_with fail
  go_returns
  exact ⟨rfl, HB1.out⟩
end Go.Proofs.YtmobilppakjihaaDoor
