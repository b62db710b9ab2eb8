/-
  The specification's Runs.
-/
import Derived.Test.YthokpgnenlfnjaaWr
import Derived.BigQuiet
namespace Go.Proofs.Ythokpgnenlfnjaa
open Go.RowKit Go.Sort
attribute [local go_sem ↓] snd_eql snd_neq
theorem Chain.le {ss : List Snd} : ∀ (l : List (Nat × Nat)) (a z : Nat), Chain ss l a z → a ≤ z
  | [], a, z, h => Nat.le_of_eq h
  | x :: l, a, z, h => by
    obtain ⟨c1, c2, _, _, _, c6⟩ := h
    have := Chain.le l x.2 z c6
    omega
/-- There is one way only. -/
theorem Chain.one {ss : List Snd} : ∀ (l m : List (Nat × Nat)) (a z : Nat), Chain ss l a z → Chain ss m a z → l = m
  | [], [], _, _, _, _ => rfl
  | [], y :: m, a, z, h, k => by
    have h : a = z := h
    obtain ⟨c1, c2, _, _, _, c6⟩ := k
    have := Chain.le m y.2 z c6
    omega
  | x :: l, [], a, z, h, k => by
    have k : a = z := k
    obtain ⟨c1, c2, _, _, _, c6⟩ := h
    have := Chain.le l x.2 z c6
    omega
  | (p, q) :: l, (p', q') :: m, a, z, h, k => by
    obtain ⟨c1, c2, c3, c4, c5, c6⟩ := h
    obtain ⟨d1, d2, d3, d4, d5, d6⟩ := k
    simp only at *
    subst c1
    subst d1
    have e : q = q' := by
      rcases Nat.lt_trichotomy q q' with h | h | h
      · exact absurd (d4 q (by omega) h) (c5 (by omega))
      · exact h
      · exact absurd (c4 q' (by omega) h) (d5 (by omega))
    subst e
    rw [Chain.one l m _ _ c6 d6]
theorem OwnR.nil (w : World) (base : Nat) : OwnR w base (.slice none 0 0) [] := ⟨rfl, .inl ⟨rfl, rfl⟩⟩
theorem OwnR.below {w w' : World} {base : Nat} {v : Value} {ss : List (Nat × Nat)} (h : OwnR w base v ss) (hb : Below w.heap.size w w') : OwnR w' base v ss := by
  obtain ⟨hl, h0 | ⟨g, cap, cur, hv, hg, hh, hr⟩⟩ := h
  · exact ⟨hl, .inl h0⟩
  · exact ⟨hl, .inr ⟨g, cap, cur, hv, hg, (hb.block g (Array.getElem?_eq_some_iff.1 hh).1).trans hh, hr⟩⟩
theorem OwnR.row {w : World} {base : Nat} {v : Value} {ss : List (Nat × Nat)} (h : OwnR w base v ss) (k : Nat) (hk : v.ownBlock = some k) : base ≤ k := by
  obtain ⟨hl, ⟨rfl, h0⟩ | ⟨g, cap, cur, rfl, hg, hr⟩⟩ := h
  · cases hk
  · cases hk; exact hg
theorem OwnR.form {w : World} {base : Nat} {v : Value} {ss : List (Nat × Nat)} (h : OwnR w base v ss) : ∃ ao n cap, v = .slice ao n cap := by
  obtain ⟨hl, ⟨rfl, h0⟩ | ⟨g, cap, cur, rfl, hg, hr⟩⟩ := h
  · exact ⟨_, _, _, rfl⟩
  · exact ⟨_, _, _, rfl⟩
/-- append of a run. -/
theorem wpList_appR {ops : Array Oper} {rest : List Oper} {o : Oper} {a : Act} {w : World} {Q : Exit → Act → World → Prop} (hgd : o.guard = none) (s x : Operand) (t : TypeId) (ht : Try.prog.underlying t = some (.slice 42))
    (ho : o.op = .call { callee := .builtin .append, args := #[s, x], argTypes := #[t, t] })
    (base : Nat) (v : Value) (l : List (Nat × Nat)) (p q b : Nat) (hs : a.eval s = v) (hx : a.eval x = .slice (some ⟨b, 0, none⟩) 1 1) (hown : OwnR w base v l) (h0 : w.cell? ⟨b, 0, none⟩ = some (.int .i64 (p : Int))) (h1 : w.cell? ⟨b, 1, none⟩ = some (.int .i64 (q : Int))) (hlen : l.length + 1 ≤ 1000000000000) (hbase : base ≤ w.heap.size)
    (h : ∀ v' w', OwnR w' base v' (l ++ [(p, q)]) → (∀ B a, B ≤ base → Below B a w → Below B a w') → w.heap.size ≤ w'.heap.size → wpList Try.prog ops Q rest (a.put o.dst v') w') : wpList Try.prog ops Q (o :: rest) a w := by
  obtain ⟨i, hi, hz, hs1, hb1⟩ := info_parts infoRun
  refine wpList_append_own w hgd s x t ho base _ i _ 2 16 ht hi hz hs1 hb1 rfl (by decide) v l.length (flatR l) hs hown ⟨b, 0, none⟩ 1 1 [.int .i64 (p : Int), .int .i64 (q : Int)] hx rfl (fun j u hu => by match j, hu with | 0, hu => (cases hu; exact h0) | 1, hu => (cases hu; exact h1)) (by simp [Value.oneCell']) (Nat.le_trans hlen (by decide)) (by omega) hbase ?_
  intro v' w' ho' hg _
  refine h v' w' ?_ (fun B a hB hb => hb.grown hg (by omega) (fun k e => Nat.le_trans hB (OwnR.row hown k e))) hg.size
  unfold OwnR
  rw [flatR_append, List.length_append]
  simpa [flatR] using ho'
set_option maxRecDepth 100000 in
set_option maxHeartbeats 8000000 in
theorem rRuns_any (xs : List Snd) (v : Value) (hl : xs.length ≤ 1000000000) (w : World) (hd : Wd w v xs) : Calls Try.prog 36 #[v] w fun e w' => ∃ v l, e = .returned v ∧ OwnR w' w.heap.size v l ∧ Chain xs l 0 xs.length ∧ Below w.heap.size w w' := by
  obtain ⟨ao, cap, rfl, -, HX⟩ := hd.cells
  have HX := Lib.hid HX
  clear hd
  go_enter Try.func36, Try.ntmps36
  go_wp2_with fail
  go_loopw [4, 3] (fun s t wr => ∃ (a e : Nat) (l : List (Nat × Nat)), s = .int .i64 (a : Int) ∧ OwnR wr w.heap.size t l ∧ Chain xs l 0 e ∧ a ≤ e ∧ e ≤ xs.length ∧ (∀ k, a ≤ k → k < e → 0 < k ∧ xs[k]? = xs[k - 1]?) ∧ (0 < e → e < xs.length → xs[e]? ≠ xs[e - 1]?) ∧ l.length ≤ e ∧ Below w.heap.size w wr ∧ w.heap.size ≤ wr.heap.size) (fun s _ _ => xs.length - (intOf s).toNat)
  case atStart => exact ⟨0, 0, [], rfl, OwnR.nil _ _, rfl, Nat.le_refl _, by omega, fun k h1 h2 => by omega, fun h => by omega, Nat.le_refl _, Below.refl _ _, Nat.le_refl _⟩
  case round =>
    obtain ⟨a, e, l, rfl, ho, hch, hae, hen, hin, hbd, hll, hw, hsz⟩ := hrel
    obtain ⟨ar, nr, cr, hv⟩ := ho.form
    subst hv
    have HO := Lib.hid ho; have HCH := Lib.hid hch; have HIN := Lib.hid hin; have HBD := Lib.hid hbd
    clear ho hch hin hbd
    by_cases hlt : a < xs.length
    · by_cases hlt2 : a < e
      · obtain ⟨ha0, hea⟩ := HIN.out a (Nat.le_refl _) hlt2
        have ek := get_eq hlt (by omega) hea
        clear hea
        have g3 : decide ((0 : Int) < (a : Int)) = true := decide_eq_true (by omega)
        have g3n : decide (0 < a) = true := decide_eq_true (by omega)
        obtain ⟨bx, ox, hax, lx, d0, d1⟩ := HX.out (a) (by omega)
        obtain ⟨by', oy, hay, ly, f0, f1⟩ := HX.out (a - 1) (by omega)
        rw [ek] at d0 d1
        have d0 := (hw.cell (p := ⟨bx, ox + a * 2, none⟩) lx).trans d0
        have d1 := (hw.cell (p := ⟨bx, ox + a * 2 + 1, none⟩) lx).trans d1
        have f0 := (hw.cell (p := ⟨by', oy + (a - 1) * 2, none⟩) ly).trans f0
        have f1 := (hw.cell (p := ⟨by', oy + (a - 1) * 2 + 1, none⟩) ly).trans f1
        generalize xs[a - 1]'(by omega) = x at d0 d1 f0 f1
        obtain ⟨x1, x2⟩ := x
        simp only at d0 d1 f0 f1
        cases hax
        cases hay
        clear ek
        go_wp2_with fail
        go_quiet (fail)
        have ho : OwnR (wr.drewN nq) w.heap.size (.slice ar nr cr) l := HO.out
        have hw2 : Below w.heap.size w (wr.drewN nq) := below_drewN hw nq
        clear hw HO hsz d0 d1 f0 f1 g3 g3n
        generalize wr.drewN nq = wd at *
        have hw := hw2; have hsz := hw2.size
        have HO := Lib.hid ho
        clear ho hw2
        go_wp2_with fail
        go_roundw
        case rel => exact ⟨a + 1, e, l, by go_num, HO.out, HCH.out, by omega, hen, fun k h1 h2 => HIN.out k (by omega) h2, HBD.out, hll, hw, hsz⟩
        case measure => simp [intOf]; omega
      · obtain rfl : a = e := by omega
        by_cases ha0 : 0 < a
        · have hne0 := get_ne hlt (by omega) (HBD.out ha0 hlt)
          have g3 : decide ((0 : Int) < (a : Int)) = true := decide_eq_true (by omega)
          have g3n : decide (0 < a) = true := decide_eq_true (by omega)
          have HX' := HX
          obtain ⟨bx, ox, hax, lx, d0, d1⟩ := HX.out (a) (by omega)
          obtain ⟨by', oy, hay, ly, f0, f1⟩ := HX.out (a - 1) (by omega)
          have d0 := (hw.cell (p := ⟨bx, ox + a * 2, none⟩) lx).trans d0
          have d1 := (hw.cell (p := ⟨bx, ox + a * 2 + 1, none⟩) lx).trans d1
          have f0 := (hw.cell (p := ⟨by', oy + (a - 1) * 2, none⟩) ly).trans f0
          have f1 := (hw.cell (p := ⟨by', oy + (a - 1) * 2 + 1, none⟩) ly).trans f1
          generalize xs[a]'(by omega) = x at d0 d1 hne0
          generalize xs[a - 1]'(by omega) = y at f0 f1 hne0
          have hne := snd_ne hne0
          obtain ⟨x1, x2⟩ := x
          obtain ⟨y1, y2⟩ := y
          simp only at d0 d1 f0 f1 hne
          clear hne0
          cases hax
          cases hay
          go_wp2_with fail
          go_quiet (fail)
          have ho : OwnR (wr.drewN nq) w.heap.size (.slice ar nr cr) l := HO.out
          have hw2 : Below w.heap.size w (wr.drewN nq) := below_drewN hw nq
          clear hw HO hsz d0 d1 f0 f1 hne g3 g3n
          generalize wr.drewN nq = wd at *
          have hw := hw2; have hsz := hw2.size
          have HO := Lib.hid ho
          clear ho hw2
          go_wp2_with fail
          go_loopw [5] (fun s w4 => ∃ B : Nat, s = .int .i64 (B : Int) ∧ a + 1 ≤ B ∧ B ≤ xs.length ∧ (∀ k, a ≤ k → k < B → xs[k]? = xs[a]?) ∧ OwnR w4 w.heap.size (.slice ar nr cr) l ∧ Below w.heap.size w w4 ∧ w.heap.size ≤ w4.heap.size) (fun s _ => xs.length - (intOf s).toNat)
          case atStart => exact ⟨a + 1, by go_num, Nat.le_refl _, by omega, fun k h1 h2 => by rw [show k = a from by omega], HO.out, hw, hsz⟩
          case round =>
            clear hw HO hsz
            obtain ⟨B, rfl, hB1, hB2, hrun, ho, hw, hsz⟩ := hrel
            have HR := Lib.hid hrun; have HO := Lib.hid ho
            clear hrun ho
            by_cases hB : B < xs.length
            · have g1 : decide ((B : Int) < (xs.length : Int)) = true := decide_eq_true (by omega)
              by_cases hxy : xs[B] = xs[a]
              · have HSM := Lib.hid (same_more hB hlt hxy HR.out)
                have ek := hxy
                clear hxy
                obtain ⟨bx, ox, hax, lx, d0, d1⟩ := HX.out (B) (by omega)
                obtain ⟨by', oy, hay, ly, f0, f1⟩ := HX.out (a) (by omega)
                rw [ek] at d0 d1
                have d0 := (hw.cell (p := ⟨bx, ox + B * 2, none⟩) lx).trans d0
                have d1 := (hw.cell (p := ⟨bx, ox + B * 2 + 1, none⟩) lx).trans d1
                have f0 := (hw.cell (p := ⟨by', oy + a * 2, none⟩) ly).trans f0
                have f1 := (hw.cell (p := ⟨by', oy + a * 2 + 1, none⟩) ly).trans f1
                generalize xs[a]'(by omega) = x at d0 d1 f0 f1
                obtain ⟨x1, x2⟩ := x
                simp only at d0 d1 f0 f1
                cases hax
                cases hay
                clear ek
                go_wp2_with fail
                go_quiet (fail)
                have ho : OwnR (wr.drewN nq) w.heap.size (.slice ar nr cr) l := HO.out
                have hw2 : Below w.heap.size w (wr.drewN nq) := below_drewN hw nq
                clear hw HO hsz d0 d1 f0 f1 g1
                generalize wr.drewN nq = wd at *
                have hw := hw2; have hsz := hw2.size
                have HO := Lib.hid ho
                clear ho hw2
                go_wp2_with fail
                go_roundw
                case rel => exact ⟨B + 1, by go_num, by omega, by omega, HSM.out, HO.out, hw, hsz⟩
                case measure => simp [intOf]; omega
              · have hne0 := hxy
                have HNE := Lib.hid (same_not hB hlt rfl rfl hxy)
                clear hxy
                obtain ⟨bx, ox, hax, lx, d0, d1⟩ := HX.out (B) (by omega)
                obtain ⟨by', oy, hay, ly, f0, f1⟩ := HX.out (a) (by omega)
                have d0 := (hw.cell (p := ⟨bx, ox + B * 2, none⟩) lx).trans d0
                have d1 := (hw.cell (p := ⟨bx, ox + B * 2 + 1, none⟩) lx).trans d1
                have f0 := (hw.cell (p := ⟨by', oy + a * 2, none⟩) ly).trans f0
                have f1 := (hw.cell (p := ⟨by', oy + a * 2 + 1, none⟩) ly).trans f1
                generalize xs[B]'(by omega) = x at d0 d1 hne0
                generalize xs[a]'(by omega) = y at f0 f1 hne0
                have hne := snd_ne hne0
                obtain ⟨x1, x2⟩ := x
                obtain ⟨y1, y2⟩ := y
                simp only at d0 d1 f0 f1 hne
                clear hne0
                cases hax
                cases hay
                go_wp2_with fail
                go_quiet (fail)
                have ho : OwnR (wr.drewN nq) w.heap.size (.slice ar nr cr) l := HO.out
                have hw2 : Below w.heap.size w (wr.drewN nq) := below_drewN hw nq
                clear hw HO hsz d0 d1 f0 f1 g1 hne
                generalize wr.drewN nq = wd at *
                have hw := hw2; have hsz := hw2.size
                have HO := Lib.hid ho
                clear ho hw2
                have hcn := Chain.snoc (show a < B by omega) hB2 HR.out HNE.out l 0 HCH.out
                have hin2 : ∀ k, a + 1 ≤ k → k < B → 0 < k ∧ xs[k]? = xs[k - 1]? := fun k h1 h2 => ⟨by omega, by rw [HR.out k (by omega) h2, HR.out (k - 1) (by omega) (by omega)]⟩
                have hbd2 : 0 < B → B < xs.length → xs[B]? ≠ xs[B - 1]? := fun _ h => by rw [HR.out (B - 1) (by omega) (by omega)]; exact HNE.out h
                have HCN := Lib.hid hcn; have HI2 := Lib.hid hin2; have HB2 := Lib.hid hbd2
                have ho1 := HO.out.below ((Below.refl _ wd).alloc (Nat.le_refl _) (.cells #[.int .i64 (a : Int), .int .i64 (B : Int)] 42))
                have hw1 := hw.alloc hsz (.cells #[.int .i64 (a : Int), .int .i64 (B : Int)] 42)
                have hL : Hid (l.length + 1 ≤ 1000000000000) := Lib.hid (by omega)
                have HO1 := Lib.hid ho1
                clear hcn hin2 hbd2 ho1 HR HNE HIN HBD HX
                go_wp2_with (at_builtin; refine wpList_appR rfl (.tmp 45) (.tmp 49) 40 Try.underlying40 rfl w.heap.size _ l a B wd.heap.size rfl rfl HO1.out (cell_block (World.alloc_heap_new wd _) rfl) (cell_block (World.alloc_heap_new wd _) rfl) hL.out (by rw [World.size_alloc]; omega) ?_; intro v' w2 ho2 hk2 hz2)
                go_roundw
                case rel => exact ⟨a + 1, B, l ++ [(a, B)], by go_num, ho2, HCN.out, by omega, hB2, HI2.out, HB2.out, by rw [List.length_append]; simp; omega, hk2 _ _ (Nat.le_refl _) hw1, by have := (hk2 _ _ (Nat.le_refl _) hw1).size; omega⟩
                case measure => simp [intOf]; omega
            · have g1 : decide ((B : Int) < (xs.length : Int)) = false := decide_eq_false (by omega)
              have HNE : Hid (B < xs.length → xs[B]? ≠ xs[a]?) := Lib.hid (fun h => absurd h hB)
              go_wp2_with fail
              go_quiet (fail)
              have ho : OwnR (wr.drewN nq) w.heap.size (.slice ar nr cr) l := HO.out
              have hw2 : Below w.heap.size w (wr.drewN nq) := below_drewN hw nq
              clear hw HO hsz g1
              generalize wr.drewN nq = wd at *
              have hw := hw2; have hsz := hw2.size
              have HO := Lib.hid ho
              clear ho hw2
              have hcn := Chain.snoc (show a < B by omega) hB2 HR.out HNE.out l 0 HCH.out
              have hin2 : ∀ k, a + 1 ≤ k → k < B → 0 < k ∧ xs[k]? = xs[k - 1]? := fun k h1 h2 => ⟨by omega, by rw [HR.out k (by omega) h2, HR.out (k - 1) (by omega) (by omega)]⟩
              have hbd2 : 0 < B → B < xs.length → xs[B]? ≠ xs[B - 1]? := fun _ h => by rw [HR.out (B - 1) (by omega) (by omega)]; exact HNE.out h
              have HCN := Lib.hid hcn; have HI2 := Lib.hid hin2; have HB2 := Lib.hid hbd2
              have ho1 := HO.out.below ((Below.refl _ wd).alloc (Nat.le_refl _) (.cells #[.int .i64 (a : Int), .int .i64 (B : Int)] 42))
              have hw1 := hw.alloc hsz (.cells #[.int .i64 (a : Int), .int .i64 (B : Int)] 42)
              have hL : Hid (l.length + 1 ≤ 1000000000000) := Lib.hid (by omega)
              have HO1 := Lib.hid ho1
              clear hcn hin2 hbd2 ho1 HR HNE HIN HBD HX
              go_wp2_with (at_builtin; refine wpList_appR rfl (.tmp 45) (.tmp 49) 40 Try.underlying40 rfl w.heap.size _ l a B wd.heap.size rfl rfl HO1.out (cell_block (World.alloc_heap_new wd _) rfl) (cell_block (World.alloc_heap_new wd _) rfl) hL.out (by rw [World.size_alloc]; omega) ?_; intro v' w2 ho2 hk2 hz2)
              go_roundw
              case rel => exact ⟨a + 1, B, l ++ [(a, B)], by go_num, ho2, HCN.out, by omega, hB2, HI2.out, HB2.out, by rw [List.length_append]; simp; omega, hk2 _ _ (Nat.le_refl _) hw1, by have := (hk2 _ _ (Nat.le_refl _) hw1).size; omega⟩
              case measure => simp [intOf]; omega
        · have g3 : decide ((0 : Int) < (a : Int)) = false := decide_eq_false (by omega)
          have g3n : decide (0 < a) = false := decide_eq_false (by omega)
          go_wp2_with fail
          go_quiet (fail)
          have ho : OwnR (wr.drewN nq) w.heap.size (.slice ar nr cr) l := HO.out
          have hw2 : Below w.heap.size w (wr.drewN nq) := below_drewN hw nq
          clear hw HO hsz g3 g3n
          generalize wr.drewN nq = wd at *
          have hw := hw2; have hsz := hw2.size
          have HO := Lib.hid ho
          clear ho hw2
          go_wp2_with fail
          go_loopw [5] (fun s w4 => ∃ B : Nat, s = .int .i64 (B : Int) ∧ a + 1 ≤ B ∧ B ≤ xs.length ∧ (∀ k, a ≤ k → k < B → xs[k]? = xs[a]?) ∧ OwnR w4 w.heap.size (.slice ar nr cr) l ∧ Below w.heap.size w w4 ∧ w.heap.size ≤ w4.heap.size) (fun s _ => xs.length - (intOf s).toNat)
          case atStart => exact ⟨a + 1, by go_num, Nat.le_refl _, by omega, fun k h1 h2 => by rw [show k = a from by omega], HO.out, hw, hsz⟩
          case round =>
            clear hw HO hsz
            obtain ⟨B, rfl, hB1, hB2, hrun, ho, hw, hsz⟩ := hrel
            have HR := Lib.hid hrun; have HO := Lib.hid ho
            clear hrun ho
            by_cases hB : B < xs.length
            · have g1 : decide ((B : Int) < (xs.length : Int)) = true := decide_eq_true (by omega)
              by_cases hxy : xs[B] = xs[a]
              · have HSM := Lib.hid (same_more hB hlt hxy HR.out)
                have ek := hxy
                clear hxy
                obtain ⟨bx, ox, hax, lx, d0, d1⟩ := HX.out (B) (by omega)
                obtain ⟨by', oy, hay, ly, f0, f1⟩ := HX.out (a) (by omega)
                rw [ek] at d0 d1
                have d0 := (hw.cell (p := ⟨bx, ox + B * 2, none⟩) lx).trans d0
                have d1 := (hw.cell (p := ⟨bx, ox + B * 2 + 1, none⟩) lx).trans d1
                have f0 := (hw.cell (p := ⟨by', oy + a * 2, none⟩) ly).trans f0
                have f1 := (hw.cell (p := ⟨by', oy + a * 2 + 1, none⟩) ly).trans f1
                generalize xs[a]'(by omega) = x at d0 d1 f0 f1
                obtain ⟨x1, x2⟩ := x
                simp only at d0 d1 f0 f1
                cases hax
                cases hay
                clear ek
                go_wp2_with fail
                go_quiet (fail)
                have ho : OwnR (wr.drewN nq) w.heap.size (.slice ar nr cr) l := HO.out
                have hw2 : Below w.heap.size w (wr.drewN nq) := below_drewN hw nq
                clear hw HO hsz d0 d1 f0 f1 g1
                generalize wr.drewN nq = wd at *
                have hw := hw2; have hsz := hw2.size
                have HO := Lib.hid ho
                clear ho hw2
                go_wp2_with fail
                go_roundw
                case rel => exact ⟨B + 1, by go_num, by omega, by omega, HSM.out, HO.out, hw, hsz⟩
                case measure => simp [intOf]; omega
              · have hne0 := hxy
                have HNE := Lib.hid (same_not hB hlt rfl rfl hxy)
                clear hxy
                obtain ⟨bx, ox, hax, lx, d0, d1⟩ := HX.out (B) (by omega)
                obtain ⟨by', oy, hay, ly, f0, f1⟩ := HX.out (a) (by omega)
                have d0 := (hw.cell (p := ⟨bx, ox + B * 2, none⟩) lx).trans d0
                have d1 := (hw.cell (p := ⟨bx, ox + B * 2 + 1, none⟩) lx).trans d1
                have f0 := (hw.cell (p := ⟨by', oy + a * 2, none⟩) ly).trans f0
                have f1 := (hw.cell (p := ⟨by', oy + a * 2 + 1, none⟩) ly).trans f1
                generalize xs[B]'(by omega) = x at d0 d1 hne0
                generalize xs[a]'(by omega) = y at f0 f1 hne0
                have hne := snd_ne hne0
                obtain ⟨x1, x2⟩ := x
                obtain ⟨y1, y2⟩ := y
                simp only at d0 d1 f0 f1 hne
                clear hne0
                cases hax
                cases hay
                go_wp2_with fail
                go_quiet (fail)
                have ho : OwnR (wr.drewN nq) w.heap.size (.slice ar nr cr) l := HO.out
                have hw2 : Below w.heap.size w (wr.drewN nq) := below_drewN hw nq
                clear hw HO hsz d0 d1 f0 f1 g1 hne
                generalize wr.drewN nq = wd at *
                have hw := hw2; have hsz := hw2.size
                have HO := Lib.hid ho
                clear ho hw2
                have hcn := Chain.snoc (show a < B by omega) hB2 HR.out HNE.out l 0 HCH.out
                have hin2 : ∀ k, a + 1 ≤ k → k < B → 0 < k ∧ xs[k]? = xs[k - 1]? := fun k h1 h2 => ⟨by omega, by rw [HR.out k (by omega) h2, HR.out (k - 1) (by omega) (by omega)]⟩
                have hbd2 : 0 < B → B < xs.length → xs[B]? ≠ xs[B - 1]? := fun _ h => by rw [HR.out (B - 1) (by omega) (by omega)]; exact HNE.out h
                have HCN := Lib.hid hcn; have HI2 := Lib.hid hin2; have HB2 := Lib.hid hbd2
                have ho1 := HO.out.below ((Below.refl _ wd).alloc (Nat.le_refl _) (.cells #[.int .i64 (a : Int), .int .i64 (B : Int)] 42))
                have hw1 := hw.alloc hsz (.cells #[.int .i64 (a : Int), .int .i64 (B : Int)] 42)
                have hL : Hid (l.length + 1 ≤ 1000000000000) := Lib.hid (by omega)
                have HO1 := Lib.hid ho1
                clear hcn hin2 hbd2 ho1 HR HNE HIN HBD HX
                go_wp2_with (at_builtin; refine wpList_appR rfl (.tmp 45) (.tmp 49) 40 Try.underlying40 rfl w.heap.size _ l a B wd.heap.size rfl rfl HO1.out (cell_block (World.alloc_heap_new wd _) rfl) (cell_block (World.alloc_heap_new wd _) rfl) hL.out (by rw [World.size_alloc]; omega) ?_; intro v' w2 ho2 hk2 hz2)
                go_roundw
                case rel => exact ⟨a + 1, B, l ++ [(a, B)], by go_num, ho2, HCN.out, by omega, hB2, HI2.out, HB2.out, by rw [List.length_append]; simp; omega, hk2 _ _ (Nat.le_refl _) hw1, by have := (hk2 _ _ (Nat.le_refl _) hw1).size; omega⟩
                case measure => simp [intOf]; omega
            · have g1 : decide ((B : Int) < (xs.length : Int)) = false := decide_eq_false (by omega)
              have HNE : Hid (B < xs.length → xs[B]? ≠ xs[a]?) := Lib.hid (fun h => absurd h hB)
              go_wp2_with fail
              go_quiet (fail)
              have ho : OwnR (wr.drewN nq) w.heap.size (.slice ar nr cr) l := HO.out
              have hw2 : Below w.heap.size w (wr.drewN nq) := below_drewN hw nq
              clear hw HO hsz g1
              generalize wr.drewN nq = wd at *
              have hw := hw2; have hsz := hw2.size
              have HO := Lib.hid ho
              clear ho hw2
              have hcn := Chain.snoc (show a < B by omega) hB2 HR.out HNE.out l 0 HCH.out
              have hin2 : ∀ k, a + 1 ≤ k → k < B → 0 < k ∧ xs[k]? = xs[k - 1]? := fun k h1 h2 => ⟨by omega, by rw [HR.out k (by omega) h2, HR.out (k - 1) (by omega) (by omega)]⟩
              have hbd2 : 0 < B → B < xs.length → xs[B]? ≠ xs[B - 1]? := fun _ h => by rw [HR.out (B - 1) (by omega) (by omega)]; exact HNE.out h
              have HCN := Lib.hid hcn; have HI2 := Lib.hid hin2; have HB2 := Lib.hid hbd2
              have ho1 := HO.out.below ((Below.refl _ wd).alloc (Nat.le_refl _) (.cells #[.int .i64 (a : Int), .int .i64 (B : Int)] 42))
              have hw1 := hw.alloc hsz (.cells #[.int .i64 (a : Int), .int .i64 (B : Int)] 42)
              have hL : Hid (l.length + 1 ≤ 1000000000000) := Lib.hid (by omega)
              have HO1 := Lib.hid ho1
              clear hcn hin2 hbd2 ho1 HR HNE HIN HBD HX
              go_wp2_with (at_builtin; refine wpList_appR rfl (.tmp 45) (.tmp 49) 40 Try.underlying40 rfl w.heap.size _ l a B wd.heap.size rfl rfl HO1.out (cell_block (World.alloc_heap_new wd _) rfl) (cell_block (World.alloc_heap_new wd _) rfl) hL.out (by rw [World.size_alloc]; omega) ?_; intro v' w2 ho2 hk2 hz2)
              go_roundw
              case rel => exact ⟨a + 1, B, l ++ [(a, B)], by go_num, ho2, HCN.out, by omega, hB2, HI2.out, HB2.out, by rw [List.length_append]; simp; omega, hk2 _ _ (Nat.le_refl _) hw1, by have := (hk2 _ _ (Nat.le_refl _) hw1).size; omega⟩
              case measure => simp [intOf]; omega
    · obtain rfl : a = e := by omega
      obtain rfl : a = xs.length := by omega
      clear HX
      go_wp2_with fail
      go_returns
      exact ⟨_, l, rfl, HO.out, HCH.out, hw⟩
end Go.Proofs.Ythokpgnenlfnjaa
