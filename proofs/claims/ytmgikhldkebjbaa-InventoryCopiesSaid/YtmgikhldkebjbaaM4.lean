/-
  Lemmas that the theorem of this claim rests on: 7 texts, one behind the other.
-/
import Derived.Test.YtmgikhldkebjbaaM3

/-
  Numbers and names of features, and lists of texts that are compared.
-/
namespace Go.Proofs.Ytmgikhldkebjbaa
open Go.RowKit Go.Shelf Go.Sort
theorem numT_mem {l : List ByteArray} {x : ByteArray} {u : Value} : ∀ {n : Nat}, n ≤ l.length → (x, u) ∈ numT l n → ∃ j : Nat, j < n ∧ u = .int .i64 (j : Int) ∧ l[j]? = some x
  | 0, _, h => by simp [numT] at h
  | n + 1, hn, h => by
    rw [numT_succ (by omega)] at h
    rcases put_mem h with h | h
    · cases h
      exact ⟨n, by omega, rfl, List.getElem?_eq_getElem (by omega)⟩
    · obtain ⟨j, h1, h2, h3⟩ := numT_mem (by omega) h
      exact ⟨j, by omega, h2, h3⟩
theorem fnd_key {k : ByteArray} {p : Nat} {u : Value} : ∀ {l : List (ByteArray × Value)} {i : Nat}, fnd k l i = some (p, u) → (k, u) ∈ l
  | [], _, h => by cases h
  | x :: l, i, h => by
    unfold fnd at h
    by_cases hk : k = x.1
    · rw [if_pos hk] at h
      simp only [Option.some.injEq, Prod.mk.injEq] at h
      rw [hk, ← h.2]; simp
    · rw [if_neg hk] at h
      exact List.mem_cons_of_mem _ (fnd_key h)
theorem fnd_nokey {k : ByteArray} {u : Value} : ∀ {l : List (ByteArray × Value)} {i : Nat}, fnd k l i = none → (k, u) ∉ l
  | [], _, _ => by simp
  | x :: l, i, h => by
    unfold fnd at h
    by_cases hk : k = x.1
    · rw [if_pos hk] at h; cases h
    · rw [if_neg hk] at h
      intro hm
      rcases List.mem_cons.1 hm with e | e
      · exact hk (by rw [← e])
      · exact fnd_nokey h e
/-- The number of a name, if there is one. -/
theorem feat_is (l : List ByteArray) (k : ByteArray) : (∃ j, j < l.length ∧ l[j]? = some k ∧ featN l k = .int .i64 (j : Int) ∧ featB l k = true ∧ featO l k = some j) ∨ ((∀ j : Nat, l[j]? ≠ some k) ∧ featN l k = .int .i64 0 ∧ featB l k = false ∧ featO l k = none) := by
  unfold featN featB featO
  cases hf : fnd k (numT l l.length) 0 with
  | none =>
    right
    refine ⟨fun j e => ?_, rfl, rfl, rfl⟩
    have hj : j < l.length := (List.getElem?_eq_some_iff.1 e).1
    obtain ⟨u, hu⟩ := (numT_keys (x := k) l.length (Nat.le_refl _)).2 ⟨j, hj, e⟩
    exact fnd_nokey hf hu
  | some y =>
    obtain ⟨p, u⟩ := y
    obtain ⟨j, h1, rfl, h3⟩ := numT_mem (Nat.le_refl _) (fnd_key hf)
    exact .inl ⟨j, h1, h3, rfl, rfl, rfl⟩
theorem nodup_eq {l : List ByteArray} {k : ByteArray} {i j : Nat} (hd : ¬ Dup l l.length) (hi : l[i]? = some k) (hj : l[j]? = some k) : i = j := by
  have h1 : i < l.length := (List.getElem?_eq_some_iff.1 hi).1
  have h2 : j < l.length := (List.getElem?_eq_some_iff.1 hj).1
  rcases Nat.lt_trichotomy i j with h | h | h
  · exact absurd ⟨j, i, h, h2, k, hj, hi⟩ hd
  · exact h
  · exact absurd ⟨i, j, h, h1, k, hi, hj⟩ hd
theorem newE_nodup {l : List ByteArray} (h : newE l = 0) : ¬ Dup l l.length := fun hd => by
  have := newE_dup (newE_len h) (newE_all h) hd
  rw [h] at this; cases this
set_option maxRecDepth 100000 in
set_option maxHeartbeats 4000000 in
theorem rfeat_any {w : World} {base R : Nat} {l : List ByteArray} {a : List (ByteArray × Snd)} {nv av : Value} (h : RInv w base R l a nv av) (hd : ¬ Dup l l.length) (hl : l.length ≤ 24) (k : ByteArray) : Gives 19 #[.pointer (some ⟨R, 0, none⟩), .string k] w (.tuple #[featN l k, .bool (featB l k)]) := by
  unfold Gives
  have hmd := rmade_yes R w h.cells.1
  have hR := h.lt
  obtain ⟨ao, ac, hnv, c1, m1, hcells⟩ := h.names.ss.open
  subst hnv
  have q1 := h.cells.2.1
  have hfi := feat_is l k
  have HC := Lib.hid hcells; have HMD := Lib.hid hmd; have HD := Lib.hid hd; have HFI := Lib.hid hfi
  clear h hmd hcells hd hfi c1 m1
  generalize featN l k = N at *
  generalize featB l k = B at *
  generalize featO l k = O at *
  go_enter Try.func19, Try.ntmps19
  go_wp2_with fail
  go_at_call 45
  refine Gives.then HMD.out ?_
  intro w1 hb
  have HW1 := Lib.hid hb
  clear hb HMD
  go_wp2_with fail
  go_loopw [6] (fun i wr => ∃ q : Nat, q ≤ l.length ∧ i = .int .i64 (q : Int) ∧ (∀ j : Nat, j < q → l[j]? ≠ some k) ∧ Below w.heap.size w wr) (fun i _ => l.length - (intOf i).toNat)
  case atStart => exact ⟨0, Nat.zero_le _, rfl, fun j hj => by omega, HW1.out⟩
  case round =>
    obtain ⟨q, hq, rfl, hno, hwr⟩ := hrel
    have q2 := (hwr.cell (p := ⟨R, 1, none⟩) hR).trans q1
    have HNO := Lib.hid hno; have HWR := Lib.hid hwr
    clear hno q1
    by_cases hlt : q < l.length
    · obtain ⟨b, off, hao, lb, d0⟩ := HC.out q hlt
      have d0 := (hwr.cell (p := ⟨b, off + q, none⟩) lb).trans d0
      subst hao
      have hq2 : l[q]? = some l[q] := List.getElem?_eq_getElem hlt
      have HQ2 := Lib.hid hq2
      clear hwr hq2 HC
      generalize l[q] = x at *
      by_cases hxk : x = k
      · subst hxk
        have hres : N = .int .i64 (q : Int) ∧ B = true := by
          rcases HFI.out with ⟨j, _, h1, h2, h3, _⟩ | ⟨h1, _⟩
          · have e := nodup_eq HD.out h1 HQ2.out
            subst e
            exact ⟨h2, h3⟩
          · exact absurd HQ2.out (h1 q)
        obtain ⟨rfl, rfl⟩ := hres
        go_wp2_with fail
        go_ret2
        exact ⟨rfl, HWR.out⟩
      · have e2 : (x.toList == k.toList) = false := by rw [toList_beq]; exact decide_eq_false hxk
        have hmore : ∀ j : Nat, j < q + 1 → l[j]? ≠ some k := fun j hj => by
          by_cases e : j = q
          · subst e; rw [HQ2.out]; intro h; exact hxk (Option.some.inj h)
          · exact HNO.out j (by omega)
        have HM := Lib.hid hmore
        clear hmore hxk
        go_wp2_with fail
        go_roundw
        case rel => exact ⟨q + 1, by omega, by go_num, HM.out, HWR.out⟩
        case measure => simp [intOf]; omega
    · obtain rfl : q = l.length := by omega
      have hres : N = .int .i64 0 ∧ B = false := by
        rcases HFI.out with ⟨j, h0, h1, _⟩ | ⟨_, h2, h3, _⟩
        · exact absurd h1 (HNO.out j h0)
        · exact ⟨h2, h3⟩
      obtain ⟨rfl, rfl⟩ := hres
      go_wp2_with fail
      go_ret2
      exact ⟨rfl, HWR.out⟩
theorem rfeat_nil (k : ByteArray) (w : World) : Gives 19 #[.pointer none, .string k] w (.tuple #[.int .i64 0, .bool false]) := by
  unfold Gives
  go_enter Try.func19, Try.ntmps19
  go_wp2_with (go_at_call 45; refine Gives.then (rmade_nil _) ?_; intro w1 hb)
  go_ret2
  exact ⟨rfl, hb⟩
theorem rfeats_nil (w : World) : Gives 21 #[.pointer none] w (.slice none 0 0) := by
  unfold Gives
  go_enter Try.func21, Try.ntmps21
  go_wp2_with (go_at_call 45; refine Gives.then (rmade_nil _) ?_; intro w1 hb)
  go_returns
  exact ⟨rfl, hb⟩
end Go.Proofs.Ytmgikhldkebjbaa

/-
  Lists of texts that are compared; the lists of the names of features.
-/
namespace Go.Proofs.Ytmgikhldkebjbaa
open Go.RowKit Go.Shelf Go.Sort
theorem preS_eq {xs ys : List ByteArray} {k : Nat} (h : k < xs.length) (h' : k < ys.length) (hp : xs.take k = ys.take k) (he : xs[k] = ys[k]) : xs.take (k + 1) = ys.take (k + 1) := by
  rw [List.take_succ_eq_append_getElem h, List.take_succ_eq_append_getElem h', hp, he]
set_option maxRecDepth 100000 in
set_option maxHeartbeats 4000000 in
theorem eqS_any (xs ys : List ByteArray) (v u : Value) (w : World) (h1 : Ss w v xs) (h2 : Ss w u ys) : Gives 17 #[v, u] w (.bool (decide (xs = ys))) := by
  unfold Gives
  obtain ⟨ao, cap, rfl, c1, m1, H1⟩ := h1.open
  obtain ⟨bo, cap', rfl, c2, m2, H2⟩ := h2.open
  unfold maxLen at m1 m2
  have l1 : xs.length ≤ 9223372036854775807 := by omega
  have l2 : ys.length ≤ 9223372036854775807 := by omega
  clear h1 h2 c1 m1 c2 m2
  have H1 := Lib.hid H1; have H2 := Lib.hid H2
  by_cases hl : xs.length = ys.length
  · obtain ⟨D, hD⟩ : ∃ D, decide (xs = ys) = D := ⟨_, rfl⟩
    rw [hD]
    have HD := Lib.hid hD
    have HL := Lib.hid hl
    have g1 : decide ((xs.length : Int) = (ys.length : Int)) = true := decide_eq_true (by omega)
    have g2 : ((xs.length : Int) == (ys.length : Int)) = true := by rw [beq_iff_eq]; omega
    have g3 : ((xs.length : Int) != (ys.length : Int)) = false := by rw [bne_eq_false_iff_eq]; omega
    clear hD hl
    go_enter Try.func17, Try.ntmps17
    go_wp2_with fail
    go_loopw [13] (fun i wr => ∃ k : Nat, k ≤ xs.length ∧ i = .int .i64 (k : Int) ∧ xs.take k = ys.take k ∧ Below w.heap.size w wr) (fun i _ => xs.length - (intOf i).toNat)
    case atStart => exact ⟨0, by omega, rfl, by simp, Below.refl _ _⟩
    case round =>
      obtain ⟨k, hk, rfl, hp, hw⟩ := hrel
      have HP := Lib.hid hp; clear hp
      by_cases hlt : k < xs.length
      · have hlt' : k < ys.length := by have := HL.out; omega
        obtain ⟨b, off, hao, lb, d0⟩ := H1.out k hlt
        obtain ⟨b', off', hbo, lb', e0⟩ := H2.out k hlt'
        have d0 := (hw.cell (p := ⟨b, off + k, none⟩) lb).trans d0
        have e0 := (hw.cell (p := ⟨b', off' + k, none⟩) lb').trans e0
        have HW := Lib.hid hw
        subst hao; subst hbo
        have hyes : xs[k] = ys[k] → xs.take (k + 1) = ys.take (k + 1) := fun e => preS_eq hlt hlt' HP.out e
        have hno : ¬ xs[k] = ys[k] → false = D := fun e => by
          rw [← HD.out]; symm
          exact decide_eq_false fun e2 => e (by simp only [e2])
        have HY := Lib.hid hyes; have HN := Lib.hid hno
        clear hyes hno H1 H2 hw
        generalize xs[k] = x at *
        generalize ys[k] = y at *
        by_cases hxy : x = y
        · have HT := Lib.hid (HY.out hxy)
          subst hxy
          clear HY HN
          go_wp2_with fail
          go_quiet (fail)
          have HW2 := Lib.hid (below_drewN HW.out nq)
          clear HW d0 e0
          generalize wr.drewN nq = wd at *
          go_wp2_with fail
          go_roundw
          case rel => exact ⟨k + 1, by omega, by go_num, HT.out, HW2.out⟩
          case measure => simp [intOf]; omega
        · have HF := Lib.hid (HN.out hxy)
          have e1 : (x.toList == y.toList) = false := by rw [toList_beq]; exact decide_eq_false hxy
          have e2 : (x.toList != y.toList) = true := by unfold bne; rw [e1]; rfl
          clear HY HN hxy
          go_wp2_with fail
          go_quiet (fail)
          have HW2 := Lib.hid (below_drewN HW.out nq)
          clear HW d0 e0
          generalize wr.drewN nq = wd at *
          go_wp2_with fail
          go_returns
          exact ⟨by rw [← HF.out]; rfl, HW2.out⟩
      · obtain rfl : k = xs.length := by omega
        have HF := Lib.hid (show true = D from by
          rw [← HD.out]; symm
          have h := HP.out
          rw [List.take_length, List.take_of_length_le (by rw [HL.out]; exact Nat.le_refl _)] at h
          exact decide_eq_true h)
        go_wp2_with fail
        go_returns
        exact ⟨by rw [← HF.out]; rfl, hw⟩
  · have hD : decide (xs = ys) = false := decide_eq_false fun e => hl (by rw [e])
    rw [hD]
    have g1 : decide ((xs.length : Int) = (ys.length : Int)) = false := decide_eq_false (by omega)
    have g2 : ((xs.length : Int) == (ys.length : Int)) = false := by rw [Bool.eq_false_iff]; intro e; have := beq_iff_eq.1 e; omega
    have g3 : ((xs.length : Int) != (ys.length : Int)) = true := by unfold bne; rw [g2]; rfl
    clear hl hD H1 H2
    go_enter Try.func17, Try.ntmps17
    go_wp2_with fail
    go_returns
    exact ⟨rfl, Below.refl _ _⟩
theorem feats_any {w : World} {base B : Nat} {l : List ByteArray} {a : List (ByteArray × Snd)} {nv av : Value} {bf bs by_ : Nat} (h : Inv w base B l a nv av bf bs by_) (hl : l.length ≤ 24) : Calls Try.prog 20 #[.pointer (some ⟨B, 0, none⟩)] w fun e w' => ∃ v', e = .returned v' ∧ OwnS w' w.heap.size v' l ∧ Below w.heap.size w w' := by
  have hv := valid_yes B w h.cells.1
  have hcl := fun (W : World) (hb : Below w.heap.size w W) => cloneS_any l nv W (by omega) (h.below hb).names.ss
  obtain ⟨ao, ac, hnv⟩ := h.names.form
  subst hnv
  have hc := fun (W : World) (hb : Below w.heap.size w W) => (h.below hb).cells.2.1
  have HV := Lib.hid hv; have HCL := Lib.hid hcl; have HC := Lib.hid hc
  clear h hv hcl hc
  go_enter Try.func20, Try.ntmps20
  go_wp2_with fail
  go_at_call 44
  refine Gives.then HV.out ?_
  intro w1 hb
  have c1 := HC.out w1 hb
  have HB := Lib.hid hb
  clear hb
  go_wp2_with fail
  go_at_call 15
  refine (HCL.out w1 HB.out).mono ?_
  rintro e w2 ⟨v2, rfl, ho, hb2⟩
  obtain ⟨a2, c2, rfl, -, -, -⟩ := ho.ss.open
  have HO := Lib.hid (ho.mono HB.out.size)
  have HW := Lib.hid (HB.out.trans (hb2.mono HB.out.size))
  clear ho hb2
  go_wp2_with fail
  go_returns
  exact ⟨_, rfl, HO.out, HW.out⟩
set_option maxHeartbeats 1000000 in
theorem rfeats_any {w : World} {base R : Nat} {l : List ByteArray} {a : List (ByteArray × Snd)} {nv av : Value} (h : RInv w base R l a nv av) (hl : l.length ≤ 24) : Calls Try.prog 21 #[.pointer (some ⟨R, 0, none⟩)] w fun e w' => ∃ v', e = .returned v' ∧ OwnS w' w.heap.size v' l ∧ Below w.heap.size w w' := by
  have hmd := rmade_yes R w h.cells.1
  obtain ⟨ao, ac, hnv⟩ := h.names.form
  subst hnv
  have HI := Lib.hid h; have HMD := Lib.hid hmd
  clear h hmd
  go_enter Try.func21, Try.ntmps21
  go_wp2_with fail
  go_at_call 45
  refine Gives.then HMD.out ?_
  intro w1 hb
  have h1 := HI.out.below hb
  have c1 := h1.cells.2.1
  have lR := h1.lt
  have c1' := fun X => cell_past (X := X) lR c1
  have HO1 := Lib.hid ((OwnS.empty w1).mono hb.size)
  have HN1 := Lib.hid (h1.names.ss.below ((Below.refl _ w1).alloc (Nat.le_refl _) (.cells #[] 9)))
  have HB := Lib.hid hb
  have hsz := hb.size
  clear hb HMD h1
  go_wp2_with (at_builtin; refine wpList_appS rfl (.tmp 6) (.tmp 10) rfl w.heap.size _ _ [] l rfl rfl HO1.out HN1.out (by simp; omega) (by go_size) ?_; intro v' w2 ho2 hk2 hz2; have ho2 : OwnS w2 w.heap.size v' l := ho2; obtain ⟨a2, c2, hv2, -, -, -⟩ := ho2.ss.open; subst hv2; have HO2 := Lib.hid ho2; have HK2 := Lib.hid hk2; clear ho2 hk2 hz2)
  go_returns
  exact ⟨_, rfl, HO2.out, HK2.out _ _ (Nat.le_refl _) (HB.out.alloc hsz (.cells #[] 9))⟩
end Go.Proofs.Ytmgikhldkebjbaa

/-
  InventoryNews: the walk.
-/
namespace Go.Proofs.Ytmgikhldkebjbaa
open Go.RowKit Go.Shelf Go.Sort
theorem wpList_appSg {ops : Array Oper} {rest : List Oper} {o : Oper} {a : Act} {w : World} {Q : Exit → Act → World → Prop} (hgd : o.guard = none) (s x : Operand)
    (ho : o.op = .call { callee := .builtin .append, args := #[s, x], argTypes := #[22, 22] })
    (base : Nat) (v u : Value) (xs ys : List ByteArray) (hs : a.eval s = v) (hx : a.eval x = u) (hown : OwnS w base v xs) (hw : Ss w u ys) (hlen : xs.length + ys.length ≤ 1000000000000) (hbase : base ≤ w.heap.size)
    (h : ∀ v' w', OwnS w' base v' (xs ++ ys) → w.grownBy w' v.ownBlock → wpList Try.prog ops Q rest (a.put o.dst v') w') : wpList Try.prog ops Q (o :: rest) a w := by
  obtain ⟨i, hi, hz, hs1, hb1⟩ := info_parts infoStr
  rcases hw with ⟨rfl, rfl⟩ | ⟨b, off, cap, rfl, hc, hm, hb, h3⟩
  · refine wpList_append_own_none hgd s x 22 ho base _ i 1 Try.underlying22 hi v xs.length (xs.map Value.string) hs hown hx ?_
    exact h v w (by rw [List.append_nil]; exact hown) ⟨rfl, rfl, rfl, Nat.le_refl _, fun _ _ _ => rfl⟩
  · refine wpList_append_own w hgd s x 22 ho base _ i _ 1 16 Try.underlying22 hi hz hs1 hb1 rfl (by decide) v xs.length (xs.map Value.string) hs hown ⟨b, off, none⟩ ys.length cap (ys.map Value.string) hx (by simp) ?_ ?_ (Nat.le_trans hlen (by decide)) (by omega) hbase ?_
    · intro j y hy
      rw [List.getElem?_map, Option.map_eq_some_iff] at hy
      obtain ⟨z, hz, rfl⟩ := hy
      obtain ⟨hj, rfl⟩ := List.getElem?_eq_some_iff.1 hz
      rw [addr_addS, h3 j hj]
    · intro y hy
      obtain ⟨z, _, rfl⟩ := List.mem_map.1 hy
      rfl
    · intro v' w' ho' hg _
      refine h v' w' ?_ hg
      unfold OwnS
      rw [List.map_append, List.length_append]
      exact ho'
/-- What lies at block n or behind it stands. -/
def Above (n : Nat) (w w' : World) : Prop := ∀ k, n ≤ k → k < w.heap.size → w'.heap[k]? = w.heap[k]?
theorem row_above {w w' : World} {base n : Nat} {e : TypeId} {size : Nat} {v : Value} {xs : List Value} (h : w.ownsRow base e size v n xs) (ha : Above base w w') : w'.ownsRow base e size v n xs := by
  obtain ⟨hl, h0 | ⟨g, cap, cur, hv, hg, hh, hr⟩⟩ := h
  · exact ⟨hl, .inl h0⟩
  · exact ⟨hl, .inr ⟨g, cap, cur, hv, hg, (ha g hg (Array.getElem?_eq_some_iff.1 hh).1).trans hh, hr⟩⟩
theorem Inv.above {w w' : World} {base B : Nat} {l : List ByteArray} {a : List (ByteArray × Snd)} {nv av : Value} {bf bs by_ : Nat} (h : Inv w base B l a nv av bf bs by_) (ha : Above base w w') : Inv w' base B l a nv av bf bs by_ :=
  ⟨(ha B h.hB h.lt).trans h.blk, row_above h.names ha, h.feats.keep (ha bf h.hf h.feats.lt), row_above h.added ha, h.sounds.keep (ha bs h.hs h.sounds.lt), h.symbols.keep (ha by_ h.hy h.symbols.lt), h.hB, h.hf, h.hs, h.hy, h.n1, h.n2, h.n3⟩
theorem RInv.above {w w' : World} {base R : Nat} {l : List ByteArray} {a : List (ByteArray × Snd)} {nv av : Value} (h : RInv w base R l a nv av) (ha : Above base w w') : RInv w' base R l a nv av :=
  ⟨(ha R h.hR h.lt).trans h.blk, row_above h.names ha, row_above h.added ha, h.hR⟩
theorem Both.above {w w' : World} {base : Nat} {l : List ByteArray} {pv pr : Value} (h : Both w base l pv pr) (ha : Above base w w') : Both w' base l pv pr := by
  rcases h with h | ⟨h0, B, R, nv, bf, bs, by_, rv, h1, h2, hI, hR⟩
  · exact .inl h
  · exact .inr ⟨h0, B, R, nv, bf, bs, by_, rv, h1, h2, hI.above ha, hR.above ha⟩
theorem Both.below {w w' : World} {base : Nat} {l : List ByteArray} {pv pr : Value} (h : Both w base l pv pr) (hb : Below w.heap.size w w') : Both w' base l pv pr := by
  rcases h with h | ⟨h0, B, R, nv, bf, bs, by_, rv, h1, h2, hI, hR⟩
  · exact .inl h
  · exact .inr ⟨h0, B, R, nv, bf, bs, by_, rv, h1, h2, hI.below hb, hR.below hb⟩
theorem above_grown {w w' : World} {n : Nat} {row : Option Nat} (hg : w.grownBy w' row) (hr : ∀ k, row = some k → k < n) : Above n w w' := fun k hn hk => hg.block k hk (fun e => by have := hr k e.symm; omega)
theorem both_feat {w : World} {base : Nat} {l : List ByteArray} {pv pr : Value} (h : Both w base l pv pr) (k : ByteArray) : ∃ (z : Int) (b : Bool), ∀ W, Below w.heap.size w W →
    Gives 18 #[pv, .string k] W (.tuple #[.int .i64 z, .bool b]) ∧ Gives 19 #[pr, .string k] W (.tuple #[.int .i64 z, .bool b]) := by
  rcases h with ⟨_, rfl, rfl⟩ | ⟨h0, B, R, nv, bf, bs, by_, rv, rfl, rfl, hI, hR⟩
  · exact ⟨0, false, fun W hb => ⟨no_feat (noInv_nil W) k, rfeat_nil k W⟩⟩
  · have key : ∃ (z : Int) (b : Bool), featN l k = .int .i64 z ∧ featB l k = b := by
      rcases feat_is l k with ⟨j, _, _, h1, h2, _⟩ | ⟨_, h1, h2, _⟩
      · exact ⟨_, _, h1, h2⟩
      · exact ⟨_, _, h1, h2⟩
    obtain ⟨z, b, e1, e2⟩ := key
    refine ⟨z, b, fun W hb => ?_⟩
    have h1 := feat_any (hI.below hb) k
    have h2 := rfeat_any (hR.below hb) (newE_nodup h0) (newE_len h0) k
    rw [e1, e2] at h1 h2
    exact ⟨h1, h2⟩
/-- A call that returns a list of texts of its own. -/
def GivesS (f : Nat) (args : Array Value) (w : World) (l : List ByteArray) : Prop := Calls Try.prog f args w fun e w' => ∃ v', e = .returned v' ∧ OwnS w' w.heap.size v' l ∧ Below w.heap.size w w'
theorem givesS_nil {f : Nat} {args : Array Value} {w : World} (h : Gives f args w (.slice none 0 0)) : GivesS f args w [] := Calls.mono h fun e w' ⟨he, hb⟩ => ⟨_, he, OwnS.nil _ _, hb⟩
theorem both_feats {w : World} {base : Nat} {l : List ByteArray} {pv pr : Value} (h : Both w base l pv pr) : ∃ l' : List ByteArray, ∀ W, Below w.heap.size w W →
    GivesS 20 #[pv] W l' ∧ GivesS 21 #[pr] W l' := by
  rcases h with ⟨_, rfl, rfl⟩ | ⟨h0, B, R, nv, bf, bs, by_, rv, rfl, rfl, hI, hR⟩
  · exact ⟨[], fun W hb => ⟨givesS_nil (no_feats (noInv_nil W)), givesS_nil (rfeats_nil W)⟩⟩
  · exact ⟨l, fun W hb => ⟨feats_any (hI.below hb) (newE_len h0), rfeats_any (hR.below hb) (newE_len h0)⟩⟩
theorem both_len {w : World} {base : Nat} {l : List ByteArray} {pv pr : Value} (h : Both w base l pv pr) : ∀ W, Below w.heap.size w W → Gives 22 #[pv] W (.int .i64 0) := by
  rcases h with ⟨_, rfl, rfl⟩ | ⟨h0, B, R, nv, bf, bs, by_, rv, rfl, rfl, hI, hR⟩
  · exact fun W hb => no_len (noInv_nil W)
  · exact fun W hb => len_any (hI.below hb)
set_option maxRecDepth 100000 in
set_option maxHeartbeats 8000000 in
theorem news_any (l : List ByteArray) (v : Value) (name : ByteArray) (w : World) (hx : ∀ x ∈ l, x.size ≤ maxLen) (hn : name.size ≤ maxLen) (h : Ss w v l) : Gives 3 #[v, .string name] w (.bool true) := by
  unfold Gives
  have hb0 := (Below.refl w.heap.size w).alloc (Nat.le_refl _) (.cells #[.string name] 9)
  have hfew := few_some l [name] v (.slice (some ⟨w.heap.size, 0, none⟩) 1 1) _ (h.below hb0) (ss_one w name) hx (fun x hh => by
    obtain rfl : x = name := by simpa using hh
    exact hn)
  have hcl := fun (hl : l.length ≤ 100) (W : World) (hb : Below w.heap.size w W) => cloneS_any l v W (by omega) (h.below hb)
  have hboth := fun (W : World) (hb : Below w.heap.size w W) => both_any l v W hx (h.below hb)
  have hss := fun (W : World) (hb : Below w.heap.size w W) => h.below hb
  obtain ⟨ao, cap, rfl, -, -, -⟩ := h.open
  have HF := Lib.hid hfew; have HCL := Lib.hid hcl; have HBo := Lib.hid hboth; have HSS := Lib.hid hss
  clear hfew hcl hboth hss h hx
  go_enter Try.func3, Try.ntmps3
  go_wp2_with fail
  go_at_call 13
  refine HF.out.mono ?_
  rintro e w1 ⟨F, rfl, hF, hb⟩
  have hw := hb0.trans (hb.mono hb0.size)
  clear hb hb0 HF
  cases F
  · clear hF
    go_wp2_with (go_at_call 14; refine Gives.then (works_any _) ?_; intro w2 hb2)
    go_returns
    exact ⟨rfl, hw.trans (hb2.mono hw.size)⟩
  · have hl := hF rfl
    clear hF
    go_wp2_with fail
    go_at_call 15
    refine (HCL.out hl w1 hw).mono ?_
    rintro e w2 ⟨v2, rfl, ho2, hb2⟩
    have hw2 := hw.trans (hb2.mono hw.size)
    have ho2 := ho2.mono hw.size
    obtain ⟨a2, c2, rfl, -, -, -⟩ := ho2.ss.open
    have HO2 := Lib.hid ho2
    clear hb2 ho2 hw HCL
    go_wp2_with fail
    go_at_call 16
    refine (HBo.out w2 hw2).mono ?_
    rintro e w3 ⟨hb3, pv, pr, rfl, hBB⟩
    have hw3 := hw2.trans (hb3.mono hw2.size)
    have HO3 := Lib.hid (HO2.out.below hb3)
    have HBo2 := Lib.hid hb3.size
    have HBB := Lib.hid hBB
    obtain ⟨⟨qv, rfl⟩, ⟨qr, rfl⟩⟩ := hBB.ptrs
    have hq := eqS_any l l _ _ w3 HO3.out.ss (HSS.out w3 hw3)
    rw [decide_eq_true rfl] at hq
    have HQ := Lib.hid hq
    have hown : ∀ k, Value.ownBlock (.slice a2 l.length c2) = some k → w.heap.size ≤ k ∧ k < w2.heap.size := fun k e => by
      refine ⟨?_, own_lt HO2.out e⟩
      obtain ⟨_, ⟨hv, _⟩ | ⟨g, _, _, hv, hg, _⟩⟩ := HO2.out
      · rw [hv] at e; cases e
      · rw [hv] at e; simp only [Value.ownBlock, Option.some.injEq] at e; omega
    have HOWN := Lib.hid hown
    clear hb3 hBB hq HO2 HBo HSS hown
    go_wp2_with fail
    go_at_call 17
    refine Gives.then HQ.out ?_
    intro w4 hb4
    have hw4 := hw3.trans (hb4.mono hw3.size)
    have hsz := hw4.size
    have HBB4 := Lib.hid ((HBB.out.below hb4).below ((Below.refl _ w4).alloc (Nat.le_refl _) (.cells #[.string name] 9)))
    have HO4 := Lib.hid ((HO3.out.below hb4).below ((Below.refl _ w4).alloc (Nat.le_refl _) (.cells #[.string name] 9)))
    have HW4 := Lib.hid (hw4.alloc hsz (.cells #[.string name] 9))
    have hs2 : w2.heap.size ≤ w4.heap.size := by have := hb4.size; have := HBo2.out; omega
    clear hb4 HQ HO3 hw3 HBB hw4
    go_wp2_with (at_builtin; refine wpList_appSg rfl (.tmp 37) (.tmp 39) rfl w.heap.size _ _ l [name] rfl rfl HO4.out (ss_one w4 name) (by simp; omega) (by go_size) ?_; intro v' w5 ho5 hg5; obtain ⟨a5, c5, hv5, -, -, -⟩ := ho5.ss.open; subst hv5; have HO5 := Lib.hid ho5.ss; have hw5 := HW4.out.grown hg5 HW4.out.size (fun k e => (HOWN.out k e).1); have HBB5 := Lib.hid (HBB4.out.above (above_grown hg5 (fun k e => (HOWN.out k e).2))); clear ho5 hg5)
    have hfe := fun k => both_feat HBB5.out k
    obtain ⟨l', hfs⟩ := both_feats HBB5.out
    have hln := both_len HBB5.out
    have HFE := Lib.hid hfe; have HFS := Lib.hid hfs; have HLN := Lib.hid hln
    have HW5 := Lib.hid hw5
    clear hfe hfs hln HBB4 HBB5 HO4 HW4 hw5 HOWN ho2 hw2
    go_loopw [42] (fun i wr => ∃ k : Nat, k ≤ l.length + 1 ∧ i = .int .i64 (k : Int) ∧ Below w5.heap.size w5 wr) (fun i _ => l.length + 1 - (intOf i).toNat)
    case atStart => exact ⟨0, Nat.zero_le _, rfl, Below.refl _ _⟩
    case round =>
      obtain ⟨k, hk, rfl, hwr⟩ := hrel
      by_cases hlt : k < l.length + 1
      · obtain ⟨ao', cap', hv', -, -, hcells⟩ := HO5.out.open
        obtain ⟨b, off, hao, lb, d0⟩ := hcells k (by simp; omega)
        cases hv'
        subst hao
        have d0 := (hwr.cell (p := ⟨b, off + k, none⟩) lb).trans d0
        obtain ⟨x, hx⟩ : ∃ x, (l ++ [name])[k]'(by simp; omega) = x := ⟨_, rfl⟩
        rw [hx] at d0
        obtain ⟨z, bb, hz⟩ := HFE.out x
        have HZ := Lib.hid hz; have HWR := Lib.hid hwr
        clear hcells hx hz hwr HFE
        go_wp2_with fail
        go_at_call 18
        refine Gives.then (HZ.out _ HWR.out).1 ?_
        intro w6 hb6
        have HW6 := Lib.hid (HWR.out.trans (hb6.mono HWR.out.size))
        clear hb6 HWR
        go_wp2_with fail
        go_at_call 19
        refine Gives.then (HZ.out _ HW6.out).2 ?_
        intro w7 hb7
        have HW7 := Lib.hid (HW6.out.trans (hb7.mono HW6.out.size))
        clear hb7 HW6 d0
        go_wp2_with fail
        go_roundw
        case rel => exact ⟨k + 1, by omega, by go_num, HW7.out⟩
        case measure => simp [intOf]; omega
      · obtain rfl : k = l.length + 1 := by omega
        have HWR := Lib.hid hwr
        clear hwr hlt
        go_wp2_with fail
        go_at_call 20
        refine (HFS.out _ HWR.out).1.mono ?_
        rintro e w6 ⟨v6, rfl, ho6, hb6⟩
        obtain ⟨a6, c6, rfl, -, -, -⟩ := ho6.ss.open
        have HO6 := Lib.hid ho6
        have HW6 := Lib.hid (HWR.out.trans (hb6.mono HWR.out.size))
        clear hb6 ho6
        go_wp2_with fail
        go_at_call 21
        refine (HFS.out _ HW6.out).2.mono ?_
        rintro e w7 ⟨v7, rfl, ho7, hb7⟩
        obtain ⟨a7, c7, rfl, -, -, -⟩ := ho7.ss.open
        have hq := eqS_any l' l' _ _ w7 (HO6.out.below hb7).ss ho7.ss
        rw [decide_eq_true rfl] at hq
        have HQ := Lib.hid hq
        have HW7 := Lib.hid (HW6.out.trans (hb7.mono HW6.out.size))
        clear hb7 ho7 hq HO6
        go_wp2_with fail
        go_at_call 17
        refine Gives.then HQ.out ?_
        intro w8 hb8
        have HW8 := Lib.hid (HW7.out.trans (hb8.mono HW7.out.size))
        clear hb8 HQ
        go_wp2_with fail
        go_at_call 22
        refine Gives.then (HLN.out _ HW8.out) ?_
        intro w9 hb9
        have HW9 := Lib.hid (HW8.out.trans (hb9.mono HW8.out.size))
        clear hb9
        go_wp2_with (go_at_call 14; refine Gives.then (works_any _) ?_; intro w10 hb10)
        go_returns
        exact ⟨rfl, (HW5.out.trans (HW9.out.mono HW5.out.size)).trans (hb10.mono (Nat.le_trans HW5.out.size HW9.out.size))⟩
end Go.Proofs.Ytmgikhldkebjbaa

/-
  The specification's items of a text: the same items as the program's.
-/
namespace Go.Proofs.Ytmgikhldkebjbaa
open Go.RowKit Go.Shelf Go.Sort
theorem ib_at (c : UInt8) : ∀ (l : List UInt8) (n : Nat) (h : n < l.length), l[n] = c → (∀ j (hj : j < n), l[j]'(by omega) ≠ c) → Lib.indexByte l c = n
  | [], _, h, _, _ => by simp at h
  | b :: l, 0, _, e, _ => by
    have e : b = c := e
    simp [Lib.indexByte, e]
  | b :: l, n + 1, h, e, hn => by
    have ih := ib_at c l n (by simpa using h) (by simpa using e) (fun j hj => by have := hn (j + 1) (by omega); simpa using this)
    have hb : b ≠ c := hn 0 (by omega)
    simp only [Lib.indexByte, ih]
    rw [if_neg (by simpa using hb), if_neg (by rw [beq_iff_eq]; omega)]
    omega
theorem ib_no (c : UInt8) : ∀ (l : List UInt8), (∀ j (hj : j < l.length), l[j] ≠ c) → Lib.indexByte l c = -1
  | [], _ => rfl
  | b :: l, hn => by
    have ih := ib_no c l (fun j hj => by have := hn (j + 1) (by simpa using hj); simpa using this)
    have hb : b ≠ c := hn 0 (by simp)
    simp only [Lib.indexByte, ih]
    rw [if_neg (by simpa using hb), if_pos (by rfl)]
theorem ext_list (t : ByteArray) (a b : Nat) : (t.extract a b).data.toList = (t.data.toList.drop a).take (b - a) := by
  rw [ByteArray.data_extract, Array.toList_extract, List.extract_eq_take_drop]
theorem ext_get (t : ByteArray) (a j : Nat) (h : j < (t.extract a t.size).data.toList.length) (h2 : a + j < t.data.toList.length) : (t.extract a t.size).data.toList[j] = t.data.toList[a + j] := by
  simp only [ext_list, List.getElem_take, List.getElem_drop]
theorem ext_len (t : ByteArray) (a : Nat) : (t.extract a t.size).data.toList.length = t.size - a := by
  have e : t.data.toList.length = t.size := by rw [Array.length_toList]; rfl
  rw [ext_list, List.length_take, List.length_drop, e]
  omega
theorem len_list (t : ByteArray) : t.data.toList.length = t.size := by rw [Array.length_toList]; rfl
/-- A part ends at a space. -/
theorem todo_at (t : ByteArray) (a i : Nat) (h1 : a ≤ i) (h2 : i < t.size) (hs : t.data.toList[i]'(by rw [len_list]; exact h2) = 32) (hn : ∀ j (hj : j < t.data.toList.length), a ≤ j → j < i → t.data.toList[j] ≠ 32) :
    todo (t.extract a t.size) true = t.extract a i :: todo (t.extract (i + 1) t.size) true := by
  have hsp : spI (t.extract a t.size) = ((i - a : Nat) : Int) := by
    unfold spI
    refine ib_at 32 _ (i - a) (by rw [ext_len]; omega) ?_ (fun j hj => ?_)
    · rw [ext_get _ _ _ _ (by rw [len_list]; omega)]
      simp only [show a + (i - a) = i from by omega]
      exact hs
    · rw [ext_get _ _ _ _ (by rw [len_list]; omega)]
      exact hn (a + j) (by rw [len_list]; omega) (by omega) (by omega)
  have e0 : (0 : Int) ≤ spI (t.extract a t.size) := by omega
  have eA : cutA (t.extract a t.size) = t.extract a i := by
    unfold cutA
    rw [if_pos e0, hsp, Int.toNat_natCast]
    apply bytes_ext
    simp only [ext_list, List.drop_zero, List.take_take]
    congr 1
    omega
  have eB : cutB (t.extract a t.size) = t.extract (i + 1) t.size := by
    unfold cutB
    rw [if_pos e0, hsp, Int.toNat_natCast]
    apply bytes_ext
    have e2 : (t.extract a t.size).size = t.size - a := by rw [← ext_len, len_list]
    rw [e2]
    simp only [ext_list, List.drop_take, List.drop_drop, List.take_take]
    congr 1
    · omega
    · congr 1; omega
  have eC : cutC (t.extract a t.size) = true := decide_eq_true e0
  rw [todo_true, eA, eB, eC]
/-- The last part. -/
theorem todo_end (t : ByteArray) (a : Nat) (hn : ∀ j (hj : j < t.data.toList.length), a ≤ j → t.data.toList[j] ≠ 32) :
    todo (t.extract a t.size) true = [t.extract a t.size] := by
  have hsp : spI (t.extract a t.size) = -1 := by
    unfold spI
    refine ib_no 32 _ (fun j hj => ?_)
    rw [ext_len] at hj
    rw [ext_get _ _ _ _ (by rw [len_list]; omega)]
    exact hn (a + j) (by rw [len_list]; omega) (by omega)
  have e0 : ¬ (0 : Int) ≤ spI (t.extract a t.size) := by omega
  have eA : cutA (t.extract a t.size) = t.extract a t.size := by unfold cutA; rw [if_neg e0]
  have eC : cutC (t.extract a t.size) = false := decide_eq_false e0
  rw [todo_true, eA, eC, todo_false]
theorem todo_whole (t : ByteArray) : t.extract 0 t.size = t := by
  apply bytes_ext
  rw [ext_list, List.drop_zero, List.take_of_length_le (by rw [len_list]; omega)]
/-- Where the loop over the bytes is. -/
def ItR (t : ByteArray) (w : World) (v f i : Value) (wr : World) : Prop :=
  (∃ (D : List ByteArray) (a k : Nat), a ≤ k ∧ k ≤ t.size ∧ D.length ≤ k ∧ f = .int .i64 (a : Int) ∧ i = .int .i64 (k : Int) ∧ OwnS wr w.heap.size v D ∧ todo t true = D ++ todo (t.extract a t.size) true ∧ (∀ j (hj : j < t.data.toList.length), a ≤ j → j < k → t.data.toList[j] ≠ 32) ∧ Below w.heap.size w wr) ∨
  (i = .int .i64 ((t.size + 1 : Nat) : Int) ∧ OwnS wr w.heap.size v (todo t true) ∧ Below w.heap.size w wr)
set_option maxRecDepth 100000 in
set_option maxHeartbeats 4000000 in
theorem ritems_any (t : ByteArray) (ht : t.size ≤ 1000000000) (w : World) : GivesS 58 #[.string t] w (todo t true) := by
  unfold GivesS
  have hL := len_list t
  have HL := Lib.hid hL
  clear hL
  go_enter Try.func58, Try.ntmps58
  go_wp2_with fail
  go_loopw [3, 4, 5] (fun v f i wr => ItR t w v f i wr) (fun _ _ i _ => t.size + 1 - (intOf i).toNat)
  case atStart => exact .inl ⟨[], 0, 0, Nat.le_refl _, Nat.zero_le _, Nat.le_refl _, rfl, rfl, OwnS.nil _ _, by rw [todo_whole]; rfl, fun j hj h1 h2 => by omega, Below.refl _ _⟩
  case round =>
    rcases hrel with ⟨D, a, k, h1, h2, h3, rfl, rfl, ho, htd, hn, hw⟩ | ⟨rfl, ho, hw⟩
    · obtain ⟨av, cv, hv, -, -, -⟩ := ho.ss.open
      obtain ⟨N, hN⟩ : ∃ N, D.length = N := ⟨_, rfl⟩
      rw [hN] at hv h3
      subst hv
      have HN := Lib.hid hN; have HO := Lib.hid ho; have HT := Lib.hid htd; have HNO := Lib.hid hn; have HW := Lib.hid hw
      have hsz := hw.size
      clear hN ho htd hn hw
      by_cases hlt : k < t.size
      · have hkl : k < t.data.toList.length := by rw [HL.out]; exact hlt
        obtain ⟨c, hc⟩ : ∃ c, t.data.toList[k] = c := ⟨_, rfl⟩
        have hb : ∀ h, t[k]'h = c := by intro h; exact hc
        have g1 : ((k : Int) == (t.size : Int)) = false := int_ne (by omega)
        by_cases hsp : c = 32
        · have htd := todo_at t a k h1 hlt (by rw [hc]; exact hsp) HNO.out
          subst hsp
          have hD : todo t true = (D ++ [t.extract a k]) ++ todo (t.extract (k + 1) t.size) true := by rw [HT.out, htd]; simp
          have HD := Lib.hid hD
          clear htd hD hc
          go_wp2_with (at_builtin; refine wpList_appS rfl (.tmp 22) (.tmp 27) rfl w.heap.size _ _ D [t.extract a k] rfl rfl (HO.out.below ((Below.refl _ wr).alloc (Nat.le_refl _) _)) (ss_one wr _) (by have := HN.out; simp; omega) (by rw [World.size_alloc]; omega) ?_; intro v' w2 ho2 hk2 hz2; have HO2 := Lib.hid ho2; have HW2 := Lib.hid (hk2 _ _ (Nat.le_refl _) (HW.out.alloc hsz _)); clear ho2 hk2 hz2)
          go_roundw
          case rel => exact .inl ⟨D ++ [t.extract a k], k + 1, k + 1, Nat.le_refl _, by omega, by rw [List.length_append]; have := HN.out; simp; omega, by go_num, by go_num, HO2.out, HD.out, fun j hj h1 h2 => by omega, HW2.out⟩
          case measure => simp [intOf]; omega
        · have e1 : ((c.toNat : Int) == 32) = false := by
            rw [Bool.eq_false_iff]; intro e
            have := beq_iff_eq.1 e
            exact hsp (UInt8.toNat_inj.1 (by have e2 : (32 : UInt8).toNat = 32 := rfl; omega))
          have hno : ∀ j (hj : j < t.data.toList.length), a ≤ j → j < k + 1 → t.data.toList[j] ≠ 32 := fun j hj h1 h2 => by
            by_cases e : j = k
            · subst e; rw [hc]; exact hsp
            · exact HNO.out j hj h1 (by omega)
          have HNN := Lib.hid hno
          clear hno hc hsp
          go_wp2_with fail
          go_roundw
          case rel => exact .inl ⟨D, a, k + 1, by omega, by omega, by have := HN.out; omega, by go_num, by go_num, HO.out, HT.out, HNN.out, HW.out⟩
          case measure => simp [intOf]; omega
      · obtain rfl : k = t.size := by omega
        have htd := todo_end t a (fun j hj h => HNO.out j hj h (by have := HL.out; omega))
        have hD : todo t true = D ++ [t.extract a t.size] := by rw [HT.out, htd]
        have HD := Lib.hid hD
        clear htd hD
        go_wp2_with (at_builtin; refine wpList_appS rfl (.tmp 22) (.tmp 27) rfl w.heap.size _ _ D [t.extract a t.size] rfl rfl (HO.out.below ((Below.refl _ wr).alloc (Nat.le_refl _) _)) (ss_one wr _) (by have := HN.out; simp; omega) (by rw [World.size_alloc]; omega) ?_; intro v' w2 ho2 hk2 hz2; have HO2 := Lib.hid ho2; have HW2 := Lib.hid (hk2 _ _ (Nat.le_refl _) (HW.out.alloc hsz _)); clear ho2 hk2 hz2)
        go_roundw
        case rel => exact .inr ⟨by first | rfl | go_num, by rw [HD.out]; exact HO2.out, HW2.out⟩
        case measure => first | (simp [intOf]; omega) | simp [intOf]
    · obtain ⟨av, cv, hv, -, -, -⟩ := ho.ss.open
      have HO := Lib.hid ho
      clear ho
      go_wp2_with fail
      go_returns
      exact ⟨_, rfl, HO.out, hw⟩
end Go.Proofs.Ytmgikhldkebjbaa

/-
  The specification's Bundle: what an item does.
-/
namespace Go.Proofs.Ytmgikhldkebjbaa
open Go.RowKit Go.Shelf Go.Sort
/-- The sound of one feature, and whether a sound has a value for it. -/
theorem valN_bit (r : Snd) (hv : vld r.1 r.2 = true) (j : Nat) (hj : j < 24) : (valN r &&& (bit j).toNat = 0) ↔ getV r.1 r.2 j = 0 := by
  have e : valN r = (r.1 ||| r.2).toNat := by unfold valN; rw [BitVec.toNat_or]
  rw [e, and_bit _ j (by omega), BitVec.getLsbD_or]
  unfold getV
  cases r.1.getLsbD j <;> cases r.2.getLsbD j <;> simp
theorem with_plus (r : Snd) (j : Nat) (hj : j < 24) (h : getV r.1 r.2 j = 0) : withP r.1 j 1 = r.1 ||| bit j ∧ withM r.2 j 1 = r.2 ||| 0#32 := by
  unfold getV at h
  have hp : r.1.getLsbD j = false := by cases hh : r.1.getLsbD j <;> simp [hh] at h ⊢
  have hm : r.2.getLsbD j = false := by cases hh : r.2.getLsbD j <;> simp [hh, hp] at h ⊢
  constructor
  · apply BitVec.eq_of_getLsbD_eq
    intro i hi
    rw [withP_get _ _ _ _ (by omega) hi, BitVec.getLsbD_or, bit_get j i (by omega)]
    by_cases e : i = j
    · subst e; simp
    · simp [e]
  · apply BitVec.eq_of_getLsbD_eq
    intro i hi
    rw [withM_get _ _ _ _ (by omega) hi, BitVec.getLsbD_or]
    by_cases e : i = j
    · subst e; simp [hm]
    · simp [e]
theorem with_minus (r : Snd) (j : Nat) (hj : j < 24) (h : getV r.1 r.2 j = 0) : withP r.1 j (-1) = r.1 ||| 0#32 ∧ withM r.2 j (-1) = r.2 ||| bit j := by
  unfold getV at h
  have hp : r.1.getLsbD j = false := by cases hh : r.1.getLsbD j <;> simp [hh] at h ⊢
  have hm : r.2.getLsbD j = false := by cases hh : r.2.getLsbD j <;> simp [hh, hp] at h ⊢
  constructor
  · apply BitVec.eq_of_getLsbD_eq
    intro i hi
    rw [withP_get _ _ _ _ (by omega) hi, BitVec.getLsbD_or]
    by_cases e : i = j
    · subst e; simp [hp]
    · simp [e]
  · apply BitVec.eq_of_getLsbD_eq
    intro i hi
    rw [withM_get _ _ _ _ (by omega) hi, BitVec.getLsbD_or, bit_get j i (by omega)]
    by_cases e : i = j
    · subst e; simp
    · simp [e]
/-- What becomes of a valid sound by one item: nothing, or one value more. -/
theorem stepB_is (l : List ByteArray) (hl : l.length ≤ 24) (r : Snd) (hv : vld r.1 r.2 = true) (x : ByteArray) :
    (x.size = 0 ∧ stepB l r x = none) ∨
    (0 < x.size ∧ ∃ c, x.data.toList.getD 0 0 = c ∧
      ((c ≠ 43 ∧ c ≠ 45 ∧ stepB l r x = none) ∨
       ((c = 43 ∨ c = 45) ∧
        ((featO l (x.extract 1 x.size) = none ∧ stepB l r x = none) ∨
         ∃ j, j < 24 ∧ featO l (x.extract 1 x.size) = some j ∧
          ((getV r.1 r.2 j ≠ 0 ∧ stepB l r x = none) ∨
           (getV r.1 r.2 j = 0 ∧ ∃ v : Int, (v = if c = 43 then 1 else -1) ∧ stepB l r x = some (withP r.1 j v, withM r.2 j v) ∧ vld (withP r.1 j v) (withM r.2 j v) = true)))))) := by
  by_cases h0 : x.size = 0
  · left
    exact ⟨h0, by unfold stepB; rw [valS_empty h0]⟩
  · right
    refine ⟨by omega, _, rfl, ?_⟩
    generalize hc : x.data.toList.getD 0 0 = c
    cases hf : featO l (x.extract 1 x.size) with
    | none =>
      have hs : stepB l r x = none := by unfold stepB; rw [valS_no hf]
      by_cases h43 : c = 43
      · exact .inr ⟨.inl h43, .inl ⟨rfl, hs⟩⟩
      · by_cases h45 : c = 45
        · exact .inr ⟨.inr h45, .inl ⟨rfl, hs⟩⟩
        · exact .inl ⟨h43, h45, hs⟩
    | some j =>
      have hj : j < 24 := by
        obtain ⟨h1, _⟩ := featO_some hf
        omega
      have hval := valS_of (l := l) h0 hf hc
      by_cases h43 : c = 43
      · subst h43
        rw [if_pos rfl] at hval
        refine .inr ⟨.inl rfl, .inr ⟨j, hj, rfl, ?_⟩⟩
        have hb := valN_bit r hv j hj
        have hs : stepB l r x = if getV r.1 r.2 j = 0 then some (r.1 ||| bit j, r.2 ||| 0#32) else none := by
          unfold stepB; rw [hval]
          have e : valN (bit j, 0#32) = (bit j).toNat := by unfold valN; simp
          simp only [e]
          by_cases hg : getV r.1 r.2 j = 0
          · rw [if_pos hg, if_pos (hb.2 hg)]
          · rw [if_neg hg, if_neg (fun e => hg (hb.1 e))]
        by_cases hg : getV r.1 r.2 j = 0
        · obtain ⟨w1, w2⟩ := with_plus r j hj hg
          exact .inr ⟨hg, 1, by simp, by rw [hs, if_pos hg, w1, w2], vld_with hv j 1 hj⟩
        · exact .inl ⟨hg, by rw [hs, if_neg hg]⟩
      · by_cases h45 : c = 45
        · subst h45
          rw [if_neg (by decide), if_pos rfl] at hval
          refine .inr ⟨.inr rfl, .inr ⟨j, hj, rfl, ?_⟩⟩
          have hb := valN_bit r hv j hj
          have hs : stepB l r x = if getV r.1 r.2 j = 0 then some (r.1 ||| 0#32, r.2 ||| bit j) else none := by
            unfold stepB; rw [hval]
            have e : valN (0#32, bit j) = (bit j).toNat := by unfold valN; simp
            simp only [e]
            by_cases hg : getV r.1 r.2 j = 0
            · rw [if_pos hg, if_pos (hb.2 hg)]
            · rw [if_neg hg, if_neg (fun e => hg (hb.1 e))]
          by_cases hg : getV r.1 r.2 j = 0
          · obtain ⟨w1, w2⟩ := with_minus r j hj hg
            exact .inr ⟨hg, -1, by simp, by rw [hs, if_pos hg, w1, w2], vld_with hv j (-1) hj⟩
          · exact .inl ⟨hg, by rw [hs, if_neg hg]⟩
        · refine .inl ⟨h43, h45, ?_⟩
          rw [if_neg h43, if_neg h45] at hval
          unfold stepB; rw [hval]
end Go.Proofs.Ytmgikhldkebjbaa

/-
  The specification's Bundle: the walk.
-/
namespace Go.Proofs.Ytmgikhldkebjbaa
open Go.RowKit Go.Shelf Go.Sort
theorem gb_below {W0 W W' : World} {b : Option Nat} (h : W0.grownBy W b) (hb : Below W.heap.size W W') : W0.grownBy W' b :=
  ⟨hb.os.trans h.os, hb.tape.trans h.tape, hb.output.trans h.output, Nat.le_trans h.size hb.size, fun k hk hne => (hb.block k (Nat.lt_of_lt_of_le hk h.size)).trans (h.block k hk hne)⟩
theorem gb_set {W0 W : World} {b o : Nat} {v : Value} (h : W0.grownBy W (some b)) : W0.grownBy (W.setCell ⟨b, o, none⟩ v) (some b) := by
  have g := set_grown W b o v
  exact ⟨g.os.trans h.os, g.tape.trans h.tape, g.output.trans h.output, Nat.le_trans h.size g.size, fun k hk hne => (g.block k (Nat.lt_of_lt_of_le hk h.size) hne).trans (h.block k hk hne)⟩
theorem block_set {W : World} {b o : Nat} {v : Value} {cs : Array Value} {T : Nat} {fz : Nat × Nat} (h : W.heap[b]? = some (.cells cs T fz)) : (W.setCell ⟨b, o, none⟩ v).heap[b]? = some (.cells (cs.setIfInBounds o v) T fz) := by
  simp only [World.setCell]
  rw [Array.getElem?_modify, if_pos rfl, h]
  simp [Array.setIfInBounds_def]
theorem gb_cell {W0 W : World} {b B o : Nat} {v : Value} (h : W0.grownBy W (some b)) (hB : B < W0.heap.size) (hne : B ≠ b) (hc : W0.cell? ⟨B, o, none⟩ = some v) : W.cell? ⟨B, o, none⟩ = some v :=
  (World.cell?_of_block (h.block B hB (by simpa using hne))).trans hc
theorem gb_row {W0 W : World} {base n b : Nat} {e : TypeId} {size : Nat} {v : Value} {xs : List Value} (h : W0.ownsRow base e size v n xs) (hg : W0.grownBy W (some b)) (hb : v.ownBlock ≠ some b) : W.ownsRow base e size v n xs := by
  obtain ⟨hl, h0 | ⟨g, cap, cur, hv, hg2, hh, hr⟩⟩ := h
  · exact ⟨hl, .inl h0⟩
  · refine ⟨hl, .inr ⟨g, cap, cur, hv, hg2, (hg.block g (Array.getElem?_eq_some_iff.1 hh).1 (fun e => hb ?_)).trans hh, hr⟩⟩
    rw [hv, ← e]; rfl
theorem row_lt {W : World} {base n : Nat} {e : TypeId} {size : Nat} {v : Value} {xs : List Value} {k b : Nat} (h : W.ownsRow base e size v n xs) (hb : W.heap.size ≤ b) : v.ownBlock ≠ some b := fun e => by have := own_lt h e; omega
theorem rbundle_nil (t : ByteArray) (w : World) : Gives 30 #[.pointer none, .string t] w (.tuple #[.agg #[.int .u32 0, .int .u32 0], .int .i64 1]) := by
  unfold Gives
  go_enter Try.func30, Try.ntmps30
  go_wp2_with fail
  go_at_call 45
  refine Gives.then (rmade_nil _) ?_
  intro w1 hb
  have hb0 := (Below.refl w.heap.size w).alloc (Nat.le_refl _) (.cells #[.int .u32 0, .int .u32 0] 39)
  have hw := hb0.trans (hb.mono hb0.size)
  have r0 := (hb.cell (p := ⟨w.heap.size, 0, none⟩) (by simp)).trans (cell_block (World.alloc_heap_new w _) rfl)
  have r1 := (hb.cell (p := ⟨w.heap.size, 1, none⟩) (by simp)).trans (cell_block (World.alloc_heap_new w _) rfl)
  have f0 := (hb.frozen (p := ⟨w.heap.size, 0, none⟩) (by simp)).trans (frozen_block (World.alloc_heap_new w _))
  have f1 := (hb.frozen (p := ⟨w.heap.size, 1, none⟩) (by simp)).trans (frozen_block (World.alloc_heap_new w _))
  clear hb hb0
  go_wp2_with fail
  refine bodyPost_ret (v := .tuple #[.agg #[.int .u32 0, .int .u32 0], .int .i64 1]) ?_ rfl ⟨rfl, by go_grown⟩
  have e0 : ((w1.setCell ⟨w.heap.size, 0, none⟩ (.int .u32 0)).setCell ⟨w.heap.size, 1, none⟩ (.int .u32 0)).cell? ⟨w.heap.size, 0, none⟩ = some (.int .u32 0) := by go_cell
  have e1 : ((w1.setCell ⟨w.heap.size, 0, none⟩ (.int .u32 0)).setCell ⟨w.heap.size, 1, none⟩ (.int .u32 0)).cell? ⟨w.heap.size, 1, none⟩ = some (.int .u32 0) := by go_cell
  simp [results, Try.results30, go_sem, e0, e1]
theorem itemsF_le : ∀ (n : Nat) (r : ByteArray) (m : Bool), ∀ x ∈ itemsF n r m, x.size ≤ r.size
  | 0, _, _, x, h => by cases h
  | n + 1, r, false, x, h => by cases h
  | n + 1, r, true, x, h => by
    have h : x ∈ cutA r :: itemsF n (cutB r) (cutC r) := h
    rcases List.mem_cons.1 h with rfl | h
    · exact cutA_le r
    · exact Nat.le_trans (itemsF_le n _ _ x h) (cutB_le r)
theorem feat_none {l : List ByteArray} {k : ByteArray} (h : featO l k = none) : featN l k = .int .i64 0 ∧ featB l k = false := by
  rcases feat_is l k with ⟨j, _, _, _, _, e⟩ | ⟨_, e1, e2, _⟩
  · rw [h] at e; cases e
  · exact ⟨e1, e2⟩
theorem feat_some {l : List ByteArray} {k : ByteArray} {j : Nat} (h : featO l k = some j) : featN l k = .int .i64 (j : Int) ∧ featB l k = true := by
  rcases feat_is l k with ⟨i, _, _, e1, e2, e⟩ | ⟨_, _, _, e⟩
  · rw [h] at e; cases e; exact ⟨e1, e2⟩
  · rw [h] at e; cases e
/-- Where the loop over the items is. -/
def BuR (l : List ByteArray) (L : List ByteArray) (W0 : World) (b6 : Nat) (i : Value) (wr : World) : Prop :=
  ∃ (k : Nat) (r : Snd), k ≤ L.length ∧ i = .int .i64 (k : Int) ∧ bunL l (0#32, 0#32) (L.take k) = some r ∧ vld r.1 r.2 = true ∧ wr.heap[b6]? = some (.cells #[.int .u32 (r.1.toNat : Int), .int .u32 (r.2.toNat : Int)] 39 (0, 0)) ∧ W0.grownBy wr (some b6)
theorem bunL_at {l L : List ByteArray} {k : Nat} {r : Snd} (hk : k < L.length) (h : bunL l (0#32, 0#32) (L.take k) = some r) : bunL l (0#32, 0#32) (L.take (k + 1)) = stepB l r L[k] := by
  rw [List.take_succ_eq_append_getElem hk]
  exact bunL_snoc _ _ _ h
theorem bunL_fail {l L : List ByteArray} {k : Nat} {r : Snd} (hk : k < L.length) (h : bunL l (0#32, 0#32) (L.take k) = some r) (hs : stepB l r L[k] = none) : bunL l (0#32, 0#32) L = none := by
  have h1 := bunL_at hk h
  rw [hs] at h1
  have := bunL_stop (L.take (k + 1)) (L.drop (k + 1)) _ h1
  rwa [List.take_append_drop] at this
set_option maxRecDepth 100000 in
set_option maxHeartbeats 8000000 in
theorem rbundle_any {w : World} {base R : Nat} {l : List ByteArray} {a : List (ByteArray × Snd)} {nv av : Value} (h : RInv w base R l a nv av) (hd : ¬ Dup l l.length) (hl : l.length ≤ 24) (t : ByteArray) (ht : t.size ≤ 1000000000) : Gives 30 #[.pointer (some ⟨R, 0, none⟩), .string t] w (bunV (bunS l t)) := by
  unfold Gives
  have hmd := fun (W : World) (hb : Below w.heap.size w W) => rmade_yes R W (h.below hb).cells.1
  have hR := h.lt
  have HI := Lib.hid h; have HMD := Lib.hid hmd; have HD := Lib.hid hd
  obtain ⟨V, hV⟩ : ∃ V, bunV (bunS l t) = V := ⟨_, rfl⟩
  rw [hV]
  have HV := Lib.hid hV
  clear h hmd hd hV
  have hb0 := (Below.refl w.heap.size w).alloc (Nat.le_refl _) (.cells #[.int .u32 0, .int .u32 0] 39)
  by_cases h0 : t.size = 0
  · have e0 : t.toList.isEmpty = true := by rw [empty_toList]; exact decide_eq_true h0
    have hVV : V = .tuple #[.agg #[.int .u32 0, .int .u32 0], .int .i64 0] := by
      rw [← HV.out]
      have : bunS l t = some (0#32, 0#32) := by unfold bunS itemsS; rw [e0]; rfl
      rw [this]; rfl
    have HVV := Lib.hid hVV
    clear hVV
    go_enter Try.func30, Try.ntmps30
    go_wp2_with fail
    go_at_call 45
    refine Gives.then (HMD.out _ hb0) ?_
    intro w1 hb
    have hw := hb0.trans (hb.mono hb0.size)
    have r0 := (hb.cell (p := ⟨w.heap.size, 0, none⟩) (by simp)).trans (cell_block (World.alloc_heap_new w _) rfl)
    have r1 := (hb.cell (p := ⟨w.heap.size, 1, none⟩) (by simp)).trans (cell_block (World.alloc_heap_new w _) rfl)
    have f0 := (hb.frozen (p := ⟨w.heap.size, 0, none⟩) (by simp)).trans (frozen_block (World.alloc_heap_new w _))
    have f1 := (hb.frozen (p := ⟨w.heap.size, 1, none⟩) (by simp)).trans (frozen_block (World.alloc_heap_new w _))
    have lw : w.heap.size < w1.heap.size := by have := hb.size; rw [World.size_alloc] at this; omega
    clear hb hb0
    go_wp2_with fail
    refine bodyPost_ret (v := V) ?_ rfl ⟨rfl, by go_grown⟩
    have e0 : (((w1.setCell ⟨w.heap.size, 0, none⟩ (.int .u32 0)).setCell ⟨w.heap.size, 1, none⟩ (.int .u32 0)).alloc (.cells #[.int .u32 0, .int .u32 0] 39)).cell? ⟨w.heap.size, 0, none⟩ = some (.int .u32 0) := by go_cell
    have e1 : (((w1.setCell ⟨w.heap.size, 0, none⟩ (.int .u32 0)).setCell ⟨w.heap.size, 1, none⟩ (.int .u32 0)).alloc (.cells #[.int .u32 0, .int .u32 0] 39)).cell? ⟨w.heap.size, 1, none⟩ = some (.int .u32 0) := by go_cell
    rw [HVV.out]
    simp [results, Try.results30, go_sem, e0, e1]
  · have e0 : t.toList.isEmpty = false := by rw [empty_toList]; exact decide_eq_false h0
    have hVV : V = bunV (bunL l (0#32, 0#32) (todo t true)) := by
      rw [← HV.out]
      unfold bunS itemsS; rw [e0]; rfl
    have hit := ritems_any t ht
    have hsz : ∀ x ∈ todo t true, x.size ≤ 1000000000 := fun x hx => Nat.le_trans (itemsF_le _ _ _ x hx) ht
    have HSZ := Lib.hid hsz
    clear hsz
    generalize todo t true = L at *
    have HVV := Lib.hid hVV; have HIT := Lib.hid hit
    clear hVV hit HV
    go_enter Try.func30, Try.ntmps30
    go_wp2_with fail
    go_at_call 45
    refine Gives.then (HMD.out _ hb0) ?_
    intro w1 hb
    have hw := hb0.trans (hb.mono hb0.size)
    have r0 := (hb.cell (p := ⟨w.heap.size, 0, none⟩) (by simp)).trans (cell_block (World.alloc_heap_new w _) rfl)
    have r1 := (hb.cell (p := ⟨w.heap.size, 1, none⟩) (by simp)).trans (cell_block (World.alloc_heap_new w _) rfl)
    have f0 := (hb.frozen (p := ⟨w.heap.size, 0, none⟩) (by simp)).trans (frozen_block (World.alloc_heap_new w _))
    have f1 := (hb.frozen (p := ⟨w.heap.size, 1, none⟩) (by simp)).trans (frozen_block (World.alloc_heap_new w _))
    have lw : w.heap.size < w1.heap.size := by have := hb.size; rw [World.size_alloc] at this; omega
    clear hb hb0 HMD
    go_wp2_with fail
    go_at_call 58
    have hwA : Below w.heap.size w (w1.alloc (.cells #[.int .u32 0, .int .u32 0] 39)) := hw.alloc hw.size _
    refine (HIT.out _).mono ?_
    rintro e w2 ⟨vL, rfl, hoL, hb2⟩
    obtain ⟨aL, cL, hvL, hcL, hmL, hLc⟩ := hoL.ss.open
    subst hvL
    unfold maxLen at hmL
    have hL1 : L.length ≤ 9223372036854775807 := by omega
    have hw2 := hwA.trans (hb2.mono hwA.size)
    have lw2 : w1.heap.size < w2.heap.size := by have := hb2.size; rw [World.size_alloc] at this; omega
    have bk : w2.heap[w1.heap.size]? = some (.cells #[.int .u32 0, .int .u32 0] 39 (0, 0)) := (hb2.block w1.heap.size (by rw [World.size_alloc]; omega)).trans (World.alloc_heap_new w1 _)
    have r0 := (hb2.cell (p := ⟨w.heap.size, 0, none⟩) (by simp only [World.size_alloc]; omega)).trans (cell_past lw r0)
    have r1 := (hb2.cell (p := ⟨w.heap.size, 1, none⟩) (by simp only [World.size_alloc]; omega)).trans (cell_past lw r1)
    have f0 := (hb2.frozen (p := ⟨w.heap.size, 0, none⟩) (by simp only [World.size_alloc]; omega)).trans ((((Below.refl w1.heap.size w1).alloc (Nat.le_refl _) (.cells #[.int .u32 0, .int .u32 0] 39)).frozen (p := ⟨w.heap.size, 0, none⟩) lw).trans f0)
    have f1 := (hb2.frozen (p := ⟨w.heap.size, 1, none⟩) (by simp only [World.size_alloc]; omega)).trans ((((Below.refl w1.heap.size w1).alloc (Nat.le_refl _) (.cells #[.int .u32 0, .int .u32 0] 39)).frozen (p := ⟨w.heap.size, 1, none⟩) lw).trans f1)
    have hI2 := HI.out.below hw2
    have hn2 : nv.ownBlock ≠ some w1.heap.size := fun e => by have := own_lt HI.out.names e; have := hw.size; omega
    have ha2 : av.ownBlock ≠ some w1.heap.size := fun e => by have := own_lt HI.out.added e; have := hw.size; omega
    have hR6 : R ≠ w1.heap.size := by have := hw.size; omega
    have hL6 : ∀ i (h : i < L.length), ∃ b off, aL = some ⟨b, off, none⟩ ∧ b < w2.heap.size ∧ b ≠ w1.heap.size ∧ w2.cell? ⟨b, off + i, none⟩ = some (.string L[i]) := fun i hi => by
      obtain ⟨b, off, e, lb, d⟩ := hLc i hi
      refine ⟨b, off, e, lb, ?_, d⟩
      obtain ⟨_, ⟨hv, _⟩ | ⟨g, cap, cur, hv, hg, _⟩⟩ := hoL
      · rw [e] at hv; cases hv
      · rw [e] at hv
        simp only [Value.slice.injEq, Option.some.injEq, Addr.mk.injEq] at hv
        rw [World.size_alloc] at hg
        omega
    have lr : w.heap.size < w2.heap.size := by omega
    have HI2 := Lib.hid hI2; have HN2 := Lib.hid hn2; have HA2 := Lib.hid ha2; have HL6 := Lib.hid hL6; have HW2 := Lib.hid hw2
    have lb6 : w.heap.size ≤ w1.heap.size := by omega
    have hne6 : w.heap.size ≠ w1.heap.size := by omega
    clear hb2 hoL hLc hwA hw hI2 hn2 ha2 hL6 hcL hmL hw2 HIT
    generalize w1.heap.size = b6 at *
    go_wp2_with fail
    go_loopw [8] (fun i wr => BuR l L w2 b6 i wr) (fun i _ => L.length - (intOf i).toNat)
    case atStart => exact ⟨0, (0#32, 0#32), Nat.zero_le _, rfl, rfl, by decide, bk, ⟨rfl, rfl, rfl, Nat.le_refl _, fun _ _ _ => rfl⟩⟩
    case round =>
      obtain ⟨k, r, hk, rfl, hbl, hvr, bkr, hg⟩ := hrel
      obtain ⟨p, m⟩ := r
      simp only at bkr hvr
      have q0 := gb_cell hg lr hne6 r0
      have q1 := gb_cell hg lr hne6 r1
      have x0 := (World.frozen?_of_block (hg.block w.heap.size lr (by simpa using hne6))).trans f0
      have x1 := (World.frozen?_of_block (hg.block w.heap.size lr (by simpa using hne6))).trans f1
      have hIr : RInv wr base R l a nv av := ⟨(hg.block R (HI2.out.lt) (by simpa using hR6)).trans HI2.out.blk, gb_row HI2.out.names hg HN2.out, gb_row HI2.out.added hg HA2.out, HI2.out.hR⟩
      have hwr : Below w.heap.size w wr := HW2.out.grown hg (by omega) (fun k e => by cases e; exact lb6)
      have HBL := Lib.hid hbl; have HIR := Lib.hid hIr; have HVR := Lib.hid hvr; have HG := Lib.hid hg; have HWR := Lib.hid hwr
      have lb6r : b6 < wr.heap.size := Nat.lt_of_lt_of_le lw2 hg.size
      have lrr : w.heap.size < wr.heap.size := Nat.lt_of_lt_of_le lr hg.size
      clear hbl hIr hvr hg r0 r1 f0 f1 bk hwr
      by_cases hlt : k < L.length
      · obtain ⟨b, off, hao, lb, hb6, d0⟩ := HL6.out k hlt
        have d0 := gb_cell HG.out lb hb6 d0
        have lbr : b < wr.heap.size := Nat.lt_of_lt_of_le lb HG.out.size
        subst hao
        have hfail := fun h => bunL_fail hlt HBL.out h
        have hmore := bunL_at hlt HBL.out
        have hst := stepB_is l hl (p, m) HVR.out L[k]
        have hxl := HSZ.out L[k] (List.getElem_mem hlt)
        have HFAIL := Lib.hid hfail; have HMORE := Lib.hid hmore
        clear hfail hmore HL6
        generalize L[k] = x at *
        clear hR
        rcases hst with ⟨hx0, hs⟩ | ⟨hx0, c, hc, hst⟩
        · have g1 : decide ((x.size : Int) < 1) = true := decide_eq_true (by omega)
          have g2 : decide (x.size < 1) = true := decide_eq_true (by omega)
          clear HMORE
          have hV0 : V = .tuple #[.agg #[.int .u32 0, .int .u32 0], .int .i64 10] := by rw [HVV.out, HFAIL.out hs]; rfl
          have HV0 := Lib.hid hV0
          have hwf := HWR.out
          clear hV0
          go_wp2_with fail
          have z0 : ((wr.setCell ⟨w.heap.size, 0, none⟩ (.int .u32 0)).setCell ⟨w.heap.size, 1, none⟩ (.int .u32 0)).cell? ⟨w.heap.size, 0, none⟩ = some (.int .u32 0) := by go_cell
          have z1 : ((wr.setCell ⟨w.heap.size, 0, none⟩ (.int .u32 0)).setCell ⟨w.heap.size, 1, none⟩ (.int .u32 0)).cell? ⟨w.heap.size, 1, none⟩ = some (.int .u32 0) := by go_cell
          refine bodyPost_ret (v := V) ?_ rfl ⟨rfl, (hwf.setCell (p := ⟨w.heap.size, 0, none⟩) (Nat.le_refl _) _).setCell (p := ⟨w.heap.size, 1, none⟩) (Nat.le_refl _) _⟩
          rw [HV0.out]
          simp [results, Try.results30, go_sem, z0, z1]
        · have g1 : decide ((x.size : Int) < 1) = false := decide_eq_false (by omega)
          have g2 : decide (x.size < 1) = false := decide_eq_false (by omega)
          have hxl0 : 0 < x.data.toList.length := by rw [len_list]; exact hx0
          have hcx : x.data.toList[0] = c := by rw [← hc, List.getD_eq_getElem?_getD, List.getElem?_eq_getElem hxl0]; rfl
          have hb : ∀ h, x[0]'h = c := by intro h; exact hcx
          have hx1 : 1 ≤ x.size := hx0
          clear hc hcx hxl0
          obtain ⟨y, hy⟩ : ∃ y, x.extract 1 x.size = y := ⟨_, rfl⟩
          have hfeat := rfeat_any HIR.out HD.out hl (x.extract 1 x.size)
          rcases hst with ⟨h43, h45, hs⟩ | ⟨hc, hst⟩
          · have n1 : ((c.toNat : Int) == 43) = false := by
              rw [Bool.eq_false_iff]; intro e
              have := beq_iff_eq.1 e
              exact h43 (UInt8.toNat_inj.1 (by have e2 : (43 : UInt8).toNat = 43 := rfl; omega))
            have n2 : ((c.toNat : Int) == 45) = false := by
              rw [Bool.eq_false_iff]; intro e
              have := beq_iff_eq.1 e
              exact h45 (UInt8.toNat_inj.1 (by have e2 : (45 : UInt8).toNat = 45 := rfl; omega))
            have n3 : ((c.toNat : Int) != 43) = true := by unfold bne; rw [n1]; rfl
            have n4 : ((c.toNat : Int) != 45) = true := by unfold bne; rw [n2]; rfl
            clear HMORE hfeat h43 h45
            have hV0 : V = .tuple #[.agg #[.int .u32 0, .int .u32 0], .int .i64 10] := by rw [HVV.out, HFAIL.out hs]; rfl
            have HV0 := Lib.hid hV0
            have hwf := HWR.out
            clear hV0
            go_wp2_with fail
            have z0 : ((wr.setCell ⟨w.heap.size, 0, none⟩ (.int .u32 0)).setCell ⟨w.heap.size, 1, none⟩ (.int .u32 0)).cell? ⟨w.heap.size, 0, none⟩ = some (.int .u32 0) := by go_cell
            have z1 : ((wr.setCell ⟨w.heap.size, 0, none⟩ (.int .u32 0)).setCell ⟨w.heap.size, 1, none⟩ (.int .u32 0)).cell? ⟨w.heap.size, 1, none⟩ = some (.int .u32 0) := by go_cell
            refine bodyPost_ret (v := V) ?_ rfl ⟨rfl, (hwf.setCell (p := ⟨w.heap.size, 0, none⟩) (Nat.le_refl _) _).setCell (p := ⟨w.heap.size, 1, none⟩) (Nat.le_refl _) _⟩
            rw [HV0.out]
            simp [results, Try.results30, go_sem, z0, z1]
          · rcases hst with ⟨hf, hs⟩ | ⟨j, hj, hf, hst⟩
            · obtain ⟨e1, e2⟩ := feat_none hf
              rw [e1, e2] at hfeat
              have HFE := Lib.hid hfeat; have HS := Lib.hid hs
              clear hfeat e1 e2 hf hs HMORE hy
              rcases hc with rfl | rfl
              all_goals (
                go_wp2_with fail
                go_at_call 19
                refine Gives.then HFE.out ?_
                intro w3 hb3
                have q0 := (hb3.cell (p := ⟨w.heap.size, 0, none⟩) lrr).trans q0
                have q1 := (hb3.cell (p := ⟨w.heap.size, 1, none⟩) lrr).trans q1
                have x0 := (hb3.frozen (p := ⟨w.heap.size, 0, none⟩) lrr).trans x0
                have x1 := (hb3.frozen (p := ⟨w.heap.size, 1, none⟩) lrr).trans x1
                have bkr := (hb3.block b6 lb6r).trans bkr
                have d0 := (hb3.cell (p := ⟨b, off + k, none⟩) lbr).trans d0
                have lrr := Nat.lt_of_lt_of_le lrr hb3.size
                have lb6r := Nat.lt_of_lt_of_le lb6r hb3.size
                have lbr := Nat.lt_of_lt_of_le lbr hb3.size
                have HG := Lib.hid (gb_below HG.out hb3)
                have HWR := Lib.hid (HWR.out.trans (hb3.mono HWR.out.size))
                clear hb3
                clear HFE
                have hV0 : V = .tuple #[.agg #[.int .u32 0, .int .u32 0], .int .i64 10] := by rw [HVV.out, HFAIL.out HS.out]; rfl
                have HV0 := Lib.hid hV0
                have hwf := HWR.out
                clear hV0
                go_wp2_with fail
                have z0 : ((w3.setCell ⟨w.heap.size, 0, none⟩ (.int .u32 0)).setCell ⟨w.heap.size, 1, none⟩ (.int .u32 0)).cell? ⟨w.heap.size, 0, none⟩ = some (.int .u32 0) := by go_cell
                have z1 : ((w3.setCell ⟨w.heap.size, 0, none⟩ (.int .u32 0)).setCell ⟨w.heap.size, 1, none⟩ (.int .u32 0)).cell? ⟨w.heap.size, 1, none⟩ = some (.int .u32 0) := by go_cell
                refine bodyPost_ret (v := V) ?_ rfl ⟨rfl, (hwf.setCell (p := ⟨w.heap.size, 0, none⟩) (Nat.le_refl _) _).setCell (p := ⟨w.heap.size, 1, none⟩) (Nat.le_refl _) _⟩
                rw [HV0.out]
                simp [results, Try.results30, go_sem, z0, z1])
            · obtain ⟨e1, e2⟩ := feat_some hf
              rw [e1, e2] at hfeat
              have hget := fun W => rget_ok p m j HVR.out hj W
              rcases hst with ⟨hg0, hs⟩ | ⟨hg0, v, hv, hs, hv2⟩
              · have hz1 : (getV p m j == 0) = false := by rw [Bool.eq_false_iff]; intro e; exact hg0 (beq_iff_eq.1 e)
                have HFE := Lib.hid hfeat; have HS := Lib.hid hs; have HGT := Lib.hid hget
                clear hfeat e1 e2 hf hs HMORE hy hget hg0
                generalize getV p m j = gg at *
                have hz2 : (gg != 0) = true := by unfold bne; rw [hz1]; rfl
                rcases hc with rfl | rfl
                all_goals (
                  go_wp2_with fail
                  go_at_call 19
                  refine Gives.then HFE.out ?_
                  intro w3 hb3
                  have q0 := (hb3.cell (p := ⟨w.heap.size, 0, none⟩) lrr).trans q0
                  have q1 := (hb3.cell (p := ⟨w.heap.size, 1, none⟩) lrr).trans q1
                  have x0 := (hb3.frozen (p := ⟨w.heap.size, 0, none⟩) lrr).trans x0
                  have x1 := (hb3.frozen (p := ⟨w.heap.size, 1, none⟩) lrr).trans x1
                  have bkr := (hb3.block b6 lb6r).trans bkr
                  have d0 := (hb3.cell (p := ⟨b, off + k, none⟩) lbr).trans d0
                  have lrr := Nat.lt_of_lt_of_le lrr hb3.size
                  have lb6r := Nat.lt_of_lt_of_le lb6r hb3.size
                  have lbr := Nat.lt_of_lt_of_le lbr hb3.size
                  have HG := Lib.hid (gb_below HG.out hb3)
                  have HWR := Lib.hid (HWR.out.trans (hb3.mono HWR.out.size))
                  clear hb3
                  have y0 : w3.cell? ⟨b6, 0, none⟩ = some (.int .u32 (p.toNat : Int)) := cell_block bkr rfl
                  have y1 : w3.cell? ⟨b6, 1, none⟩ = some (.int .u32 (m.toNat : Int)) := cell_block bkr rfl
                  clear HFE
                  go_wp2_with fail
                  go_at_call 59
                  refine Gives.then (HGT.out _) ?_
                  intro w4 hb4
                  have q0 := (hb4.cell (p := ⟨w.heap.size, 0, none⟩) lrr).trans q0
                  have q1 := (hb4.cell (p := ⟨w.heap.size, 1, none⟩) lrr).trans q1
                  have x0 := (hb4.frozen (p := ⟨w.heap.size, 0, none⟩) lrr).trans x0
                  have x1 := (hb4.frozen (p := ⟨w.heap.size, 1, none⟩) lrr).trans x1
                  have bkr := (hb4.block b6 lb6r).trans bkr
                  have d0 := (hb4.cell (p := ⟨b, off + k, none⟩) lbr).trans d0
                  have lrr := Nat.lt_of_lt_of_le lrr hb4.size
                  have lb6r := Nat.lt_of_lt_of_le lb6r hb4.size
                  have lbr := Nat.lt_of_lt_of_le lbr hb4.size
                  have HG := Lib.hid (gb_below HG.out hb4)
                  have HWR := Lib.hid (HWR.out.trans (hb4.mono HWR.out.size))
                  clear hb4
                  clear HGT y0 y1
                  have hV0 : V = .tuple #[.agg #[.int .u32 0, .int .u32 0], .int .i64 10] := by rw [HVV.out, HFAIL.out HS.out]; rfl
                  have HV0 := Lib.hid hV0
                  have hwf := HWR.out
                  clear hV0
                  go_wp2_with fail
                  have z0 : ((w4.setCell ⟨w.heap.size, 0, none⟩ (.int .u32 0)).setCell ⟨w.heap.size, 1, none⟩ (.int .u32 0)).cell? ⟨w.heap.size, 0, none⟩ = some (.int .u32 0) := by go_cell
                  have z1 : ((w4.setCell ⟨w.heap.size, 0, none⟩ (.int .u32 0)).setCell ⟨w.heap.size, 1, none⟩ (.int .u32 0)).cell? ⟨w.heap.size, 1, none⟩ = some (.int .u32 0) := by go_cell
                  refine bodyPost_ret (v := V) ?_ rfl ⟨rfl, (hwf.setCell (p := ⟨w.heap.size, 0, none⟩) (Nat.le_refl _) _).setCell (p := ⟨w.heap.size, 1, none⟩) (Nat.le_refl _) _⟩
                  rw [HV0.out]
                  simp [results, Try.results30, go_sem, z0, z1])
              · have hv3 : v = 1 ∨ v = 0 ∨ v = -1 := by
                  rw [hv]; split
                  · exact .inl rfl
                  · exact .inr (.inr rfl)
                have hwith := fun (W : World) => rwith_any p m (j : Int) v W
                rw [if_pos HVR.out, if_pos (by omega : (0 : Int) ≤ (j : Int) ∧ (j : Int) < 24), Int.toNat_natCast] at hwith
                unfold withV at hwith
                rw [if_pos hv3] at hwith
                simp only at hg0 hs hv2
                rw [hg0] at hget
                rw [hs] at HMORE
                generalize withP p j v = P at *
                generalize withM m j v = M at *
                have HFE := Lib.hid hfeat; have HGT := Lib.hid hget; have HWI := Lib.hid hwith; have HV2 := Lib.hid hv2
                clear hfeat e1 e2 hf hs hy hget hg0 hwith hv2 HFAIL HVV q0 q1 x0 x1 hv3
                rcases hc with rfl | rfl
                all_goals (
                  first
                    | (rw [if_pos rfl] at hv; subst hv)
                    | (rw [if_neg (by decide)] at hv; subst hv)
                  go_wp2_with fail
                  go_at_call 19
                  refine Gives.then HFE.out ?_
                  intro w3 hb3
                  have bkr := (hb3.block b6 lb6r).trans bkr
                  have d0 := (hb3.cell (p := ⟨b, off + k, none⟩) lbr).trans d0
                  have lb6r := Nat.lt_of_lt_of_le lb6r hb3.size
                  have lbr := Nat.lt_of_lt_of_le lbr hb3.size
                  have HG := Lib.hid (gb_below HG.out hb3)
                  have HWR3 := Lib.hid (HWR.out.trans (hb3.mono HWR.out.size))
                  clear hb3
                  have y0 : w3.cell? ⟨b6, 0, none⟩ = some (.int .u32 (p.toNat : Int)) := cell_block bkr rfl
                  have y1 : w3.cell? ⟨b6, 1, none⟩ = some (.int .u32 (m.toNat : Int)) := cell_block bkr rfl
                  clear HFE
                  go_wp2_with fail
                  go_at_call 59
                  refine Gives.then (HGT.out _) ?_
                  intro w4 hb4
                  have bkr := (hb4.block b6 lb6r).trans bkr
                  have d0 := (hb4.cell (p := ⟨b, off + k, none⟩) lbr).trans d0
                  have lb6r := Nat.lt_of_lt_of_le lb6r hb4.size
                  have lbr := Nat.lt_of_lt_of_le lbr hb4.size
                  have HG := Lib.hid (gb_below HG.out hb4)
                  clear hb4
                  have y0 : w4.cell? ⟨b6, 0, none⟩ = some (.int .u32 (p.toNat : Int)) := cell_block bkr rfl
                  have y1 : w4.cell? ⟨b6, 1, none⟩ = some (.int .u32 (m.toNat : Int)) := cell_block bkr rfl
                  clear HGT
                  go_wp2_with fail
                  go_at_call 60
                  refine Gives.then (HWI.out _) ?_
                  intro w5 hb5
                  have bkr := (hb5.block b6 lb6r).trans bkr
                  have d0 := (hb5.cell (p := ⟨b, off + k, none⟩) lbr).trans d0
                  have lb6r := Nat.lt_of_lt_of_le lb6r hb5.size
                  have lbr := Nat.lt_of_lt_of_le lbr hb5.size
                  have HG := Lib.hid (gb_below HG.out hb5)
                  clear hb5
                  have y0 : w5.cell? ⟨b6, 0, none⟩ = some (.int .u32 (p.toNat : Int)) := cell_block bkr rfl
                  have y1 : w5.cell? ⟨b6, 1, none⟩ = some (.int .u32 (m.toNat : Int)) := cell_block bkr rfl
                  have u0 : w5.frozen? ⟨b6, 0, none⟩ = false := frozen_block bkr
                  have u1 : w5.frozen? ⟨b6, 1, none⟩ = false := frozen_block bkr
                  have HBK := Lib.hid (block_set (o := 1) (v := .int .u32 (M.toNat : Int)) (block_set (o := 0) (v := .int .u32 (P.toNat : Int)) bkr))
                  clear HWI bkr
                  go_wp2_with fail
                  go_roundw
                  case rel => exact ⟨k + 1, (P, M), by omega, by go_num, HMORE.out, HV2.out, HBK.out, gb_set (gb_set HG.out)⟩
                  case measure => simp [intOf]; omega)
      · obtain rfl : k = L.length := by omega
        rw [List.take_length] at HBL
        have hV0 : V = .tuple #[.agg #[.int .u32 (p.toNat : Int), .int .u32 (m.toNat : Int)], .int .i64 0] := by rw [HVV.out, HBL.out]; rfl
        have HV0 := Lib.hid hV0
        have y0 : wr.cell? ⟨b6, 0, none⟩ = some (.int .u32 (p.toNat : Int)) := cell_block bkr rfl
        have y1 : wr.cell? ⟨b6, 1, none⟩ = some (.int .u32 (m.toNat : Int)) := cell_block bkr rfl
        clear hV0
        go_wp2_with fail
        have z0 : ((wr.setCell ⟨w.heap.size, 0, none⟩ (.int .u32 (p.toNat : Int))).setCell ⟨w.heap.size, 1, none⟩ (.int .u32 (m.toNat : Int))).cell? ⟨w.heap.size, 0, none⟩ = some (.int .u32 (p.toNat : Int)) := by go_cell
        have z1 : ((wr.setCell ⟨w.heap.size, 0, none⟩ (.int .u32 (p.toNat : Int))).setCell ⟨w.heap.size, 1, none⟩ (.int .u32 (m.toNat : Int))).cell? ⟨w.heap.size, 1, none⟩ = some (.int .u32 (m.toNat : Int)) := by go_cell
        refine bodyPost_ret (v := V) ?_ rfl ⟨rfl, (HWR.out.setCell (p := ⟨w.heap.size, 0, none⟩) (Nat.le_refl _) _).setCell (p := ⟨w.heap.size, 1, none⟩) (Nat.le_refl _) _⟩
        rw [HV0.out]
        simp [results, Try.results30, go_sem, z0, z1]
end Go.Proofs.Ytmgikhldkebjbaa

/-
  InventoryBundles: the walk.
-/
namespace Go.Proofs.Ytmgikhldkebjbaa
open Go.RowKit Go.Shelf Go.Sort
theorem both_bundle {w : World} {base : Nat} {l : List ByteArray} {pv pr : Value} (h : Both w base l pv pr) (t : ByteArray) (ht : t.size ≤ 1000000000) : ∃ (x y e : Int), ∀ W, Below w.heap.size w W →
    Gives 29 #[pv, .string t] W (.tuple #[.agg #[.int .u32 x, .int .u32 y], .int .i64 e]) ∧ Gives 30 #[pr, .string t] W (.tuple #[.agg #[.int .u32 x, .int .u32 y], .int .i64 e]) := by
  rcases h with ⟨_, rfl, rfl⟩ | ⟨h0, B, R, nv, bf, bs, by_, rv, rfl, rfl, hI, hR⟩
  · exact ⟨0, 0, 1, fun W hb => ⟨no_bundle (noInv_nil W) t, rbundle_nil t W⟩⟩
  · have key : ∃ (x y e : Int), bunV (bunS l t) = .tuple #[.agg #[.int .u32 x, .int .u32 y], .int .i64 e] := by
      cases bunS l t with
      | none => exact ⟨_, _, _, rfl⟩
      | some s => exact ⟨_, _, _, rfl⟩
    obtain ⟨x, y, e, he⟩ := key
    refine ⟨x, y, e, fun W hb => ?_⟩
    have h1 := bundle_any (hI.below hb) (newE_len h0) t (by omega)
    have h2 := rbundle_any (hR.below hb) (newE_nodup h0) (newE_len h0) t ht
    rw [he] at h1 h2
    exact ⟨h1, h2⟩
set_option maxRecDepth 100000 in
set_option maxHeartbeats 8000000 in
theorem bundles_any (l : List ByteArray) (v : Value) (t : ByteArray) (w : World) (hx : ∀ x ∈ l, x.size ≤ maxLen) (ht : t.size ≤ 1000000000) (h : Ss w v l) : Gives 5 #[v, .string t] w (.bool true) := by
  unfold Gives
  have hb0 := (Below.refl w.heap.size w).alloc (Nat.le_refl _) (.cells #[.string t] 9)
  have hfew := few_some l [t] v (.slice (some ⟨w.heap.size, 0, none⟩) 1 1) _ (h.below hb0) (ss_one w t) hx (fun x hh => by
    obtain rfl : x = t := by simpa using hh
    unfold maxLen; omega)
  have hboth := fun (W : World) (hb : Below w.heap.size w W) => both_any l v W hx (h.below hb)
  obtain ⟨ao, cap, rfl, -, -, -⟩ := h.open
  have HF := Lib.hid hfew; have HBo := Lib.hid hboth
  clear hfew hboth h hx
  go_enter Try.func5, Try.ntmps5
  go_wp2_with fail
  go_at_call 13
  refine HF.out.mono ?_
  rintro e w1 ⟨F, rfl, hF, hb⟩
  have hw := hb0.trans (hb.mono hb0.size)
  clear hb hb0 HF hF
  cases F
  · go_wp2_with (go_at_call 14; refine Gives.then (works_any _) ?_; intro w2 hb2)
    go_returns
    exact ⟨rfl, hw.trans (hb2.mono hw.size)⟩
  · go_wp2_with fail
    go_at_call 16
    refine (HBo.out w1 hw).mono ?_
    rintro e w3 ⟨hb3, pv, pr, rfl, hBB⟩
    have hw3 := hw.trans (hb3.mono hw.size)
    obtain ⟨x, y, e, hbu⟩ := both_bundle hBB t ht
    obtain ⟨⟨qv, rfl⟩, ⟨qr, rfl⟩⟩ := hBB.ptrs
    have HBU := Lib.hid hbu; have HW3 := Lib.hid hw3
    clear hb3 hBB hbu hw3 hw HBo
    go_wp2_with fail
    go_at_call 29
    refine Gives.then (HBU.out w3 (Below.refl _ _)).1 ?_
    intro w4 hb4
    have hz4 := hb4.size
    have HB4 := Lib.hid (hb4.alloc hz4 (.cells #[.int .u32 x, .int .u32 y] 39))
    clear hb4
    go_wp2_with fail
    go_at_call 30
    refine Gives.then (HBU.out _ HB4.out).2 ?_
    intro w5 hb5
    have r0 := (hb5.cell (p := ⟨w4.heap.size, 0, none⟩) (by simp)).trans (cell_block (World.alloc_heap_new w4 _) rfl)
    have r1 := (hb5.cell (p := ⟨w4.heap.size, 1, none⟩) (by simp)).trans (cell_block (World.alloc_heap_new w4 _) rfl)
    have lw5 : w4.heap.size < w5.heap.size := by have := hb5.size; rw [World.size_alloc] at this; omega
    have HB5 := Lib.hid (HB4.out.trans (hb5.mono HB4.out.size))
    have s0 := fun X => cell_past (X := X) lw5 r0
    have s1 := fun X => cell_past (X := X) lw5 r1
    have hz5 := HB5.out.size
    clear hb5 HB4 HBU
    go_wp2_with (go_at_call 14; refine Gives.then (works_any _) ?_; intro w6 hb6)
    have hw5 := HW3.out.trans ((HB5.out.alloc hz5 (.cells #[.int .u32 x, .int .u32 y] 39)).mono HW3.out.size)
    go_returns
    exact ⟨rfl, hw5.trans (hb6.mono hw5.size)⟩
end Go.Proofs.Ytmgikhldkebjbaa
