/-
  Lemmas that the theorem of this claim rests on: 3 texts, one behind the other.
-/
import Derived.Test.YtmgikhldkebjbaaM5

/-
  Lists of named sounds: copies of one's own, and their comparison.
-/
namespace Go.Proofs.Ytmgikhldkebjbaa
open Go.RowKit Go.Sort
theorem flatN_cells {w : World} {b : Nat} : ∀ (ys : List (ByteArray × Snd)) (off : Nat), (∀ i (h : i < ys.length), w.cell? ⟨b, off + i * 3, none⟩ = some (.string ys[i].1) ∧ w.cell? ⟨b, off + i * 3 + 1, none⟩ = some (.int .u32 (ys[i].2.1.toNat : Int)) ∧ w.cell? ⟨b, off + i * 3 + 2, none⟩ = some (.int .u32 (ys[i].2.2.toNat : Int))) → ∀ j u, (flatN ys)[j]? = some u → w.cell? ⟨b, off + j, none⟩ = some u
  | [], _, _, j, u, h => by simp [flatN] at h
  | y :: ys, off, hc, j, u, h => by
    obtain ⟨c0, c1, c2⟩ := hc 0 (by simp)
    simp only [Nat.zero_mul, Nat.add_zero, List.getElem_cons_zero] at c0 c1 c2
    simp only [flatN] at h
    match j, h with
    | 0, h => cases h; exact c0
    | 1, h => cases h; exact c1
    | 2, h => cases h; exact c2
    | j + 3, h =>
      have h : (flatN ys)[j]? = some u := h
      have := flatN_cells ys (off + 3) (fun i hi => by
        have := hc (i + 1) (by simpa using hi)
        simp only [List.getElem_cons_succ] at this
        rw [show off + (i + 1) * 3 = off + 3 + i * 3 from by omega] at this
        exact this) j u h
      rw [show off + (j + 3) = off + 3 + j from by omega]
      exact this
theorem flatN_one : ∀ (l : List (ByteArray × Snd)), ∀ u ∈ flatN l, u.oneCell' = true
  | [], u, h => by cases h
  | x :: l, u, h => by
    simp only [flatN, List.mem_cons] at h
    rcases h with rfl | rfl | rfl | h
    · rfl
    · rfl
    · rfl
    · exact flatN_one l u h
theorem wpList_appNs {ops : Array Oper} {rest : List Oper} {o : Oper} {a : Act} {w : World} {Q : Exit → Act → World → Prop} (hgd : o.guard = none) (s x : Operand)
    (ho : o.op = .call { callee := .builtin .append, args := #[s, x], argTypes := #[46, 46] })
    (base : Nat) (v u : Value) (xs ys : List (ByteArray × Snd)) (hs : a.eval s = v) (hx : a.eval x = u) (hown : OwnN w base v xs) (hw : Sp w u ys) (hlen : xs.length + ys.length ≤ 1000000000) (hbase : base ≤ w.heap.size)
    (h : ∀ v' w', OwnN w' base v' (xs ++ ys) → w.grownBy w' v.ownBlock → wpList Try.prog ops Q rest (a.put o.dst v') w') : wpList Try.prog ops Q (o :: rest) a w := by
  obtain ⟨i, hi, hz, hs1, hb1⟩ := info_parts infoNamed
  rcases hw with ⟨rfl, rfl⟩ | ⟨b, off, cap, rfl, hc, hm, hb, h3⟩
  · refine wpList_append_own_none hgd s x 46 ho base _ i 3 Try.underlying46 hi v xs.length (flatN xs) hs hown hx ?_
    exact h v w (by rw [List.append_nil]; exact hown) ⟨rfl, rfl, rfl, Nat.le_refl _, fun _ _ _ => rfl⟩
  · refine wpList_append_own w hgd s x 46 ho base _ i _ 3 24 Try.underlying46 hi hz hs1 hb1 rfl (by decide) v xs.length (flatN xs) hs hown ⟨b, off, none⟩ ys.length cap (flatN ys) hx (flatN_length ys) ?_ (flatN_one ys) (Nat.le_trans hlen (by decide)) (by omega) hbase ?_
    · intro j y hy
      rw [addr_addS]
      exact flatN_cells ys off h3 j y hy
    · intro v' w' ho' hg _
      refine h v' w' ?_ hg
      unfold OwnN
      rw [flatN_append, List.length_append]
      exact ho'
theorem OwnN.empty (w : World) : OwnN (w.alloc (.cells #[] 47)) w.heap.size (.slice (some ⟨w.heap.size, 0, none⟩) 0 0) [] :=
  ⟨rfl, .inr ⟨w.heap.size, 0, #[], rfl, Nat.le_refl _, World.alloc_heap_new w _, by simp, by simp, by simp, by simp [flatN]⟩⟩
set_option maxHeartbeats 1000000 in
theorem cloneN_any (l : List (ByteArray × Snd)) (v : Value) (w : World) (hl : l.length ≤ 1000000) (h : Sp w v l) : Calls Try.prog 54 #[v] w fun e w' => ∃ v', e = .returned v' ∧ OwnN w' w.heap.size v' l ∧ Below w.heap.size w w' := by
  have hnil := fun (w : World) (ao : Option Addr) (n c : Nat) => Lib.run_eql_slice_nil (P := Try.prog) w 46 47 ao n c 0 0 Try.underlying46
  have h' := h
  rcases h with ⟨rfl, rfl⟩ | ⟨b, off, cap, rfl, hx⟩
  · go_enter Try.func54, Try.ntmps54
    go_wp2
    go_returns
    exact ⟨_, rfl, ⟨rfl, .inl ⟨rfl, rfl⟩⟩, by go_grown⟩
  · have HW := Lib.hid h'; clear h' hx
    have HL := Lib.hid hl; clear hl
    have ho1 := OwnN.empty w
    go_enter Try.func54, Try.ntmps54
    go_wp2_with (at_builtin; refine wpList_appNs rfl (.tmp 5) (.tmp 6) rfl w.heap.size _ _ [] l rfl rfl ho1 (HW.out.below ((Below.refl _ w).alloc (Nat.le_refl _) _)) (by have := HL.out; simp; omega) (by go_size) ?_; intro v' w2 ho2 hg2; have hw2 := ((Below.refl w.heap.size w).alloc (Nat.le_refl _) (.cells #[] 47)).grown hg2 (by rw [World.size_alloc]; omega) (fun q e => by cases e; exact Nat.le_refl _))
    go_returns
    exact ⟨_, rfl, ho2, hw2⟩
theorem named_equal (k : ByteArray) (p m : Int) (w : World) : (Op.equal 47 (.agg #[.string k, .int .u32 p, .int .u32 m]) (.agg #[.string k, .int .u32 p, .int .u32 m])).run Try.prog w = .ok true w := by
  show (Op.equalIn 10000 _ _ _).run _ _ = _
  simp [go_sem]
theorem run_neqN (k : ByteArray) (p m : Int) (w : World) : (binOp .neq 47 (.agg #[.string k, .int .u32 p, .int .u32 m]) (.agg #[.string k, .int .u32 p, .int .u32 m])).run Try.prog w = .ok (.bool false) w := by
  simp only [binOp]
  simp [named_equal]
end Go.Proofs.Ytmgikhldkebjbaa

/-
  Lists of named sounds that are the same; Sounds; what grown's inventory holds.
-/
namespace Go.Proofs.Ytmgikhldkebjbaa
open Go.RowKit Go.Sort
theorem eqlY (a b c d : Int) (w : World) : (binOp .eql 39 (.agg #[.int .u32 a, .int .u32 b]) (.agg #[.int .u32 c, .int .u32 d])).run Try.prog w = .ok (.bool (a == c && b == d)) w := by
  simp only [binOp]
  simp [snd_equal]
theorem neqY (a b c d : Int) (w : World) : (binOp .neq 39 (.agg #[.int .u32 a, .int .u32 b]) (.agg #[.int .u32 c, .int .u32 d])).run Try.prog w = .ok (.bool (!(a == c && b == d))) w := by
  simp only [binOp]
  simp [snd_equal]
section
attribute [local go_sem ↓] run_neqN
set_option maxRecDepth 100000 in
set_option maxHeartbeats 4000000 in
theorem eqN_same (xs : List (ByteArray × Snd)) (v u : Value) (w : World) (h1 : Sp w v xs) (h2 : Sp w u xs) : Gives 26 #[v, u] w (.bool true) := by
  unfold Gives
  obtain ⟨ao, cap, rfl, c1, m1, H1⟩ := h1.open
  obtain ⟨bo, cap', rfl, c2, m2, H2⟩ := h2.open
  unfold maxLen at m1 m2
  have l1 : xs.length ≤ 9223372036854775807 := by omega
  clear h1 h2 c1 m1 c2 m2
  have H1 := Lib.hid H1; have H2 := Lib.hid H2
  go_enter Try.func26, Try.ntmps26
  go_wp2_with fail
  go_loopw [13] (fun i wr => ∃ k : Nat, k ≤ xs.length ∧ i = .int .i64 (k : Int) ∧ Below w.heap.size w wr) (fun i _ => xs.length - (intOf i).toNat)
  case atStart => exact ⟨0, by omega, rfl, Below.refl _ _⟩
  case round =>
    obtain ⟨k, hk, rfl, hw⟩ := hrel
    by_cases hlt : k < xs.length
    · obtain ⟨b, off, hao, lb, d0, d1, d2⟩ := H1.out k hlt
      obtain ⟨b', off', hbo, lb', e0, e1, e2⟩ := H2.out k hlt
      have d0 := (hw.cell (p := ⟨b, _, none⟩) lb).trans d0
      have d1 := (hw.cell (p := ⟨b, _, none⟩) lb).trans d1
      have d2 := (hw.cell (p := ⟨b, _, none⟩) lb).trans d2
      have e0 := (hw.cell (p := ⟨b', _, none⟩) lb').trans e0
      have e1 := (hw.cell (p := ⟨b', _, none⟩) lb').trans e1
      have e2 := (hw.cell (p := ⟨b', _, none⟩) lb').trans e2
      have HW := Lib.hid hw
      subst hao; subst hbo
      clear H1 H2 hw
      generalize xs[k] = x at *
      obtain ⟨sy, p, m⟩ := x
      simp only at d0 d1 d2 e0 e1 e2
      go_wp2_with fail
      go_quiet (fail)
      have HW2 := Lib.hid (below_drewN HW.out nq)
      clear HW d0 e0 d1 e1 d2 e2
      generalize wr.drewN nq = wd at *
      go_wp2_with fail
      go_roundw
      case rel => exact ⟨k + 1, by omega, by go_num, HW2.out⟩
      case measure => simp [intOf]; omega
    · obtain rfl : k = xs.length := by omega
      go_wp2_with fail
      go_returns
      exact ⟨rfl, hw⟩
end
theorem sounds_any {w : World} {base B : Nat} {l : List ByteArray} {a : List (ByteArray × Snd)} {nv av : Value} {bf bs by_ : Nat} (h : Inv w base B l a nv av bf bs by_) (ha : a.length ≤ 256) : Calls Try.prog 27 #[.pointer (some ⟨B, 0, none⟩)] w fun e w' => ∃ v', e = .returned v' ∧ OwnN w' w.heap.size v' a ∧ Below w.heap.size w w' := by
  have hv := valid_yes B w h.cells.1
  have hcl := fun (W : World) (hb : Below w.heap.size w W) => cloneN_any a av W (by omega) (h.below hb).added.sp
  obtain ⟨ao, ac, hnv⟩ := h.added.slice
  subst hnv
  have hc := fun (W : World) (hb : Below w.heap.size w W) => (h.below hb).cells.2.2.2.1
  have HV := Lib.hid hv; have HCL := Lib.hid hcl; have HC := Lib.hid hc
  clear h hv hcl hc
  go_enter Try.func27, Try.ntmps27
  go_wp2_with fail
  go_at_call 44
  refine Gives.then HV.out ?_
  intro w1 hb
  have c1 := HC.out w1 hb
  have HB := Lib.hid hb
  clear hb
  go_wp2_with fail
  go_at_call 54
  refine (HCL.out w1 HB.out).mono ?_
  rintro e w2 ⟨v2, rfl, ho, hb2⟩
  obtain ⟨a2, c2, rfl⟩ := ho.slice
  have HO : Hid (OwnN w2 w.heap.size (.slice a2 a.length c2) a) := Lib.hid (ho.mono HB.out.size)
  have HW := Lib.hid (HB.out.trans (hb2.mono HB.out.size))
  clear ho hb2
  go_wp2_with fail
  go_returns
  exact ⟨_, rfl, HO.out, HW.out⟩
/-- No symbol twice, and no sound. -/
def Uniq (a : List (ByteArray × Snd)) : Prop := ∀ i j (h : i < j) (hj : j < a.length), (a[i]'(by omega)).1 ≠ a[j].1 ∧ (a[i]'(by omega)).2 ≠ a[j].2
theorem sndOf_not {a : List (ByteArray × Snd)} {k : ByteArray} (h : (sndOf a k).isSome = false) : ∀ x ∈ a, k ≠ x.1 := fun x hx e => by rw [sndOf_some ⟨x, hx, e⟩] at h; cases h
theorem symOf_not {a : List (ByteArray × Snd)} {s : Snd} (h : (symOf a s).isSome = false) : ∀ x ∈ a, s ≠ x.2 := fun x hx e => by rw [symOf_some ⟨x, hx, e⟩] at h; cases h
theorem addE_new {l : List ByteArray} {a : List (ByteArray × Snd)} {k : ByteArray} {s : Snd} (h : addE l a k s = 0) : (sndOf a k).isSome = false ∧ (symOf a s).isSome = false := by
  unfold addE at h
  split at h
  · cases h
  · split at h
    · cases h
    · split at h
      · cases h
      · rename_i h3
        cases h1 : (sndOf a k).isSome <;> cases h2 : (symOf a s).isSome <;> simp [h1, h2] at h3 ⊢
theorem grw_uniq : ∀ (l a : List (ByteArray × Snd)), Uniq a → Uniq (grw a l)
  | [], _, h => h
  | x :: l, a, h => by
    simp only [grw]
    refine grw_uniq l _ ?_
    split
    · rename_i h0
      obtain ⟨n1, n2⟩ := addE_new h0
      intro i j hij hj
      rw [List.length_append, List.length_singleton] at hj
      by_cases e : j < a.length
      · rw [List.getElem_append_left (show i < a.length by omega), List.getElem_append_left e]
        exact h i j hij e
      · have e2 : j = a.length := by omega
        subst e2
        rw [List.getElem_append_left (show i < a.length by omega), List.getElem_append_right (Nat.le_refl _)]
        simp only [Nat.sub_self, List.getElem_cons_zero]
        exact ⟨Ne.symm (sndOf_not n1 _ (List.getElem_mem _)), Ne.symm (symOf_not n2 _ (List.getElem_mem _))⟩
    · exact h
/-- A sound that is there is found. -/
theorem uniq_snd {a : List (ByteArray × Snd)} (h : Uniq a) {k : Nat} (hk : k < a.length) : sndOf a a[k].1 = some a[k].2 := by
  unfold sndOf
  have hf : (a.find? fun x => decide (a[k].1 = x.1)) = some a[k] := by
    rw [List.find?_eq_some_iff_getElem]
    refine ⟨by simp, k, hk, rfl, fun j hj => ?_⟩
    have := (h j k hj hk).1
    simpa using Ne.symm this
  rw [hf]; rfl
theorem uniq_sym {a : List (ByteArray × Snd)} (h : Uniq a) {k : Nat} (hk : k < a.length) : symOf a a[k].2 = some a[k].1 := by
  unfold symOf
  have hf : (a.find? fun x => decide (a[k].2 = x.2)) = some a[k] := by
    rw [List.find?_eq_some_iff_getElem]
    refine ⟨by simp, k, hk, rfl, fun j hj => ?_⟩
    have := (h j k hj hk).2
    simpa using Ne.symm this
  rw [hf]; rfl
theorem addE_have {l : List ByteArray} {a : List (ByteArray × Snd)} {k : ByteArray} {s : Snd} (h : ((sndOf a k).isSome || (symOf a s).isSome) = true) : addE l a k s ≠ 0 := fun h0 => by
  obtain ⟨h1, h2⟩ := addE_new h0
  rw [h1, h2] at h; cases h
theorem any_take {α : Type} {p : α → Bool} {l : List α} {k : Nat} (hk : k < l.length) : (l.take (k + 1)).any p = ((l.take k).any p || p l[k]) := by
  rw [List.take_succ_eq_append_getElem hk, List.any_append]; simp
theorem snd_any (a : List (ByteArray × Snd)) (k : ByteArray) : (sndOf a k).isSome = a.any fun x => decide (x.1 = k) := by
  unfold sndOf
  rw [Option.isSome_map, Bool.eq_iff_iff, List.find?_isSome, List.any_eq_true]
  simp [eq_comm]
theorem sym_any (a : List (ByteArray × Snd)) (s : Snd) : (symOf a s).isSome = a.any fun x => decide (x.2 = s) := by
  unfold symOf
  rw [Option.isSome_map, Bool.eq_iff_iff, List.find?_isSome, List.any_eq_true]
  simp [eq_comm]
end Go.Proofs.Ytmgikhldkebjbaa

/-
  InventoryFinds: the walk.
-/
namespace Go.Proofs.Ytmgikhldkebjbaa
open Go.RowKit Go.Sort
theorem add_no {w : World} {base B : Nat} {l : List ByteArray} {a : List (ByteArray × Snd)} {nv av : Value} {bf bs by_ : Nat} (h : Inv w base B l a nv av bf bs by_) (k : ByteArray) (s : Snd) (hk : k.size ≤ 9223372036854775807) (hl : l.length ≤ 24) (ha : a.length ≤ 256) (h0 : addE l a k s ≠ 0) : Gives 23 #[.pointer (some ⟨B, 0, none⟩), .string k, snv s] w (.int .i64 (addE l a k s)) :=
  (add_any h k s hk hl ha).mono fun e w' ⟨h1, h2⟩ => ⟨h1, h2.elim (fun h => h.2) (fun h => absurd h.1 h0)⟩
def FiR (a : List (ByteArray × Snd)) (k : ByteArray) (s : Snd) (w1 : World) (iv kv i : Value) (wr : World) : Prop :=
  ∃ q : Nat, q ≤ a.length ∧ i = .int .i64 (q : Int) ∧ iv = .bool ((a.take q).any fun x => decide (x.1 = k)) ∧ kv = .bool ((a.take q).any fun x => decide (x.2 = s)) ∧ Below w1.heap.size w1 wr
set_option maxRecDepth 100000 in
set_option maxHeartbeats 8000000 in
theorem finds_any (l : List (ByteArray × Snd)) (v : Value) (k : ByteArray) (s : Snd) (w : World) (hx : ∀ x ∈ l, x.1.size ≤ maxLen) (hk : k.size ≤ 9223372036854775807) (h : Sp w v l) : Gives 9 #[v, .string k, snv s] w (.bool true) := by
  unfold Gives
  obtain ⟨ps, ms⟩ := s
  unfold snv
  have hb0 := (Below.refl w.heap.size w).alloc (Nat.le_refl _) (.cells #[.int .u32 (ps.toNat : Int), .int .u32 (ms.toNat : Int)] 39)
  have hg := grown_any l v _ hx (h.below hb0)
  obtain ⟨ao, cap, rfl, -, -, -⟩ := h.open
  have HGr := Lib.hid hg; have HB0 := Lib.hid hb0
  clear hg h hx hb0
  go_enter Try.func9, Try.ntmps9
  go_wp2_with fail
  go_at_call 41
  refine HGr.out.mono ?_
  rintro e w1 ⟨B, nv, av, bf, bs, by_, hv, rfl, hI, hO, -, hw1⟩
  have hun := grw_uniq (l.take 300) [] (fun i j _ hj => by simp at hj)
  have hsy := grw_sym (l.take 300) [] (fun x h => by cases h)
  have hgl := grw_len (l.take 300) [] (by decide)
  generalize grw [] (l.take 300) = a at *
  obtain ⟨hoa, hcap, rfl⟩ := hO.slice
  have hsp := hO.sp
  obtain ⟨_, _, hv2, hle2, hm2, hcells⟩ := hsp.open
  cases hv2
  unfold maxLen at hm2
  have l1 : a.length ≤ 9223372036854775807 := by omega
  have hbx : w1.heap[w.heap.size]? = some (.cells #[.int .u32 (ps.toNat : Int), .int .u32 (ms.toNat : Int)] 39 (0, 0)) := (hw1.block w.heap.size (by rw [World.size_alloc]; omega)).trans (World.alloc_heap_new w _)
  have lw1 : w.heap.size < w1.heap.size := (Array.getElem?_eq_some_iff.1 hbx).1
  have hw1 : Below w.heap.size w w1 := HB0.out.trans (hw1.mono HB0.out.size)
  have hnl : (nmL 24).length ≤ 24 := by rw [nmL_len]; omega
  have hS : ∀ q (hq : q < a.length) (W : World), Below w1.heap.size w1 W → Gives 33 #[.pointer (some ⟨B, 0, none⟩), .string a[q].1] W (.tuple #[snv a[q].2, .bool true]) := fun q hq W hb => by
    have h := sound_any (hI.below hb) a[q].1
    rw [uniq_snd hun hq] at h
    exact h
  have hY : ∀ q (hq : q < a.length) (W : World), Below w1.heap.size w1 W → Gives 34 #[.pointer (some ⟨B, 0, none⟩), snv a[q].2] W (.tuple #[.string a[q].1, .bool true]) := fun q hq W hb => by
    have h := symbol_any (hI.below hb) a[q].2
    rw [uniq_sym hun hq] at h
    exact h
  have hA1 : ∀ q (hq : q < a.length), ∃ E : Int, E ≠ 0 ∧ ∀ (W : World), Below w1.heap.size w1 W → Gives 23 #[.pointer (some ⟨B, 0, none⟩), .string a[q].1, snv (ps, ms)] W (.int .i64 E) := fun q hq => by
    have h0 : addE (nmL 24) a a[q].1 (ps, ms) ≠ 0 := addE_have (by rw [uniq_snd hun hq]; rfl)
    exact ⟨_, h0, fun W hb => add_no (hI.below hb) _ _ (by have := (isSym_size (hsy a[q] (List.getElem_mem hq))).2; omega) hnl hgl h0⟩
  have hA2 : ∀ q (hq : q < a.length), ∃ E : Int, E ≠ 0 ∧ ∀ (W : World), Below w1.heap.size w1 W → Gives 23 #[.pointer (some ⟨B, 0, none⟩), .string k, snv a[q].2] W (.int .i64 E) := fun q hq => by
    have h0 : addE (nmL 24) a k a[q].2 ≠ 0 := addE_have (by rw [uniq_sym hun hq]; simp)
    exact ⟨_, h0, fun W hb => add_no (hI.below hb) _ _ hk hnl hgl h0⟩
  have hS2 : ∀ (W : World), Below w1.heap.size w1 W → ∃ x y : Int, Gives 33 #[.pointer (some ⟨B, 0, none⟩), .string k] W (.tuple #[.agg #[.int .u32 x, .int .u32 y], .bool (a.any fun x => decide (x.1 = k))]) := fun W hb => by
    have h := sound_any (hI.below hb) k
    rw [snd_any] at h
    exact ⟨_, _, h⟩
  have hY2 : ∀ (W : World), Below w1.heap.size w1 W → ∃ t : ByteArray, Gives 34 #[.pointer (some ⟨B, 0, none⟩), .agg #[.int .u32 (ps.toNat : Int), .int .u32 (ms.toNat : Int)]] W (.tuple #[.string t, .bool (a.any fun x => decide (x.2 = (ps, ms)))]) := fun W hb => by
    have h := symbol_any (hI.below hb) (ps, ms)
    rw [sym_any] at h
    exact ⟨_, h⟩
  have hL : ∀ (W : World), Below w1.heap.size w1 W → Gives 22 #[.pointer (some ⟨B, 0, none⟩)] W (.int .i64 (a.length : Int)) := fun W hb => len_any (hI.below hb)
  have hSo := sounds_any hI hgl
  have HS := Lib.hid hS; have HY := Lib.hid hY; have HA1 := Lib.hid hA1; have HA2 := Lib.hid hA2; have HS2 := Lib.hid hS2; have HY2 := Lib.hid hY2; have HL := Lib.hid hL; have HSo := Lib.hid hSo
  have HUN := Lib.hid hun; have HCE := Lib.hid hcells; have HBX := Lib.hid hbx; have HW1 := Lib.hid hw1; have HSP := Lib.hid hsp; have HSY := Lib.hid hsy
  clear hS hY hA1 hA2 hS2 hY2 hL hSo hun hcells hbx hw1 hsp hsy hI hO HGr HB0 hm2
  have k256 : decide (256 < a.length) = false := decide_eq_false (by omega)
  have k256' : decide ((256 : Int) < (a.length : Int)) = false := decide_eq_false (by omega)
  go_wp2_with fail
  go_at_call 27
  refine HSo.out.mono ?_
  rintro e w2 ⟨v2, rfl, ho2, hb2⟩
  obtain ⟨o2, p2, hv2⟩ := ho2.slice
  subst hv2
  have HQ := Lib.hid (eqN_same a _ _ w2 ho2.sp (HSP.out.below hb2))
  have HW2 := Lib.hid hb2
  clear hb2 ho2 HSo
  go_wp2_with fail
  go_at_call 26
  refine Gives.then HQ.out ?_
  intro w3 hb3
  have HW3 := Lib.hid (HW2.out.trans (hb3.mono HW2.out.size))
  clear hb3 HQ
  go_wp2_with fail
  go_at_call 22
  refine Gives.then (HL.out _ HW3.out) ?_
  intro w4 hb4
  have HW4 := Lib.hid (HW3.out.trans (hb4.mono HW3.out.size))
  clear hb4
  go_wp2_with fail
  go_loopw [9, 10, 51] (fun iv kv i wr => FiR a k (ps, ms) w1 iv kv i wr) (fun _ _ i _ => a.length - (intOf i).toNat)
  case atStart => exact ⟨0, Nat.zero_le _, rfl, rfl, rfl, HW4.out⟩
  case round =>
    obtain ⟨q, hq, rfl, rfl, rfl, hwr⟩ := hrel
    have hbr := (hwr.block w.heap.size lw1).trans HBX.out
    have lwr : w.heap.size < wr.heap.size := Nat.lt_of_lt_of_le lw1 hwr.size
    by_cases hlt : q < a.length
    · obtain ⟨b, off, hao, lb, d0, d1, d2⟩ := HCE.out q hlt
      have d0 := (hwr.cell (p := ⟨b, _, none⟩) lb).trans d0
      have d1 := (hwr.cell (p := ⟨b, _, none⟩) lb).trans d1
      have d2 := (hwr.cell (p := ⟨b, _, none⟩) lb).trans d2
      have hs1 := HS.out q hlt
      have hy1 := HY.out q hlt
      obtain ⟨E1, hE1, ha1⟩ := HA1.out q hlt
      obtain ⟨E2, hE2, ha2⟩ := HA2.out q hlt
      have hu := fun q2 (h2 : q2 < q) => HUN.out q2 q h2 hlt
      have hat := any_take (p := fun x : ByteArray × Snd => decide (x.1 = k)) hlt
      have hat2 := any_take (p := fun x : ByteArray × Snd => decide (x.2 = (ps, ms))) hlt
      have hzr := hwr.size
      subst hao
      generalize hay : a[q] = y at *
      obtain ⟨sy, p, m⟩ := y
      simp only at d0 d1 d2 hs1 hy1 ha1 ha2 hu hat hat2
      unfold snv at hs1 hy1 ha1 ha2
      simp only at hs1 hy1 ha1 ha2
      have E1b : (E1 == 0) = false := by rw [Bool.eq_false_iff]; intro e; exact hE1 (beq_iff_eq.1 e)
      have E2b : (E2 == 0) = false := by rw [Bool.eq_false_iff]; intro e; exact hE2 (beq_iff_eq.1 e)
      have HS1 := Lib.hid hs1; have HY1 := Lib.hid hy1; have HAA := Lib.hid ha1; have HAB := Lib.hid ha2; have HU := Lib.hid hu; have HAT := Lib.hid hat; have HAT2 := Lib.hid hat2; have HWR := Lib.hid hwr; have HBR := Lib.hid hbr
      have hA := hwr.alloc hzr (.cells #[.string sy, .int .u32 (p.toNat : Int), .int .u32 (m.toNat : Int)] 47)
      have HWA := Lib.hid hA
      clear hs1 hy1 ha1 ha2 hu hat hat2 hwr hbr hA hay hE1 hE2 HS HY HA1 HA2
      generalize ((a.take q).any fun x => decide (x.1 = k)) = iv at *
      generalize ((a.take q).any fun x => decide (x.2 = (ps, ms))) = kv at *
      go_wp2_with fail
      go_at_call 33
      refine Gives.then (HS1.out _ HWA.out) ?_
      intro w5 hb5
      have B12 : w5.heap[wr.heap.size]? = some (.cells #[.string sy, .int .u32 (p.toNat : Int), .int .u32 (m.toNat : Int)] 47 (0, 0)) := (hb5.block wr.heap.size (by rw [World.size_alloc]; omega)).trans (World.alloc_heap_new wr _)
      have R5 : w5.heap[w.heap.size]? = _ := (hb5.block w.heap.size (by rw [World.size_alloc]; omega)).trans ((Below.heap_alloc wr _ w.heap.size lwr).trans HBR.out)
      have HW5 := Lib.hid (HWA.out.trans (hb5.mono HWA.out.size))
      have hz5 := HW5.out.size
      have l12 : wr.heap.size < w5.heap.size := (Array.getElem?_eq_some_iff.1 B12).1
      have l5 : w.heap.size < w5.heap.size := (Array.getElem?_eq_some_iff.1 R5).1
      have c1 := fun X => cell_past (X := X) l12 (cell_block (o := 1) (v := .int .u32 (p.toNat : Int)) B12 rfl)
      have c2 := fun X => cell_past (X := X) l12 (cell_block (o := 2) (v := .int .u32 (m.toNat : Int)) B12 rfl)
      have HB12 := Lib.hid B12; have HR5 := Lib.hid R5
      generalize wr.heap.size = b12 at *
      clear hb5 B12 R5 d0 d1 d2 HWA HWR HBR lwr hzr
      go_wp2_with fail
      go_at_call 34
      have hA := HW5.out.alloc hz5 (.cells #[.int .u32 (p.toNat : Int), .int .u32 (m.toNat : Int)] 39)
      refine Gives.then (HY1.out _ hA) ?_
      intro w6 hb6
      have B13 : w6.heap[w5.heap.size]? = some (.cells #[.int .u32 (p.toNat : Int), .int .u32 (m.toNat : Int)] 39 (0, 0)) := (hb6.block w5.heap.size (by rw [World.size_alloc]; omega)).trans (World.alloc_heap_new w5 _)
      have B12 : w6.heap[b12]? = _ := (hb6.block b12 (by rw [World.size_alloc]; omega)).trans ((Below.heap_alloc w5 _ b12 l12).trans HB12.out)
      have R6 : w6.heap[w.heap.size]? = _ := (hb6.block w.heap.size (by rw [World.size_alloc]; omega)).trans ((Below.heap_alloc w5 _ w.heap.size l5).trans HR5.out)
      have HW6 := Lib.hid (hA.trans (hb6.mono hA.size))
      clear hb6 hA c1 c2 HB12 HR5 l12 l5
      have c0 : w6.cell? ⟨b12, 0, none⟩ = some (.string sy) := cell_block B12 rfl
      have c1 : w6.cell? ⟨b12, 1, none⟩ = some (.int .u32 (p.toNat : Int)) := cell_block B12 rfl
      have c2 : w6.cell? ⟨b12, 2, none⟩ = some (.int .u32 (m.toNat : Int)) := cell_block B12 rfl
      have e0 : w6.cell? ⟨w5.heap.size, 0, none⟩ = some (.int .u32 (p.toNat : Int)) := cell_block B13 rfl
      have e1 : w6.cell? ⟨w5.heap.size, 1, none⟩ = some (.int .u32 (m.toNat : Int)) := cell_block B13 rfl
      have r0 : w6.cell? ⟨w.heap.size, 0, none⟩ = some (.int .u32 (ps.toNat : Int)) := cell_block R6 rfl
      have r1 : w6.cell? ⟨w.heap.size, 1, none⟩ = some (.int .u32 (ms.toNat : Int)) := cell_block R6 rfl
      have hnq := fun W => neqY (p.toNat : Int) (m.toNat : Int) (p.toNat : Int) (m.toNat : Int) W
      simp only [beq_self_eq_true, Bool.and_self, Bool.not_true] at hnq
      have HB12 := Lib.hid B12; have HR6 := Lib.hid R6
      have l12 : b12 < w6.heap.size := (Array.getElem?_eq_some_iff.1 B12).1
      have l6 : w.heap.size < w6.heap.size := (Array.getElem?_eq_some_iff.1 R6).1
      generalize w5.heap.size = b13 at *
      clear B12 R6 B13
      go_wp2_with fail
      go_at_call 23
      refine Gives.then (HAA.out _ HW6.out) ?_
      intro w7 hb7
      have B12 : w7.heap[b12]? = _ := (hb7.block b12 l12).trans HB12.out
      have R7 : w7.heap[w.heap.size]? = _ := (hb7.block w.heap.size l6).trans HR6.out
      have HW7 := Lib.hid (HW6.out.trans (hb7.mono HW6.out.size))
      have c0 : w7.cell? ⟨b12, 0, none⟩ = some (.string sy) := cell_block B12 rfl
      have c1 : w7.cell? ⟨b12, 1, none⟩ = some (.int .u32 (p.toNat : Int)) := cell_block B12 rfl
      have c2 : w7.cell? ⟨b12, 2, none⟩ = some (.int .u32 (m.toNat : Int)) := cell_block B12 rfl
      have l12 : b12 < w7.heap.size := (Array.getElem?_eq_some_iff.1 B12).1
      have l7 : w.heap.size < w7.heap.size := (Array.getElem?_eq_some_iff.1 R7).1
      have HB12 := Lib.hid B12; have HR7 := Lib.hid R7
      clear hb7 B12 R7 e0 e1 r0 r1 HR6 hnq
      go_wp2_with fail
      go_at_call 23
      refine Gives.then (HAB.out _ HW7.out) ?_
      intro w8 hb8
      have B12 : w8.heap[b12]? = _ := (hb8.block b12 l12).trans HB12.out
      have R8 : w8.heap[w.heap.size]? = _ := (hb8.block w.heap.size l7).trans HR7.out
      have HW8 := Lib.hid (HW7.out.trans (hb8.mono HW7.out.size))
      have l12 : b12 < w8.heap.size := (Array.getElem?_eq_some_iff.1 B12).1
      have l8 : w.heap.size < w8.heap.size := (Array.getElem?_eq_some_iff.1 R8).1
      have HB12 := Lib.hid B12; have HR8 := Lib.hid R8
      clear hb8 B12 R8 c0 c1 c2 HR7
      have hqc : q ≤ hcap := by omega
      go_wp2_with fail
      go_loopw [108] (fun i wi => ∃ q2 : Nat, q2 ≤ q ∧ i = .int .i64 (q2 : Int) ∧ Below w8.heap.size w8 wi) (fun i _ => q - (intOf i).toNat)
      case atStart => exact ⟨0, Nat.zero_le _, rfl, Below.refl _ _⟩
      case round =>
        obtain ⟨q2, hq2, rfl, hwi⟩ := hrel
        have B12 : wr.heap[b12]? = _ := (hwi.block b12 l12).trans HB12.out
        have R9 : wr.heap[w.heap.size]? = _ := (hwi.block w.heap.size l8).trans HR8.out
        have HWI := Lib.hid (HW8.out.trans (hwi.mono HW8.out.size))
        have hzi := hwi.size
        have l12i : b12 < wr.heap.size := (Array.getElem?_eq_some_iff.1 B12).1
        have c0 : wr.cell? ⟨b12, 0, none⟩ = some (.string sy) := cell_block B12 rfl
        have c1 : wr.cell? ⟨b12, 1, none⟩ = some (.int .u32 (p.toNat : Int)) := cell_block B12 rfl
        have c2 : wr.cell? ⟨b12, 2, none⟩ = some (.int .u32 (m.toNat : Int)) := cell_block B12 rfl
        by_cases hlt2 : q2 < q
        · have hl2 : q2 < a.length := by omega
          obtain ⟨b', off', hao, lb', z0, z1, z2⟩ := HCE.out q2 hl2
          cases hao
          have z0 := (HWI.out.cell (p := ⟨b, _, none⟩) lb').trans z0
          have z1 := (HWI.out.cell (p := ⟨b, _, none⟩) lb').trans z1
          have z2 := (HWI.out.cell (p := ⟨b, _, none⟩) lb').trans z2
          obtain ⟨u1, u2⟩ := HU.out q2 hlt2
          have HN := Lib.hid (hwi.alloc hzi (.cells #[.string a[q2].1, .int .u32 (a[q2].2.1.toNat : Int), .int .u32 (a[q2].2.2.toNat : Int)] 47))
          have s0 := fun X => cell_past (X := X) l12i c0
          have s1 := fun X => cell_past (X := X) l12i c1
          have s2 := fun X => cell_past (X := X) l12i c2
          clear hwi R9 B12 HCE HU
          generalize a[q2] = z at *
          obtain ⟨sz, pz, mz⟩ := z
          simp only at z0 z1 z2 u1 u2 HN
          have f1 : (sy.toList == sz.toList) = false := by rw [toList_beq]; exact decide_eq_false (Ne.symm u1)
          have f2 : (((p.toNat : Int) == (pz.toNat : Int)) && ((m.toNat : Int) == (mz.toNat : Int))) = false := by
            rw [Bool.eq_false_iff]
            intro e
            rw [Bool.and_eq_true, beq_iff_eq, beq_iff_eq] at e
            have h1 : pz = p := BitVec.eq_of_toNat_eq (by omega)
            have h2 : mz = m := BitVec.eq_of_toNat_eq (by omega)
            exact u2 (by rw [h1, h2])
          have f3 := fun W => eqlY (p.toNat : Int) (m.toNat : Int) (pz.toNat : Int) (mz.toNat : Int) W
          rw [f2] at f3
          clear u1 u2 f2
          go_wp2_with fail
          go_roundw
          case rel => exact ⟨q2 + 1, by omega, by go_num, HN.out⟩
          case measure => simp [intOf]; omega
        · obtain rfl : q2 = q := by omega
          have r0 : wr.cell? ⟨w.heap.size, 0, none⟩ = some (.int .u32 (ps.toNat : Int)) := cell_block R9 rfl
          have r1 : wr.cell? ⟨w.heap.size, 1, none⟩ = some (.int .u32 (ms.toNat : Int)) := cell_block R9 rfl
          have f1 : (sy.toList == k.toList) = decide (sy = k) := toList_beq _ _
          have f2 : (((p.toNat : Int) == (ps.toNat : Int)) && ((m.toNat : Int) == (ms.toNat : Int))) = decide ((p, m) = (ps, ms)) := by
            rw [Bool.eq_iff_iff, Bool.and_eq_true, beq_iff_eq, beq_iff_eq, decide_eq_true_iff, Prod.mk.injEq]
            constructor
            · rintro ⟨h1, h2⟩
              exact ⟨BitVec.eq_of_toNat_eq (by omega), BitVec.eq_of_toNat_eq (by omega)⟩
            · rintro ⟨rfl, rfl⟩
              exact ⟨rfl, rfl⟩
          have f3 := fun W => eqlY (p.toNat : Int) (m.toNat : Int) (ps.toNat : Int) (ms.toNat : Int) W
          rw [f2] at f3
          have hat := HAT.out; have hat2 := HAT2.out
          generalize decide (sy = k) = g1 at *
          generalize decide ((p, m) = (ps, ms)) = g2 at *
          have HAT := Lib.hid hat; have HAT2 := Lib.hid hat2
          clear f2 hwi R9 B12 HU hat hat2
          cases iv <;> cases kv
          all_goals (
            go_wp2_with fail
            go_quiet (fail)
            have HWD := Lib.hid (below_drewN HWI.out nq)
            clear HWI c0 c1 c2 r0 r1 f3 f1
            generalize wr.drewN nq = wd at *
            go_wp2_with fail
            refine ⟨?_, ?_⟩
            · exact ⟨q2 + 1, by omega, by go_num, by rw [HAT.out]; rfl, by rw [HAT2.out]; rfl, HWD.out⟩
            · simp [intOf]; omega)
    · obtain rfl : q = a.length := by omega
      rw [List.take_length]
      generalize (a.any fun x => decide (x.1 = k)) = iv at *
      generalize (a.any fun x => decide (x.2 = (ps, ms))) = kv at *
      have HWR := Lib.hid hwr
      have hzr := hwr.size
      have r0 : wr.cell? ⟨w.heap.size, 0, none⟩ = some (.int .u32 (ps.toNat : Int)) := cell_block hbr rfl
      have r1 : wr.cell? ⟨w.heap.size, 1, none⟩ = some (.int .u32 (ms.toNat : Int)) := cell_block hbr rfl
      obtain ⟨xs, ys, hsd⟩ := HS2.out _ hwr
      have HSD := Lib.hid hsd
      clear hwr hbr hsd hlt
      go_wp2_with fail
      go_at_call 33
      refine Gives.then HSD.out ?_
      intro w5 hb5
      have q0 := (hb5.cell (p := ⟨w.heap.size, 0, none⟩) lwr).trans r0
      have q1 := (hb5.cell (p := ⟨w.heap.size, 1, none⟩) lwr).trans r1
      have l5 := Nat.lt_of_lt_of_le lwr hb5.size
      have s0 := fun X => cell_past (X := X) l5 q0
      have s1 := fun X => cell_past (X := X) l5 q1
      have hw5 := HWR.out.trans (hb5.mono HWR.out.size)
      have HW5 := Lib.hid (hw5.alloc hw5.size (.cells #[.int .u32 xs, .int .u32 ys] 39))
      obtain ⟨t, hyd⟩ := HY2.out _ HW5.out
      have HYD := Lib.hid hyd
      clear hb5 r0 r1 hw5 hyd HSD
      go_wp2_with fail
      go_at_call 34
      refine Gives.then HYD.out ?_
      intro w6 hb6
      have HW6 := Lib.hid (HW5.out.trans (hb6.mono HW5.out.size))
      clear hb6 q0 q1 s0 s1 HYD
      go_wp2_with fail
      go_at_call 22
      refine Gives.then (HL.out _ HW6.out) ?_
      intro w7 hb7
      have HW7 := Lib.hid (HW6.out.trans (hb7.mono HW6.out.size))
      clear hb7
      go_wp2_with (go_at_call 14; refine Gives.then (works_any _) ?_; intro w8 hb8)
      go_returns
      exact ⟨rfl, (HW1.out.trans (HW7.out.mono HW1.out.size)).trans (hb8.mono (Nat.le_trans HW1.out.size HW7.out.size))⟩
end Go.Proofs.Ytmgikhldkebjbaa
