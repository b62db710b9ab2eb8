/-
  Lemmas that the theorem of this claim rests on: 9 texts, one behind the other.
-/
import Derived.Test.YtmgikhldkebjbaaM5
import Derived.Shelf.SlMaps.Clone
import Derived.Deep.RegionHeld3
import Derived.Lib.SliceRun

/-
  Lists of named sounds: copies of one's own, and their comparison.
-/
namespace Go.Proofs.Ytmgikhldkebjbaa
open Go.RowKit Go.Sort
theorem flatN_cells {w : World} {b : Nat} : ∀ (ys : List (ByteArray × Snd)) (off : Nat), (∀ i (h : i < ys.length), w.cell? ⟨b, off + i * 3, none⟩ = some (.string ys[i].1) ∧ w.cell? ⟨b, off + i * 3 + 1, none⟩ = some (.int .u32 (ys[i].2.1.toNat : Int)) ∧ w.cell? ⟨b, off + i * 3 + 2, none⟩ = some (.int .u32 (ys[i].2.2.toNat : Int))) → ∀ j u, (flatN ys)[j]? = some u → w.cell? ⟨b, off + j, none⟩ = some u
  | [], _, _, j, u, h => by simp [flatN] at h
  | y :: ys, off, hc, j, u, h => by
    obtain ⟨c0, c1, c2⟩ := hc 0 (by simp)
    simp only [Nat.zero_mul, Nat.add_zero, List.getElem_cons_zero] at c0 c1 c2
    simp only [flatN] at h
    match j, h with
    | 0, h => cases h; exact c0
    | 1, h => cases h; exact c1
    | 2, h => cases h; exact c2
    | j + 3, h =>
      have h : (flatN ys)[j]? = some u := h
      have := flatN_cells ys (off + 3) (fun i hi => by
        have := hc (i + 1) (by simpa using hi)
        simp only [List.getElem_cons_succ] at this
        rw [show off + (i + 1) * 3 = off + 3 + i * 3 from by omega] at this
        exact this) j u h
      rw [show off + (j + 3) = off + 3 + j from by omega]
      exact this
theorem flatN_one : ∀ (l : List (ByteArray × Snd)), ∀ u ∈ flatN l, u.oneCell' = true
  | [], u, h => by cases h
  | x :: l, u, h => by
    simp only [flatN, List.mem_cons] at h
    rcases h with rfl | rfl | rfl | h
    · rfl
    · rfl
    · rfl
    · exact flatN_one l u h
theorem wpList_appNs {ops : Array Oper} {rest : List Oper} {o : Oper} {a : Act} {w : World} {Q : Exit → Act → World → Prop} (hgd : o.guard = none) (s x : Operand)
    (ho : o.op = .call { callee := .builtin .append, args := #[s, x], argTypes := #[46, 46] })
    (base : Nat) (v u : Value) (xs ys : List (ByteArray × Snd)) (hs : a.eval s = v) (hx : a.eval x = u) (hown : OwnN w base v xs) (hw : Sp w u ys) (hlen : xs.length + ys.length ≤ 1000000000) (hbase : base ≤ w.heap.size)
    (h : ∀ v' w', OwnN w' base v' (xs ++ ys) → w.grownBy w' v.ownBlock → wpList Try.prog ops Q rest (a.put o.dst v') w') : wpList Try.prog ops Q (o :: rest) a w := by
  obtain ⟨i, hi, hz, hs1, hb1⟩ := info_parts infoNamed
  rcases hw with ⟨rfl, rfl⟩ | ⟨b, off, cap, rfl, hc, hm, hb, h3⟩
  · refine wpList_append_own_none hgd s x 46 ho base _ i 3 Try.underlying46 hi v xs.length (flatN xs) hs hown hx ?_
    exact h v w (by rw [List.append_nil]; exact hown) ⟨rfl, rfl, rfl, Nat.le_refl _, fun _ _ _ => rfl⟩
  · refine wpList_append_own w hgd s x 46 ho base _ i _ 3 24 Try.underlying46 hi hz hs1 hb1 rfl (by decide) v xs.length (flatN xs) hs hown ⟨b, off, none⟩ ys.length cap (flatN ys) hx (flatN_length ys) ?_ (flatN_one ys) (Nat.le_trans hlen (by decide)) (by omega) hbase ?_
    · intro j y hy
      rw [addr_addS]
      exact flatN_cells ys off h3 j y hy
    · intro v' w' ho' hg _
      refine h v' w' ?_ hg
      unfold OwnN
      rw [flatN_append, List.length_append]
      exact ho'
theorem OwnN.empty (w : World) : OwnN (w.alloc (.cells #[] 47)) w.heap.size (.slice (some ⟨w.heap.size, 0, none⟩) 0 0) [] :=
  ⟨rfl, .inr ⟨w.heap.size, 0, #[], rfl, Nat.le_refl _, World.alloc_heap_new w _, by simp, by simp, by simp, by simp [flatN]⟩⟩
set_option maxHeartbeats 1000000 in
theorem cloneN_any (l : List (ByteArray × Snd)) (v : Value) (w : World) (hl : l.length ≤ 1000000) (h : Sp w v l) : Calls Try.prog 54 #[v] w fun e w' => ∃ v', e = .returned v' ∧ OwnN w' w.heap.size v' l ∧ Below w.heap.size w w' := by
  have hnil := fun (w : World) (ao : Option Addr) (n c : Nat) => Lib.run_eql_slice_nil (P := Try.prog) w 46 47 ao n c 0 0 Try.underlying46
  have h' := h
  rcases h with ⟨rfl, rfl⟩ | ⟨b, off, cap, rfl, hx⟩
  · go_enter Try.func54, Try.ntmps54
    go_wp2
    go_returns
    exact ⟨_, rfl, ⟨rfl, .inl ⟨rfl, rfl⟩⟩, by go_grown⟩
  · have HW := Lib.hid h'; clear h' hx
    have HL := Lib.hid hl; clear hl
    have ho1 := OwnN.empty w
    go_enter Try.func54, Try.ntmps54
    go_wp2_with (at_builtin; refine wpList_appNs rfl (.tmp 5) (.tmp 6) rfl w.heap.size _ _ [] l rfl rfl ho1 (HW.out.below ((Below.refl _ w).alloc (Nat.le_refl _) _)) (by have := HL.out; simp; omega) (by go_size) ?_; intro v' w2 ho2 hg2; have hw2 := ((Below.refl w.heap.size w).alloc (Nat.le_refl _) (.cells #[] 47)).grown hg2 (by rw [World.size_alloc]; omega) (fun q e => by cases e; exact Nat.le_refl _))
    go_returns
    exact ⟨_, rfl, ho2, hw2⟩
theorem named_equal (k : ByteArray) (p m : Int) (w : World) : (Op.equal 47 (.agg #[.string k, .int .u32 p, .int .u32 m]) (.agg #[.string k, .int .u32 p, .int .u32 m])).run Try.prog w = .ok true w := by
  show (Op.equalIn 10000 _ _ _).run _ _ = _
  simp [go_sem]
theorem run_neqN (k : ByteArray) (p m : Int) (w : World) : (binOp .neq 47 (.agg #[.string k, .int .u32 p, .int .u32 m]) (.agg #[.string k, .int .u32 p, .int .u32 m])).run Try.prog w = .ok (.bool false) w := by
  simp only [binOp]
  simp [named_equal]
end Go.Proofs.Ytmgikhldkebjbaa

/-
  Lists of named sounds that are the same; Sounds; what grown's inventory holds.
-/
namespace Go.Proofs.Ytmgikhldkebjbaa
open Go.RowKit Go.Sort
theorem eqlY (a b c d : Int) (w : World) : (binOp .eql 39 (.agg #[.int .u32 a, .int .u32 b]) (.agg #[.int .u32 c, .int .u32 d])).run Try.prog w = .ok (.bool (a == c && b == d)) w := by
  simp only [binOp]
  simp [snd_equal]
theorem neqY (a b c d : Int) (w : World) : (binOp .neq 39 (.agg #[.int .u32 a, .int .u32 b]) (.agg #[.int .u32 c, .int .u32 d])).run Try.prog w = .ok (.bool (!(a == c && b == d))) w := by
  simp only [binOp]
  simp [snd_equal]
section
attribute [local go_sem ↓] run_neqN
set_option maxRecDepth 100000 in
set_option maxHeartbeats 4000000 in
theorem eqN_same (xs : List (ByteArray × Snd)) (v u : Value) (w : World) (h1 : Sp w v xs) (h2 : Sp w u xs) : Gives 26 #[v, u] w (.bool true) := by
  unfold Gives
  obtain ⟨ao, cap, rfl, c1, m1, H1⟩ := h1.open
  obtain ⟨bo, cap', rfl, c2, m2, H2⟩ := h2.open
  unfold maxLen at m1 m2
  have l1 : xs.length ≤ 9223372036854775807 := by omega
  clear h1 h2 c1 m1 c2 m2
  have H1 := Lib.hid H1; have H2 := Lib.hid H2
  go_enter Try.func26, Try.ntmps26
  go_wp2_with fail
  go_loopw [13] (fun i wr => ∃ k : Nat, k ≤ xs.length ∧ i = .int .i64 (k : Int) ∧ Below w.heap.size w wr) (fun i _ => xs.length - (intOf i).toNat)
  case atStart => exact ⟨0, by omega, rfl, Below.refl _ _⟩
  case round =>
    obtain ⟨k, hk, rfl, hw⟩ := hrel
    by_cases hlt : k < xs.length
    · obtain ⟨b, off, hao, lb, d0, d1, d2⟩ := H1.out k hlt
      obtain ⟨b', off', hbo, lb', e0, e1, e2⟩ := H2.out k hlt
      have d0 := (hw.cell (p := ⟨b, _, none⟩) lb).trans d0
      have d1 := (hw.cell (p := ⟨b, _, none⟩) lb).trans d1
      have d2 := (hw.cell (p := ⟨b, _, none⟩) lb).trans d2
      have e0 := (hw.cell (p := ⟨b', _, none⟩) lb').trans e0
      have e1 := (hw.cell (p := ⟨b', _, none⟩) lb').trans e1
      have e2 := (hw.cell (p := ⟨b', _, none⟩) lb').trans e2
      have HW := Lib.hid hw
      subst hao; subst hbo
      clear H1 H2 hw
      generalize xs[k] = x at *
      obtain ⟨sy, p, m⟩ := x
      simp only at d0 d1 d2 e0 e1 e2
      go_wp2_with fail
      go_quiet (fail)
      have HW2 := Lib.hid (below_drewN HW.out nq)
      clear HW d0 e0 d1 e1 d2 e2
      generalize wr.drewN nq = wd at *
      go_wp2_with fail
      go_roundw
      case rel => exact ⟨k + 1, by omega, by go_num, HW2.out⟩
      case measure => simp [intOf]; omega
    · obtain rfl : k = xs.length := by omega
      go_wp2_with fail
      go_returns
      exact ⟨rfl, hw⟩
end
theorem sounds_any {w : World} {base B : Nat} {l : List ByteArray} {a : List (ByteArray × Snd)} {nv av : Value} {bf bs by_ : Nat} (h : Inv w base B l a nv av bf bs by_) (ha : a.length ≤ 256) : Calls Try.prog 27 #[.pointer (some ⟨B, 0, none⟩)] w fun e w' => ∃ v', e = .returned v' ∧ OwnN w' w.heap.size v' a ∧ Below w.heap.size w w' := by
  have hv := valid_yes B w h.cells.1
  have hcl := fun (W : World) (hb : Below w.heap.size w W) => cloneN_any a av W (by omega) (h.below hb).added.sp
  obtain ⟨ao, ac, hnv⟩ := h.added.slice
  subst hnv
  have hc := fun (W : World) (hb : Below w.heap.size w W) => (h.below hb).cells.2.2.2.1
  have HV := Lib.hid hv; have HCL := Lib.hid hcl; have HC := Lib.hid hc
  clear h hv hcl hc
  go_enter Try.func27, Try.ntmps27
  go_wp2_with fail
  go_at_call 44
  refine Gives.then HV.out ?_
  intro w1 hb
  have c1 := HC.out w1 hb
  have HB := Lib.hid hb
  clear hb
  go_wp2_with fail
  go_at_call 54
  refine (HCL.out w1 HB.out).mono ?_
  rintro e w2 ⟨v2, rfl, ho, hb2⟩
  obtain ⟨a2, c2, rfl⟩ := ho.slice
  have HO : Hid (OwnN w2 w.heap.size (.slice a2 a.length c2) a) := Lib.hid (ho.mono HB.out.size)
  have HW := Lib.hid (HB.out.trans (hb2.mono HB.out.size))
  clear ho hb2
  go_wp2_with fail
  go_returns
  exact ⟨_, rfl, HO.out, HW.out⟩
/-- No symbol twice, and no sound. -/
def Uniq (a : List (ByteArray × Snd)) : Prop := ∀ i j (h : i < j) (hj : j < a.length), (a[i]'(by omega)).1 ≠ a[j].1 ∧ (a[i]'(by omega)).2 ≠ a[j].2
theorem sndOf_not {a : List (ByteArray × Snd)} {k : ByteArray} (h : (sndOf a k).isSome = false) : ∀ x ∈ a, k ≠ x.1 := fun x hx e => by rw [sndOf_some ⟨x, hx, e⟩] at h; cases h
theorem symOf_not {a : List (ByteArray × Snd)} {s : Snd} (h : (symOf a s).isSome = false) : ∀ x ∈ a, s ≠ x.2 := fun x hx e => by rw [symOf_some ⟨x, hx, e⟩] at h; cases h
theorem addE_new {l : List ByteArray} {a : List (ByteArray × Snd)} {k : ByteArray} {s : Snd} (h : addE l a k s = 0) : (sndOf a k).isSome = false ∧ (symOf a s).isSome = false := by
  unfold addE at h
  split at h
  · cases h
  · split at h
    · cases h
    · split at h
      · cases h
      · rename_i h3
        cases h1 : (sndOf a k).isSome <;> cases h2 : (symOf a s).isSome <;> simp [h1, h2] at h3 ⊢
theorem grw_uniq : ∀ (l a : List (ByteArray × Snd)), Uniq a → Uniq (grw a l)
  | [], _, h => h
  | x :: l, a, h => by
    simp only [grw]
    refine grw_uniq l _ ?_
    split
    · rename_i h0
      obtain ⟨n1, n2⟩ := addE_new h0
      intro i j hij hj
      rw [List.length_append, List.length_singleton] at hj
      by_cases e : j < a.length
      · rw [List.getElem_append_left (show i < a.length by omega), List.getElem_append_left e]
        exact h i j hij e
      · have e2 : j = a.length := by omega
        subst e2
        rw [List.getElem_append_left (show i < a.length by omega), List.getElem_append_right (Nat.le_refl _)]
        simp only [Nat.sub_self, List.getElem_cons_zero]
        exact ⟨Ne.symm (sndOf_not n1 _ (List.getElem_mem _)), Ne.symm (symOf_not n2 _ (List.getElem_mem _))⟩
    · exact h
/-- A sound that is there is found. -/
theorem uniq_snd {a : List (ByteArray × Snd)} (h : Uniq a) {k : Nat} (hk : k < a.length) : sndOf a a[k].1 = some a[k].2 := by
  unfold sndOf
  have hf : (a.find? fun x => decide (a[k].1 = x.1)) = some a[k] := by
    rw [List.find?_eq_some_iff_getElem]
    refine ⟨by simp, k, hk, rfl, fun j hj => ?_⟩
    have := (h j k hj hk).1
    simpa using Ne.symm this
  rw [hf]; rfl
theorem uniq_sym {a : List (ByteArray × Snd)} (h : Uniq a) {k : Nat} (hk : k < a.length) : symOf a a[k].2 = some a[k].1 := by
  unfold symOf
  have hf : (a.find? fun x => decide (a[k].2 = x.2)) = some a[k] := by
    rw [List.find?_eq_some_iff_getElem]
    refine ⟨by simp, k, hk, rfl, fun j hj => ?_⟩
    have := (h j k hj hk).2
    simpa using Ne.symm this
  rw [hf]; rfl
theorem addE_have {l : List ByteArray} {a : List (ByteArray × Snd)} {k : ByteArray} {s : Snd} (h : ((sndOf a k).isSome || (symOf a s).isSome) = true) : addE l a k s ≠ 0 := fun h0 => by
  obtain ⟨h1, h2⟩ := addE_new h0
  rw [h1, h2] at h; cases h
theorem any_take {α : Type} {p : α → Bool} {l : List α} {k : Nat} (hk : k < l.length) : (l.take (k + 1)).any p = ((l.take k).any p || p l[k]) := by
  rw [List.take_succ_eq_append_getElem hk, List.any_append]; simp
theorem snd_any (a : List (ByteArray × Snd)) (k : ByteArray) : (sndOf a k).isSome = a.any fun x => decide (x.1 = k) := by
  unfold sndOf
  rw [Option.isSome_map, Bool.eq_iff_iff, List.find?_isSome, List.any_eq_true]
  simp [eq_comm]
theorem sym_any (a : List (ByteArray × Snd)) (s : Snd) : (symOf a s).isSome = a.any fun x => decide (x.2 = s) := by
  unfold symOf
  rw [Option.isSome_map, Bool.eq_iff_iff, List.find?_isSome, List.any_eq_true]
  simp [eq_comm]
end Go.Proofs.Ytmgikhldkebjbaa

/-
  InventoryFinds: the walk.
-/
namespace Go.Proofs.Ytmgikhldkebjbaa
open Go.RowKit Go.Sort
theorem add_no {w : World} {base B : Nat} {l : List ByteArray} {a : List (ByteArray × Snd)} {nv av : Value} {bf bs by_ : Nat} (h : Inv w base B l a nv av bf bs by_) (k : ByteArray) (s : Snd) (hk : k.size ≤ 9223372036854775807) (hl : l.length ≤ 24) (ha : a.length ≤ 256) (h0 : addE l a k s ≠ 0) : Gives 23 #[.pointer (some ⟨B, 0, none⟩), .string k, snv s] w (.int .i64 (addE l a k s)) :=
  (add_any h k s hk hl ha).mono fun e w' ⟨h1, h2⟩ => ⟨h1, h2.elim (fun h => h.2) (fun h => absurd h.1 h0)⟩
def FiR (a : List (ByteArray × Snd)) (k : ByteArray) (s : Snd) (w1 : World) (iv kv i : Value) (wr : World) : Prop :=
  ∃ q : Nat, q ≤ a.length ∧ i = .int .i64 (q : Int) ∧ iv = .bool ((a.take q).any fun x => decide (x.1 = k)) ∧ kv = .bool ((a.take q).any fun x => decide (x.2 = s)) ∧ Below w1.heap.size w1 wr
set_option maxRecDepth 100000 in
set_option maxHeartbeats 8000000 in
theorem finds_any (l : List (ByteArray × Snd)) (v : Value) (k : ByteArray) (s : Snd) (w : World) (hx : ∀ x ∈ l, x.1.size ≤ maxLen) (hk : k.size ≤ 9223372036854775807) (h : Sp w v l) : Gives 9 #[v, .string k, snv s] w (.bool true) := by
  unfold Gives
  obtain ⟨ps, ms⟩ := s
  unfold snv
  have hb0 := (Below.refl w.heap.size w).alloc (Nat.le_refl _) (.cells #[.int .u32 (ps.toNat : Int), .int .u32 (ms.toNat : Int)] 39)
  have hg := grown_any l v _ hx (h.below hb0)
  obtain ⟨ao, cap, rfl, -, -, -⟩ := h.open
  have HGr := Lib.hid hg; have HB0 := Lib.hid hb0
  clear hg h hx hb0
  go_enter Try.func9, Try.ntmps9
  go_wp2_with fail
  go_at_call 41
  refine HGr.out.mono ?_
  rintro e w1 ⟨B, nv, av, bf, bs, by_, hv, rfl, hI, hO, -, hw1⟩
  have hun := grw_uniq (l.take 300) [] (fun i j _ hj => by simp at hj)
  have hsy := grw_sym (l.take 300) [] (fun x h => by cases h)
  have hgl := grw_len (l.take 300) [] (by decide)
  generalize grw [] (l.take 300) = a at *
  obtain ⟨hoa, hcap, rfl⟩ := hO.slice
  have hsp := hO.sp
  obtain ⟨_, _, hv2, hle2, hm2, hcells⟩ := hsp.open
  cases hv2
  unfold maxLen at hm2
  have l1 : a.length ≤ 9223372036854775807 := by omega
  have hbx : w1.heap[w.heap.size]? = some (.cells #[.int .u32 (ps.toNat : Int), .int .u32 (ms.toNat : Int)] 39 (0, 0)) := (hw1.block w.heap.size (by rw [World.size_alloc]; omega)).trans (World.alloc_heap_new w _)
  have lw1 : w.heap.size < w1.heap.size := (Array.getElem?_eq_some_iff.1 hbx).1
  have hw1 : Below w.heap.size w w1 := HB0.out.trans (hw1.mono HB0.out.size)
  have hnl : (nmL 24).length ≤ 24 := by rw [nmL_len]; omega
  have hS : ∀ q (hq : q < a.length) (W : World), Below w1.heap.size w1 W → Gives 33 #[.pointer (some ⟨B, 0, none⟩), .string a[q].1] W (.tuple #[snv a[q].2, .bool true]) := fun q hq W hb => by
    have h := sound_any (hI.below hb) a[q].1
    rw [uniq_snd hun hq] at h
    exact h
  have hY : ∀ q (hq : q < a.length) (W : World), Below w1.heap.size w1 W → Gives 34 #[.pointer (some ⟨B, 0, none⟩), snv a[q].2] W (.tuple #[.string a[q].1, .bool true]) := fun q hq W hb => by
    have h := symbol_any (hI.below hb) a[q].2
    rw [uniq_sym hun hq] at h
    exact h
  have hA1 : ∀ q (hq : q < a.length), ∃ E : Int, E ≠ 0 ∧ ∀ (W : World), Below w1.heap.size w1 W → Gives 23 #[.pointer (some ⟨B, 0, none⟩), .string a[q].1, snv (ps, ms)] W (.int .i64 E) := fun q hq => by
    have h0 : addE (nmL 24) a a[q].1 (ps, ms) ≠ 0 := addE_have (by rw [uniq_snd hun hq]; rfl)
    exact ⟨_, h0, fun W hb => add_no (hI.below hb) _ _ (by have := (isSym_size (hsy a[q] (List.getElem_mem hq))).2; omega) hnl hgl h0⟩
  have hA2 : ∀ q (hq : q < a.length), ∃ E : Int, E ≠ 0 ∧ ∀ (W : World), Below w1.heap.size w1 W → Gives 23 #[.pointer (some ⟨B, 0, none⟩), .string k, snv a[q].2] W (.int .i64 E) := fun q hq => by
    have h0 : addE (nmL 24) a k a[q].2 ≠ 0 := addE_have (by rw [uniq_sym hun hq]; simp)
    exact ⟨_, h0, fun W hb => add_no (hI.below hb) _ _ hk hnl hgl h0⟩
  have hS2 : ∀ (W : World), Below w1.heap.size w1 W → ∃ x y : Int, Gives 33 #[.pointer (some ⟨B, 0, none⟩), .string k] W (.tuple #[.agg #[.int .u32 x, .int .u32 y], .bool (a.any fun x => decide (x.1 = k))]) := fun W hb => by
    have h := sound_any (hI.below hb) k
    rw [snd_any] at h
    exact ⟨_, _, h⟩
  have hY2 : ∀ (W : World), Below w1.heap.size w1 W → ∃ t : ByteArray, Gives 34 #[.pointer (some ⟨B, 0, none⟩), .agg #[.int .u32 (ps.toNat : Int), .int .u32 (ms.toNat : Int)]] W (.tuple #[.string t, .bool (a.any fun x => decide (x.2 = (ps, ms)))]) := fun W hb => by
    have h := symbol_any (hI.below hb) (ps, ms)
    rw [sym_any] at h
    exact ⟨_, h⟩
  have hL : ∀ (W : World), Below w1.heap.size w1 W → Gives 22 #[.pointer (some ⟨B, 0, none⟩)] W (.int .i64 (a.length : Int)) := fun W hb => len_any (hI.below hb)
  have hSo := sounds_any hI hgl
  have HS := Lib.hid hS; have HY := Lib.hid hY; have HA1 := Lib.hid hA1; have HA2 := Lib.hid hA2; have HS2 := Lib.hid hS2; have HY2 := Lib.hid hY2; have HL := Lib.hid hL; have HSo := Lib.hid hSo
  have HUN := Lib.hid hun; have HCE := Lib.hid hcells; have HBX := Lib.hid hbx; have HW1 := Lib.hid hw1; have HSP := Lib.hid hsp; have HSY := Lib.hid hsy
  clear hS hY hA1 hA2 hS2 hY2 hL hSo hun hcells hbx hw1 hsp hsy hI hO HGr HB0 hm2
  have k256 : decide (256 < a.length) = false := decide_eq_false (by omega)
  have k256' : decide ((256 : Int) < (a.length : Int)) = false := decide_eq_false (by omega)
  go_wp2_with fail
  go_at_call 27
  refine HSo.out.mono ?_
  rintro e w2 ⟨v2, rfl, ho2, hb2⟩
  obtain ⟨o2, p2, hv2⟩ := ho2.slice
  subst hv2
  have HQ := Lib.hid (eqN_same a _ _ w2 ho2.sp (HSP.out.below hb2))
  have HW2 := Lib.hid hb2
  clear hb2 ho2 HSo
  go_wp2_with fail
  go_at_call 26
  refine Gives.then HQ.out ?_
  intro w3 hb3
  have HW3 := Lib.hid (HW2.out.trans (hb3.mono HW2.out.size))
  clear hb3 HQ
  go_wp2_with fail
  go_at_call 22
  refine Gives.then (HL.out _ HW3.out) ?_
  intro w4 hb4
  have HW4 := Lib.hid (HW3.out.trans (hb4.mono HW3.out.size))
  clear hb4
  go_wp2_with fail
  go_loopw [9, 10, 51] (fun iv kv i wr => FiR a k (ps, ms) w1 iv kv i wr) (fun _ _ i _ => a.length - (intOf i).toNat)
  case atStart => exact ⟨0, Nat.zero_le _, rfl, rfl, rfl, HW4.out⟩
  case round =>
    obtain ⟨q, hq, rfl, rfl, rfl, hwr⟩ := hrel
    have hbr := (hwr.block w.heap.size lw1).trans HBX.out
    have lwr : w.heap.size < wr.heap.size := Nat.lt_of_lt_of_le lw1 hwr.size
    by_cases hlt : q < a.length
    · obtain ⟨b, off, hao, lb, d0, d1, d2⟩ := HCE.out q hlt
      have d0 := (hwr.cell (p := ⟨b, _, none⟩) lb).trans d0
      have d1 := (hwr.cell (p := ⟨b, _, none⟩) lb).trans d1
      have d2 := (hwr.cell (p := ⟨b, _, none⟩) lb).trans d2
      have hs1 := HS.out q hlt
      have hy1 := HY.out q hlt
      obtain ⟨E1, hE1, ha1⟩ := HA1.out q hlt
      obtain ⟨E2, hE2, ha2⟩ := HA2.out q hlt
      have hu := fun q2 (h2 : q2 < q) => HUN.out q2 q h2 hlt
      have hat := any_take (p := fun x : ByteArray × Snd => decide (x.1 = k)) hlt
      have hat2 := any_take (p := fun x : ByteArray × Snd => decide (x.2 = (ps, ms))) hlt
      have hzr := hwr.size
      subst hao
      generalize hay : a[q] = y at *
      obtain ⟨sy, p, m⟩ := y
      simp only at d0 d1 d2 hs1 hy1 ha1 ha2 hu hat hat2
      unfold snv at hs1 hy1 ha1 ha2
      simp only at hs1 hy1 ha1 ha2
      have E1b : (E1 == 0) = false := by rw [Bool.eq_false_iff]; intro e; exact hE1 (beq_iff_eq.1 e)
      have E2b : (E2 == 0) = false := by rw [Bool.eq_false_iff]; intro e; exact hE2 (beq_iff_eq.1 e)
      have HS1 := Lib.hid hs1; have HY1 := Lib.hid hy1; have HAA := Lib.hid ha1; have HAB := Lib.hid ha2; have HU := Lib.hid hu; have HAT := Lib.hid hat; have HAT2 := Lib.hid hat2; have HWR := Lib.hid hwr; have HBR := Lib.hid hbr
      have hA := hwr.alloc hzr (.cells #[.string sy, .int .u32 (p.toNat : Int), .int .u32 (m.toNat : Int)] 47)
      have HWA := Lib.hid hA
      clear hs1 hy1 ha1 ha2 hu hat hat2 hwr hbr hA hay hE1 hE2 HS HY HA1 HA2
      generalize ((a.take q).any fun x => decide (x.1 = k)) = iv at *
      generalize ((a.take q).any fun x => decide (x.2 = (ps, ms))) = kv at *
      go_wp2_with fail
      go_at_call 33
      refine Gives.then (HS1.out _ HWA.out) ?_
      intro w5 hb5
      have B12 : w5.heap[wr.heap.size]? = some (.cells #[.string sy, .int .u32 (p.toNat : Int), .int .u32 (m.toNat : Int)] 47 (0, 0)) := (hb5.block wr.heap.size (by rw [World.size_alloc]; omega)).trans (World.alloc_heap_new wr _)
      have R5 : w5.heap[w.heap.size]? = _ := (hb5.block w.heap.size (by rw [World.size_alloc]; omega)).trans ((Below.heap_alloc wr _ w.heap.size lwr).trans HBR.out)
      have HW5 := Lib.hid (HWA.out.trans (hb5.mono HWA.out.size))
      have hz5 := HW5.out.size
      have l12 : wr.heap.size < w5.heap.size := (Array.getElem?_eq_some_iff.1 B12).1
      have l5 : w.heap.size < w5.heap.size := (Array.getElem?_eq_some_iff.1 R5).1
      have c1 := fun X => cell_past (X := X) l12 (cell_block (o := 1) (v := .int .u32 (p.toNat : Int)) B12 rfl)
      have c2 := fun X => cell_past (X := X) l12 (cell_block (o := 2) (v := .int .u32 (m.toNat : Int)) B12 rfl)
      have HB12 := Lib.hid B12; have HR5 := Lib.hid R5
      generalize wr.heap.size = b12 at *
      clear hb5 B12 R5 d0 d1 d2 HWA HWR HBR lwr hzr
      go_wp2_with fail
      go_at_call 34
      have hA := HW5.out.alloc hz5 (.cells #[.int .u32 (p.toNat : Int), .int .u32 (m.toNat : Int)] 39)
      refine Gives.then (HY1.out _ hA) ?_
      intro w6 hb6
      have B13 : w6.heap[w5.heap.size]? = some (.cells #[.int .u32 (p.toNat : Int), .int .u32 (m.toNat : Int)] 39 (0, 0)) := (hb6.block w5.heap.size (by rw [World.size_alloc]; omega)).trans (World.alloc_heap_new w5 _)
      have B12 : w6.heap[b12]? = _ := (hb6.block b12 (by rw [World.size_alloc]; omega)).trans ((Below.heap_alloc w5 _ b12 l12).trans HB12.out)
      have R6 : w6.heap[w.heap.size]? = _ := (hb6.block w.heap.size (by rw [World.size_alloc]; omega)).trans ((Below.heap_alloc w5 _ w.heap.size l5).trans HR5.out)
      have HW6 := Lib.hid (hA.trans (hb6.mono hA.size))
      clear hb6 hA c1 c2 HB12 HR5 l12 l5
      have c0 : w6.cell? ⟨b12, 0, none⟩ = some (.string sy) := cell_block B12 rfl
      have c1 : w6.cell? ⟨b12, 1, none⟩ = some (.int .u32 (p.toNat : Int)) := cell_block B12 rfl
      have c2 : w6.cell? ⟨b12, 2, none⟩ = some (.int .u32 (m.toNat : Int)) := cell_block B12 rfl
      have e0 : w6.cell? ⟨w5.heap.size, 0, none⟩ = some (.int .u32 (p.toNat : Int)) := cell_block B13 rfl
      have e1 : w6.cell? ⟨w5.heap.size, 1, none⟩ = some (.int .u32 (m.toNat : Int)) := cell_block B13 rfl
      have r0 : w6.cell? ⟨w.heap.size, 0, none⟩ = some (.int .u32 (ps.toNat : Int)) := cell_block R6 rfl
      have r1 : w6.cell? ⟨w.heap.size, 1, none⟩ = some (.int .u32 (ms.toNat : Int)) := cell_block R6 rfl
      have hnq := fun W => neqY (p.toNat : Int) (m.toNat : Int) (p.toNat : Int) (m.toNat : Int) W
      simp only [beq_self_eq_true, Bool.and_self, Bool.not_true] at hnq
      have HB12 := Lib.hid B12; have HR6 := Lib.hid R6
      have l12 : b12 < w6.heap.size := (Array.getElem?_eq_some_iff.1 B12).1
      have l6 : w.heap.size < w6.heap.size := (Array.getElem?_eq_some_iff.1 R6).1
      generalize w5.heap.size = b13 at *
      clear B12 R6 B13
      go_wp2_with fail
      go_at_call 23
      refine Gives.then (HAA.out _ HW6.out) ?_
      intro w7 hb7
      have B12 : w7.heap[b12]? = _ := (hb7.block b12 l12).trans HB12.out
      have R7 : w7.heap[w.heap.size]? = _ := (hb7.block w.heap.size l6).trans HR6.out
      have HW7 := Lib.hid (HW6.out.trans (hb7.mono HW6.out.size))
      have c0 : w7.cell? ⟨b12, 0, none⟩ = some (.string sy) := cell_block B12 rfl
      have c1 : w7.cell? ⟨b12, 1, none⟩ = some (.int .u32 (p.toNat : Int)) := cell_block B12 rfl
      have c2 : w7.cell? ⟨b12, 2, none⟩ = some (.int .u32 (m.toNat : Int)) := cell_block B12 rfl
      have l12 : b12 < w7.heap.size := (Array.getElem?_eq_some_iff.1 B12).1
      have l7 : w.heap.size < w7.heap.size := (Array.getElem?_eq_some_iff.1 R7).1
      have HB12 := Lib.hid B12; have HR7 := Lib.hid R7
      clear hb7 B12 R7 e0 e1 r0 r1 HR6 hnq
      go_wp2_with fail
      go_at_call 23
      refine Gives.then (HAB.out _ HW7.out) ?_
      intro w8 hb8
      have B12 : w8.heap[b12]? = _ := (hb8.block b12 l12).trans HB12.out
      have R8 : w8.heap[w.heap.size]? = _ := (hb8.block w.heap.size l7).trans HR7.out
      have HW8 := Lib.hid (HW7.out.trans (hb8.mono HW7.out.size))
      have l12 : b12 < w8.heap.size := (Array.getElem?_eq_some_iff.1 B12).1
      have l8 : w.heap.size < w8.heap.size := (Array.getElem?_eq_some_iff.1 R8).1
      have HB12 := Lib.hid B12; have HR8 := Lib.hid R8
      clear hb8 B12 R8 c0 c1 c2 HR7
      have hqc : q ≤ hcap := by omega
      go_wp2_with fail
      go_loopw [108] (fun i wi => ∃ q2 : Nat, q2 ≤ q ∧ i = .int .i64 (q2 : Int) ∧ Below w8.heap.size w8 wi) (fun i _ => q - (intOf i).toNat)
      case atStart => exact ⟨0, Nat.zero_le _, rfl, Below.refl _ _⟩
      case round =>
        obtain ⟨q2, hq2, rfl, hwi⟩ := hrel
        have B12 : wr.heap[b12]? = _ := (hwi.block b12 l12).trans HB12.out
        have R9 : wr.heap[w.heap.size]? = _ := (hwi.block w.heap.size l8).trans HR8.out
        have HWI := Lib.hid (HW8.out.trans (hwi.mono HW8.out.size))
        have hzi := hwi.size
        have l12i : b12 < wr.heap.size := (Array.getElem?_eq_some_iff.1 B12).1
        have c0 : wr.cell? ⟨b12, 0, none⟩ = some (.string sy) := cell_block B12 rfl
        have c1 : wr.cell? ⟨b12, 1, none⟩ = some (.int .u32 (p.toNat : Int)) := cell_block B12 rfl
        have c2 : wr.cell? ⟨b12, 2, none⟩ = some (.int .u32 (m.toNat : Int)) := cell_block B12 rfl
        by_cases hlt2 : q2 < q
        · have hl2 : q2 < a.length := by omega
          obtain ⟨b', off', hao, lb', z0, z1, z2⟩ := HCE.out q2 hl2
          cases hao
          have z0 := (HWI.out.cell (p := ⟨b, _, none⟩) lb').trans z0
          have z1 := (HWI.out.cell (p := ⟨b, _, none⟩) lb').trans z1
          have z2 := (HWI.out.cell (p := ⟨b, _, none⟩) lb').trans z2
          obtain ⟨u1, u2⟩ := HU.out q2 hlt2
          have HN := Lib.hid (hwi.alloc hzi (.cells #[.string a[q2].1, .int .u32 (a[q2].2.1.toNat : Int), .int .u32 (a[q2].2.2.toNat : Int)] 47))
          have s0 := fun X => cell_past (X := X) l12i c0
          have s1 := fun X => cell_past (X := X) l12i c1
          have s2 := fun X => cell_past (X := X) l12i c2
          clear hwi R9 B12 HCE HU
          generalize a[q2] = z at *
          obtain ⟨sz, pz, mz⟩ := z
          simp only at z0 z1 z2 u1 u2 HN
          have f1 : (sy.toList == sz.toList) = false := by rw [toList_beq]; exact decide_eq_false (Ne.symm u1)
          have f2 : (((p.toNat : Int) == (pz.toNat : Int)) && ((m.toNat : Int) == (mz.toNat : Int))) = false := by
            rw [Bool.eq_false_iff]
            intro e
            rw [Bool.and_eq_true, beq_iff_eq, beq_iff_eq] at e
            have h1 : pz = p := BitVec.eq_of_toNat_eq (by omega)
            have h2 : mz = m := BitVec.eq_of_toNat_eq (by omega)
            exact u2 (by rw [h1, h2])
          have f3 := fun W => eqlY (p.toNat : Int) (m.toNat : Int) (pz.toNat : Int) (mz.toNat : Int) W
          rw [f2] at f3
          clear u1 u2 f2
          go_wp2_with fail
          go_roundw
          case rel => exact ⟨q2 + 1, by omega, by go_num, HN.out⟩
          case measure => simp [intOf]; omega
        · obtain rfl : q2 = q := by omega
          have r0 : wr.cell? ⟨w.heap.size, 0, none⟩ = some (.int .u32 (ps.toNat : Int)) := cell_block R9 rfl
          have r1 : wr.cell? ⟨w.heap.size, 1, none⟩ = some (.int .u32 (ms.toNat : Int)) := cell_block R9 rfl
          have f1 : (sy.toList == k.toList) = decide (sy = k) := toList_beq _ _
          have f2 : (((p.toNat : Int) == (ps.toNat : Int)) && ((m.toNat : Int) == (ms.toNat : Int))) = decide ((p, m) = (ps, ms)) := by
            rw [Bool.eq_iff_iff, Bool.and_eq_true, beq_iff_eq, beq_iff_eq, decide_eq_true_iff, Prod.mk.injEq]
            constructor
            · rintro ⟨h1, h2⟩
              exact ⟨BitVec.eq_of_toNat_eq (by omega), BitVec.eq_of_toNat_eq (by omega)⟩
            · rintro ⟨rfl, rfl⟩
              exact ⟨rfl, rfl⟩
          have f3 := fun W => eqlY (p.toNat : Int) (m.toNat : Int) (ps.toNat : Int) (ms.toNat : Int) W
          rw [f2] at f3
          have hat := HAT.out; have hat2 := HAT2.out
          generalize decide (sy = k) = g1 at *
          generalize decide ((p, m) = (ps, ms)) = g2 at *
          have HAT := Lib.hid hat; have HAT2 := Lib.hid hat2
          clear f2 hwi R9 B12 HU hat hat2
          cases iv <;> cases kv
          all_goals (
            go_wp2_with fail
            go_quiet (fail)
            have HWD := Lib.hid (below_drewN HWI.out nq)
            clear HWI c0 c1 c2 r0 r1 f3 f1
            generalize wr.drewN nq = wd at *
            go_wp2_with fail
            refine ⟨?_, ?_⟩
            · exact ⟨q2 + 1, by omega, by go_num, by rw [HAT.out]; rfl, by rw [HAT2.out]; rfl, HWD.out⟩
            · simp [intOf]; omega)
    · obtain rfl : q = a.length := by omega
      rw [List.take_length]
      generalize (a.any fun x => decide (x.1 = k)) = iv at *
      generalize (a.any fun x => decide (x.2 = (ps, ms))) = kv at *
      have HWR := Lib.hid hwr
      have hzr := hwr.size
      have r0 : wr.cell? ⟨w.heap.size, 0, none⟩ = some (.int .u32 (ps.toNat : Int)) := cell_block hbr rfl
      have r1 : wr.cell? ⟨w.heap.size, 1, none⟩ = some (.int .u32 (ms.toNat : Int)) := cell_block hbr rfl
      obtain ⟨xs, ys, hsd⟩ := HS2.out _ hwr
      have HSD := Lib.hid hsd
      clear hwr hbr hsd hlt
      go_wp2_with fail
      go_at_call 33
      refine Gives.then HSD.out ?_
      intro w5 hb5
      have q0 := (hb5.cell (p := ⟨w.heap.size, 0, none⟩) lwr).trans r0
      have q1 := (hb5.cell (p := ⟨w.heap.size, 1, none⟩) lwr).trans r1
      have l5 := Nat.lt_of_lt_of_le lwr hb5.size
      have s0 := fun X => cell_past (X := X) l5 q0
      have s1 := fun X => cell_past (X := X) l5 q1
      have hw5 := HWR.out.trans (hb5.mono HWR.out.size)
      have HW5 := Lib.hid (hw5.alloc hw5.size (.cells #[.int .u32 xs, .int .u32 ys] 39))
      obtain ⟨t, hyd⟩ := HY2.out _ HW5.out
      have HYD := Lib.hid hyd
      clear hb5 r0 r1 hw5 hyd HSD
      go_wp2_with fail
      go_at_call 34
      refine Gives.then HYD.out ?_
      intro w6 hb6
      have HW6 := Lib.hid (HW5.out.trans (hb6.mono HW5.out.size))
      clear hb6 q0 q1 s0 s1 HYD
      go_wp2_with fail
      go_at_call 22
      refine Gives.then (HL.out _ HW6.out) ?_
      intro w7 hb7
      have HW7 := Lib.hid (HW6.out.trans (hb7.mono HW6.out.size))
      clear hb7
      go_wp2_with (go_at_call 14; refine Gives.then (works_any _) ?_; intro w8 hb8)
      go_returns
      exact ⟨rfl, (HW1.out.trans (HW7.out.mono HW1.out.size)).trans (hb8.mono (Nat.le_trans HW1.out.size HW7.out.size))⟩
end Go.Proofs.Ytmgikhldkebjbaa

/-
  maps.Clone at the three maps of an inventory.
-/
namespace Go.Proofs.Ytmgikhldkebjbaa
open Go.RowKit Go.Shelf Go.Sort
set_option maxRecDepth 100000 in
set_option maxHeartbeats 1000000 in
theorem mclone_f (b : Nat) (es : Array MapEntry) (clock : Nat) (w : World) (hb : w.heap[b]? = some (.map es clock)) : Calls Try.prog 63 #[.map (some b)] w fun e w' => e = .returned (.map (some w.heap.size)) ∧ w' = w.alloc (.map es clock) := by
  have hq := fun w => run_eql_map_nil_sl (P := Try.prog) w 55 _ _ (some b) Try.underlying55
  go_enter Try.func63, Try.ntmps63
  go_wp2_with fail
  rw [run_callFunc_extern Try.func82 (by kernel_rfl) (by kernel_rfl) (by kernel_rfl) (e := Extern.MapsClone.clone) (by kernel_rfl), run_maps_clone_sl w 55 hb]
  simp only [Result.andThen]
  rw [Oper.upon_value]
  go_wp2_with fail
  rw [run_typeAssert_map_sl _ 55 20 _ _ _ Try.underlying55]
  simp only [Result.andThen]
  rw [Oper.upon_value]
  go_wp2_with fail
  go_returns
  exact ⟨rfl, rfl⟩
set_option maxRecDepth 100000 in
set_option maxHeartbeats 1000000 in
theorem mclone_s (b : Nat) (es : Array MapEntry) (clock : Nat) (w : World) (hb : w.heap[b]? = some (.map es clock)) : Calls Try.prog 64 #[.map (some b)] w fun e w' => e = .returned (.map (some w.heap.size)) ∧ w' = w.alloc (.map es clock) := by
  have hq := fun w => run_eql_map_nil_sl (P := Try.prog) w 56 _ _ (some b) Try.underlying56
  go_enter Try.func64, Try.ntmps64
  go_wp2_with fail
  rw [run_callFunc_extern Try.func82 (by kernel_rfl) (by kernel_rfl) (by kernel_rfl) (e := Extern.MapsClone.clone) (by kernel_rfl), run_maps_clone_sl w 56 hb]
  simp only [Result.andThen]
  rw [Oper.upon_value]
  go_wp2_with fail
  rw [run_typeAssert_map_sl _ 56 20 _ _ _ Try.underlying56]
  simp only [Result.andThen]
  rw [Oper.upon_value]
  go_wp2_with fail
  go_returns
  exact ⟨rfl, rfl⟩
set_option maxRecDepth 100000 in
set_option maxHeartbeats 1000000 in
theorem mclone_y (b : Nat) (es : Array MapEntry) (clock : Nat) (w : World) (hb : w.heap[b]? = some (.map es clock)) : Calls Try.prog 65 #[.map (some b)] w fun e w' => e = .returned (.map (some w.heap.size)) ∧ w' = w.alloc (.map es clock) := by
  have hq := fun w => run_eql_map_nil_sl (P := Try.prog) w 57 _ _ (some b) Try.underlying57
  go_enter Try.func65, Try.ntmps65
  go_wp2_with fail
  rw [run_callFunc_extern Try.func82 (by kernel_rfl) (by kernel_rfl) (by kernel_rfl) (e := Extern.MapsClone.clone) (by kernel_rfl), run_maps_clone_sl w 57 hb]
  simp only [Result.andThen]
  rw [Oper.upon_value]
  go_wp2_with fail
  rw [run_typeAssert_map_sl _ 57 20 _ _ _ Try.underlying57]
  simp only [Result.andThen]
  rw [Oper.upon_value]
  go_wp2_with fail
  go_returns
  exact ⟨rfl, rfl⟩
end Go.Proofs.Ytmgikhldkebjbaa

/-
  Copy of an inventory.
-/
namespace Go.Proofs.Ytmgikhldkebjbaa
open Go.RowKit Go.Shelf Go.Sort
/-- What the calls of Copy have made, one after the other. -/
def Cp1 (w : World) (l : List ByteArray) (v1 : Value) (W : World) : Prop := Below w.heap.size w W ∧ OwnS W w.heap.size v1 l
def Cp2 (w : World) (l : List ByteArray) (v1 : Value) (b2 : Nat) (W : World) : Prop := Cp1 w l v1 W ∧ SMap W b2 (numT l l.length) ∧ w.heap.size ≤ b2
def Cp3 (w : World) (l : List ByteArray) (a : List (ByteArray × Snd)) (v1 : Value) (b2 : Nat) (v3 : Value) (W : World) : Prop := Cp2 w l v1 b2 W ∧ OwnN W w.heap.size v3 a
def Cp4 (w : World) (l : List ByteArray) (a : List (ByteArray × Snd)) (v1 : Value) (b2 : Nat) (v3 : Value) (b4 : Nat) (W : World) : Prop := Cp3 w l a v1 b2 v3 W ∧ SMap W b4 (a.map fun x => (x.1, snv x.2)) ∧ b2 < b4
def Cp5 (w : World) (l : List ByteArray) (a : List (ByteArray × Snd)) (v1 : Value) (b2 : Nat) (v3 : Value) (b4 b5 : Nat) (W : World) : Prop := Cp4 w l a v1 b2 v3 b4 W ∧ YMap W b5 (a.map fun x => (x.2, Value.string x.1)) ∧ b4 < b5
def CpF (w : World) (l : List ByteArray) (a : List (ByteArray × Snd)) (B : Nat) (W : World) : Prop := Below w.heap.size w W ∧ ∃ nv av bf bs by_, Inv W w.heap.size B l a nv av bf bs by_
theorem Cp1.below {w W W' : World} {l : List ByteArray} {v1 : Value} (h : Cp1 w l v1 W) (hb : Below W.heap.size W W') : Cp1 w l v1 W' := ⟨h.1.trans (hb.mono h.1.size), h.2.below hb⟩
theorem Cp2.below {w W W' : World} {l : List ByteArray} {v1 : Value} {b2 : Nat} (h : Cp2 w l v1 b2 W) (hb : Below W.heap.size W W') : Cp2 w l v1 b2 W' := ⟨h.1.below hb, h.2.1.below hb, h.2.2⟩
theorem Cp3.below {w W W' : World} {l : List ByteArray} {a : List (ByteArray × Snd)} {v1 v3 : Value} {b2 : Nat} (h : Cp3 w l a v1 b2 v3 W) (hb : Below W.heap.size W W') : Cp3 w l a v1 b2 v3 W' := ⟨h.1.below hb, h.2.below hb⟩
theorem Cp4.below {w W W' : World} {l : List ByteArray} {a : List (ByteArray × Snd)} {v1 v3 : Value} {b2 b4 : Nat} (h : Cp4 w l a v1 b2 v3 b4 W) (hb : Below W.heap.size W W') : Cp4 w l a v1 b2 v3 b4 W' := ⟨h.1.below hb, h.2.1.below hb, h.2.2⟩
theorem alloc_below (w : World) (o : Obj) : Below w.heap.size w (w.alloc o) := (Below.refl _ w).alloc (Nat.le_refl _) o
theorem cp_names {w W : World} {base B : Nat} {l : List ByteArray} {a : List (ByteArray × Snd)} {nv av : Value} {bf bs by_ : Nat} (h : Inv w base B l a nv av bf bs by_) (hl : l.length ≤ 24) (hW : Below w.heap.size w W) : Calls Try.prog 15 #[nv] W fun e W' => ∃ ao n c, e = .returned (.slice ao n c) ∧ Cp1 w l (.slice ao n c) W' :=
  (cloneS_any l nv W (by omega) (h.below hW).names.ss).mono fun e W' ⟨v, he, ho, hb⟩ => by
    obtain ⟨ao, c, rfl, -, -, -⟩ := ho.ss.open
    exact ⟨ao, _, c, he, hW.trans (hb.mono hW.size), ho.mono hW.size⟩
theorem cp_feats {w W : World} {base B : Nat} {l : List ByteArray} {a : List (ByteArray × Snd)} {nv av v1 : Value} {bf bs by_ : Nat} (h : Inv w base B l a nv av bf bs by_) (hW : Cp1 w l v1 W) : Calls Try.prog 63 #[.map (some bf)] W fun e W' => ∃ b2, e = .returned (.map (some b2)) ∧ Cp2 w l v1 b2 W' := by
  obtain ⟨es, n, hh, hs⟩ := (h.below hW.1).feats
  refine (mclone_f bf es n W hh).mono fun e W' ⟨he, hw⟩ => ?_
  subst hw
  exact ⟨_, he, hW.below (alloc_below _ _), ⟨es, n, World.alloc_heap_new W _, hs⟩, hW.1.size⟩
theorem cp_added {w W : World} {base B : Nat} {l : List ByteArray} {a : List (ByteArray × Snd)} {nv av v1 : Value} {bf bs by_ b2 : Nat} (h : Inv w base B l a nv av bf bs by_) (ha : a.length ≤ 256) (hW : Cp2 w l v1 b2 W) : Calls Try.prog 54 #[av] W fun e W' => ∃ ao n c, e = .returned (.slice ao n c) ∧ Cp3 w l a v1 b2 (.slice ao n c) W' :=
  (cloneN_any a av W (by omega) (h.below hW.1.1).added.sp).mono fun e W' ⟨v, he, ho, hb⟩ => by
    obtain ⟨ao, c, rfl, -, -, -⟩ := ho.sp.open
    exact ⟨ao, _, c, he, hW.below hb, ho.mono hW.1.1.size⟩
theorem cp_sounds {w W : World} {base B : Nat} {l : List ByteArray} {a : List (ByteArray × Snd)} {nv av v1 v3 : Value} {bf bs by_ b2 : Nat} (h : Inv w base B l a nv av bf bs by_) (hW : Cp3 w l a v1 b2 v3 W) : Calls Try.prog 64 #[.map (some bs)] W fun e W' => ∃ b4, e = .returned (.map (some b4)) ∧ Cp4 w l a v1 b2 v3 b4 W' := by
  obtain ⟨es, n, hh, hs⟩ := (h.below hW.1.1.1).sounds
  have h2 := hW.1.2.1.lt
  refine (mclone_s bs es n W hh).mono fun e W' ⟨he, hw⟩ => ?_
  subst hw
  exact ⟨_, he, hW.below (alloc_below _ _), ⟨es, n, World.alloc_heap_new W _, hs⟩, h2⟩
theorem cp_symbols {w W : World} {base B : Nat} {l : List ByteArray} {a : List (ByteArray × Snd)} {nv av v1 v3 : Value} {bf bs by_ b2 b4 : Nat} (h : Inv w base B l a nv av bf bs by_) (hW : Cp4 w l a v1 b2 v3 b4 W) : Calls Try.prog 65 #[.map (some by_)] W fun e W' => ∃ b5, e = .returned (.map (some b5)) ∧ Cp5 w l a v1 b2 v3 b4 b5 W' := by
  obtain ⟨es, n, hh, hs⟩ := (h.below hW.1.1.1.1).symbols
  have h2 := hW.2.1.lt
  refine (mclone_y by_ es n W hh).mono fun e W' ⟨he, hw⟩ => ?_
  subst hw
  exact ⟨_, he, hW.below (alloc_below _ _), ⟨es, n, World.alloc_heap_new W _, hs⟩, h2⟩
theorem cp_made {w W : World} {l : List ByteArray} {a : List (ByteArray × Snd)} {v1 v3 : Value} {b2 b4 b5 : Nat} (hW : Cp5 w l a v1 b2 v3 b4 b5 W) : Calls Try.prog 62 #[.agg #[.pointer none, v1, .map (some b2), v3, .map (some b4), .map (some b5)]] W fun e W' => ∃ B, e = .returned (.pointer (some ⟨B, 0, none⟩)) ∧ CpF w l a B W' := by
  refine (made_any v1 (.map (some b2)) v3 (.map (some b4)) (.map (some b5)) W).mono fun e W' ⟨he, hw⟩ => ?_
  subst hw
  obtain ⟨⟨⟨⟨⟨q1, q2⟩, q3, q4⟩, q5⟩, q6, q7⟩, q8, q9⟩ := hW
  have hb := alloc_below W (.cells #[.pointer (some ⟨W.heap.size, 0, none⟩), v1, .map (some b2), v3, .map (some b4), .map (some b5)] 59)
  exact ⟨_, he, q1.trans (hb.mono q1.size), v1, v3, b2, b4, b5, World.alloc_heap_new W _, q2.below hb, q3.below hb, q5.below hb, q6.below hb, q8.below hb, q1.size, q4, by omega, by omega, by omega, by omega, by omega⟩
end Go.Proofs.Ytmgikhldkebjbaa

/-
  Copy of an inventory: the walk.
-/
namespace Go.Proofs.Ytmgikhldkebjbaa
open Go.RowKit Go.Shelf Go.Sort
theorem bdrew {n : Nat} {w W : World} (h : Below n w W) : Below n w W.drew := ⟨h.os, h.tape, h.output, h.size, h.block⟩
set_option maxRecDepth 100000 in
set_option maxHeartbeats 4000000 in
theorem copy_any {w : World} {base B : Nat} {l : List ByteArray} {a : List (ByteArray × Snd)} {nv av : Value} {bf bs by_ : Nat} (h : Inv w base B l a nv av bf bs by_) (hl : l.length ≤ 24) (ha : a.length ≤ 256) : Calls Try.prog 36 #[.pointer (some ⟨B, 0, none⟩)] w fun e W => ∃ B', e = .returned (.pointer (some ⟨B', 0, none⟩)) ∧ CpF w l a B' W := by
  have hB := h.lt
  have hvy := valid_yes B w h.cells.1
  have K : ∀ W, Below w.heap.size w W → W.cell? ⟨B, 1, none⟩ = some nv ∧ W.cell? ⟨B, 2, none⟩ = some (.map (some bf)) ∧ W.cell? ⟨B, 3, none⟩ = some av ∧ W.cell? ⟨B, 4, none⟩ = some (.map (some bs)) ∧ W.cell? ⟨B, 5, none⟩ = some (.map (some by_)) := fun W hb => (h.below hb).cells.2
  have C1 := fun W hW => cp_names (W := W) h hl hW
  have C2 := fun v1 W hW => cp_feats (W := W) (v1 := v1) h hW
  have C3 := fun v1 b2 W hW => cp_added (W := W) (v1 := v1) (b2 := b2) h ha hW
  have C4 := fun v1 b2 v3 W hW => cp_sounds (W := W) (v1 := v1) (b2 := b2) (v3 := v3) h hW
  have C5 := fun v1 b2 v3 b4 W hW => cp_symbols (W := W) (v1 := v1) (b2 := b2) (v3 := v3) (b4 := b4) h hW
  obtain ⟨an, cn, hnv, -, -, -⟩ := h.names.ss.open
  subst hnv
  obtain ⟨aa, ca, hav⟩ := h.added.slice
  subst hav
  have HV := Lib.hid hvy; have HK := Lib.hid K; have HC1 := Lib.hid C1; have HC2 := Lib.hid C2; have HC3 := Lib.hid C3; have HC4 := Lib.hid C4; have HC5 := Lib.hid C5
  clear hvy K C1 C2 C3 C4 C5 h
  generalize l.length = nl at *
  generalize a.length = na at *
  go_enter Try.func36, Try.ntmps36
  go_wp2_with fail
  go_at_call 44
  refine Gives.then HV.out ?_
  intro w1 hb0
  obtain ⟨s1, s2, s3, s4, s5⟩ := HK.out w1 hb0
  clear HV
  go_wp2_with fail
  go_region_held3 (fun w' => w'.cell? ⟨B, 1, none⟩ = some (.slice an nl cn) ∧ w'.cell? ⟨B, 2, none⟩ = some (.map (some bf)) ∧ w'.cell? ⟨B, 3, none⟩ = some (.slice aa na ca) ∧ w'.cell? ⟨B, 4, none⟩ = some (.map (some bs)) ∧ w'.cell? ⟨B, 5, none⟩ = some (.map (some by_)))
    (first | exact HK.out _ (by first | assumption | exact bdrew (by assumption)))
    (first
      | (go_at_call 15; (with_reducible refine (HC1.out _ ?_).mono ?_); (next => first | assumption | exact bdrew (by assumption)); rintro e w5 ⟨a1, n1, c1, rfl, hP1⟩; have hb1 := hP1.1)
      | (go_at_call 63; (with_reducible refine (HC2.out _ _ hP1).mono ?_); rintro e w5 ⟨b2, rfl, hP2⟩; have hb1 := hP2.1.1)
      | (go_at_call 54; (with_reducible refine (HC3.out _ _ _ hP2).mono ?_); rintro e w5 ⟨a3, n3, c3, rfl, hP3⟩; have hb1 := hP3.1.1.1)
      | (go_at_call 64; (with_reducible refine (HC4.out _ _ _ _ hP3).mono ?_); rintro e w5 ⟨b4, rfl, hP4⟩; have hb1 := hP4.1.1.1.1)
      | (go_at_call 65; (with_reducible refine (HC5.out _ _ _ _ _ hP4).mono ?_); rintro e w5 ⟨b5, rfl, hP5⟩; have hb1 := hP5.1.1.1.1.1)
      | (go_at_call 62; refine (cp_made hP5).mono ?_; rintro e w5 ⟨B', rfl, hPF⟩; have hb1 := hPF.1))
  go_wp2_with fail
  go_returns
  exact ⟨B', rfl, hPF⟩
end Go.Proofs.Ytmgikhldkebjbaa

/-
  clear of a row of named sounds of one's own.
-/
namespace Go.Proofs.Ytmgikhldkebjbaa
open Go.RowKit Go.Shelf Go.Sort
theorem zeroNamed (w : World) : (zeroValue 47).run Try.prog w = .ok (.agg #[.string ⟨#[]⟩, .int .u32 0, .int .u32 0]) w := by kernel_rfl
theorem grown_trans {a b c : World} {r : Option Nat} (h : a.grownBy b r) (k : b.grownBy c r) : a.grownBy c r :=
  ⟨k.os.trans h.os, k.tape.trans h.tape, k.output.trans h.output, Nat.le_trans h.size k.size, fun j hj hn => (k.block j (Nat.lt_of_lt_of_le hj h.size) hn).trans (h.block j hj hn)⟩
theorem setCells_grown (b : Nat) : ∀ (vs : List Value) (o : Nat) (w : World), w.grownBy (w.setCells b o vs) (some b)
  | [], o, w => ⟨rfl, rfl, rfl, Nat.le_refl _, fun _ _ _ => rfl⟩
  | v :: vs, o, w => by
    rw [World.setCells]
    exact grown_trans (set_grown w b o v) (setCells_grown b vs _ _)
theorem zeroN_one (n : Nat) : ∀ v ∈ (Builtin.zeroCells (Value.agg #[.string ⟨#[]⟩, .int .u32 0, .int .u32 0]).cells n).toList, v.oneCell' = true := fun v hv => by
  have e : (Value.agg #[.string ⟨#[]⟩, .int .u32 0, .int .u32 0]).cells = #[.string ⟨#[]⟩, .int .u32 0, .int .u32 0] := rfl
  rw [e] at hv
  unfold Builtin.zeroCells at hv
  rw [Array.toList_map] at hv
  obtain ⟨i, _, rfl⟩ := List.mem_map.1 hv
  have h3 : i % 3 < 3 := Nat.mod_lt _ (by decide)
  have key : ∀ k : Fin 3, ((#[.string ⟨#[]⟩, .int .u32 0, .int .u32 0] : Array Value)[k.val]!).oneCell' = true := by decide
  exact key ⟨i % 3, h3⟩
theorem zeroN_len (n : Nat) : (Builtin.zeroCells (Value.agg #[.string ⟨#[]⟩, .int .u32 0, .int .u32 0]).cells n).toList.length = n * 3 := by
  unfold Builtin.zeroCells
  simp
  rfl
theorem run_clear_named {w : World} {base : Nat} {v : Value} {a : List (ByteArray × Snd)} (h : OwnN w base v a) : ∃ w', (∀ ty, (Builtin.clear_ #[46] ty #[v]).run Try.prog w = .ok (.tuple #[]) w') ∧ w.grownBy w' v.ownBlock := by
  obtain ⟨hl, ⟨rfl, _⟩ | ⟨g, cap, cur, rfl, hg, hh, hn, hm, hs, ht⟩⟩ := h
  · refine ⟨w, fun ty => by simp [Builtin.clear_, run_underlying Try.underlying46], ⟨rfl, rfl, rfl, Nat.le_refl _, fun _ _ _ => rfl⟩⟩
  · by_cases h0 : a.length = 0
    · rw [h0]
      refine ⟨w, fun ty => by simp [Builtin.clear_, run_underlying Try.underlying46], ⟨rfl, rfl, rfl, Nat.le_refl _, fun _ _ _ => rfl⟩⟩
    · have hlen := zeroN_len a.length
      have hst := run_storeCells_cells (P := Try.prog) g 0 (Builtin.zeroCells (Value.agg #[.string ⟨#[]⟩, .int .u32 0, .int .u32 0]).cells a.length).toList 0 w (fun j hj => by
        rw [hlen] at hj
        rw [show 0 + 0 + j = j from by omega, cell_block hh (v := cur[j]'(by omega)) (Array.getElem?_eq_getElem (by omega))]
        rfl) (fun j hj => frozen_block hh) (zeroN_one a.length)
      refine ⟨w.setCells g (0 + 0) (Builtin.zeroCells (Value.agg #[.string ⟨#[]⟩, .int .u32 0, .int .u32 0]).cells a.length).toList, fun ty => ?_, setCells_grown g _ _ w⟩
      obtain ⟨m, hm2⟩ : ∃ m, a.length = m + 1 := ⟨a.length - 1, by omega⟩
      rw [hm2] at hst ⊢
      simp [Builtin.clear_, run_underlying Try.underlying46, zeroNamed, hst]
end Go.Proofs.Ytmgikhldkebjbaa

/-
  InventoryCopies: what is added to a copy, or to what it was copied from.
-/
namespace Go.Proofs.Ytmgikhldkebjbaa
open Go.RowKit Go.Shelf Go.Sort
/-- The three names of the statement's own list. -/
def three : List ByteArray := [⟨#[111, 110, 101]⟩, ⟨#[116, 119, 111]⟩, ⟨#[116, 104, 114, 101, 101]⟩]
theorem three_new : newE three = 0 := by kernel_rfl
theorem three_size : ∀ x ∈ three, x.size ≤ 9223372036854775807 := by decide
theorem three_ss (w : World) : Ss (w.alloc (.cells #[.string ⟨#[111, 110, 101]⟩, .string ⟨#[116, 119, 111]⟩, .string ⟨#[116, 104, 114, 101, 101]⟩] 9)) (.slice (some ⟨w.heap.size, 0, none⟩) 3 3) three :=
  .inr ⟨w.heap.size, 0, 3, rfl, Nat.le_refl _, by decide, by rw [World.size_alloc]; omega, fun i hi => by
    match i, hi with
    | 0, _ => exact cell_block (World.alloc_heap_new w _) rfl
    | 1, _ => exact cell_block (World.alloc_heap_new w _) rfl
    | 2, _ => exact cell_block (World.alloc_heap_new w _) rfl⟩
/-- What New returns for the three names. -/
theorem new_three (w : World) : Calls Try.prog 42 #[.slice (some ⟨w.heap.size, 0, none⟩) 3 3] (w.alloc (.cells #[.string ⟨#[111, 110, 101]⟩, .string ⟨#[116, 119, 111]⟩, .string ⟨#[116, 104, 114, 101, 101]⟩] 9)) fun e w' => Below (w.heap.size + 1) (w.alloc (.cells #[.string ⟨#[111, 110, 101]⟩, .string ⟨#[116, 119, 111]⟩, .string ⟨#[116, 104, 114, 101, 101]⟩] 9)) w' ∧ ∃ B nv bf bs by_, e = .returned (.tuple #[.pointer (some ⟨B, 0, none⟩), .int .i64 0]) ∧ Inv w' (w.heap.size + 1) B three [] nv (.slice none 0 0) bf bs by_ := by
  refine (new_any three _ _ three_size (three_ss w)).mono ?_
  rw [World.size_alloc]
  rintro e w' ⟨hb, ⟨h, _⟩ | ⟨_, B, rfl, hI⟩⟩
  · exact absurd three_new h
  · obtain ⟨nv, bf, bs, by_, h⟩ := hI.inv
    exact ⟨hb, B, nv, bf, bs, by_, rfl, h⟩
/-- A fresh list of the three names. -/
theorem own3 {W : World} {base : Nat} {v : Value} (h : OwnS W base v three) : ∃ g cap, v = .slice (some ⟨g, 0, none⟩) 3 cap ∧ base ≤ g ∧ g < W.heap.size ∧ W.cell? ⟨g, 0, none⟩ = some (.string ⟨#[111, 110, 101]⟩) ∧ W.frozen? ⟨g, 0, none⟩ = false := by
  have hs := h.ss
  obtain ⟨hl, ⟨_, h0⟩ | ⟨g, cap, cur, rfl, hg, hh, hn, hm, _, ht⟩⟩ := h
  · cases h0
  · obtain ⟨ao, c, hv, _, _, hc⟩ := hs.open
    cases hv
    obtain ⟨b, off, e1, e2, e3⟩ := hc 0 (by decide)
    cases e1
    exact ⟨g, cap, rfl, hg, (Array.getElem?_eq_some_iff.1 hh).1, e3, frozen_block hh⟩
/-- A store into a list that was made later. -/
theorem Inv.beyond2 {w2 w w' : World} {base B g : Nat} {l : List ByteArray} {a : List (ByteArray × Snd)} {nv av u : Value} {bf bs by_ : Nat} (h0 : Inv w2 base B l a nv av bf bs by_) (hg : w2.heap.size ≤ g) (hb : Below w2.heap.size w2 w) (e : w' = w.setCell ⟨g, 0, none⟩ u) : Inv w' base B l a nv av bf bs by_ := by
  subst e
  exact h0.below (hb.setCell (p := ⟨g, 0, none⟩) hg _)
/-- An inventory of the call's own, wherever its parts lie. -/
def InvS (w : World) (base B : Nat) (l : List ByteArray) (a : List (ByteArray × Snd)) : Prop := ∃ nv av bf bs by_, Inv w base B l a nv av bf bs by_
theorem InvS.below {w w' : World} {base B : Nat} {l : List ByteArray} {a : List (ByteArray × Snd)} (h : InvS w base B l a) (hb : Below w.heap.size w w') : InvS w' base B l a := by
  obtain ⟨nv, av, bf, bs, by_, h⟩ := h
  exact ⟨nv, av, bf, bs, by_, h.below hb⟩
theorem InvS.above {w w' : World} {base B : Nat} {l : List ByteArray} {a : List (ByteArray × Snd)} (h : InvS w base B l a) (hb : Above base w w') : InvS w' base B l a := by
  obtain ⟨nv, av, bf, bs, by_, h⟩ := h
  exact ⟨nv, av, bf, bs, by_, h.above hb⟩
theorem own_ge {w : World} {base : Nat} {v : Value} {a : List (ByteArray × Snd)} (h : OwnN w base v a) {k : Nat} (e : v.ownBlock = some k) : base ≤ k ∧ k < w.heap.size := by
  refine ⟨?_, own_lt h e⟩
  obtain ⟨_, ⟨hv, _⟩ | ⟨g, _, _, hv, hg, _⟩⟩ := h
  · rw [hv] at e; cases e
  · rw [hv] at e; simp only [Value.ownBlock, Option.some.injEq] at e; omega
/-- Add at a copy that lies from n0 on turns nothing before it. -/
theorem add_copy {w : World} {n0 C : Nat} {l : List ByteArray} {a : List (ByteArray × Snd)} (h : InvS w n0 C l a) (k : ByteArray) (s : Snd) (hk : k.size ≤ 9223372036854775807) (hl : l.length ≤ 24) (ha : a.length ≤ 256) (hn : n0 ≤ w.heap.size) : Calls Try.prog 23 #[.pointer (some ⟨C, 0, none⟩), .string k, snv s] w fun e w' => e = .returned (.int .i64 (addE l a k s)) ∧ Below n0 w w' ∧ ((addE l a k s ≠ 0 ∧ InvS w' n0 C l a) ∨ (addE l a k s = 0 ∧ InvS w' n0 C l (a ++ [(k, s)]))) := by
  obtain ⟨nv, av, bf, bs, by_, h⟩ := h
  refine (add_all h k s hk hl ha).mono ?_
  rintro e w' ⟨rfl, ⟨h0, hb⟩ | ⟨h0, av', hI, ht, _⟩⟩
  · exact ⟨rfl, hb.mono hn, .inl ⟨h0, nv, av, bf, bs, by_, h.below hb⟩⟩
  · exact ⟨rfl, ht.toBelow hn h.hB h.hs h.hy (fun q e => (own_ge h.added e).1), .inr ⟨h0, nv, av', bf, bs, by_, hI⟩⟩
/-- Both, and the list of one's own beside the first one. -/
def Trio (w : World) (base n0 B C : Nat) (l : List ByteArray) (a : List (ByteArray × Snd)) (hv : Value) : Prop :=
  InvS w n0 C l a ∧ OwnN w base hv a ∧ (∃ nv av bf bs by_, Inv w base B l a nv av bf bs by_ ∧ Apart hv av) ∧ (∀ k, hv.ownBlock = some k → k < n0) ∧ n0 ≤ w.heap.size
/-- What Add does at the first one, to whose copy the same was added. -/
theorem add_first {w0 w : World} {base B C : Nat} {l : List ByteArray} {a : List (ByteArray × Snd)} {nv av hv : Value} {bf bs by_ : Nat} (h : Inv w0 base B l a nv av bf bs by_) (hh : OwnN w0 base hv a) (hd : Apart hv av) (hw : Below w0.heap.size w0 w) (k : ByteArray) (s : Snd) (hk : k.size ≤ 9223372036854775807) (hl : l.length ≤ 24) (ha : a.length ≤ 256) (h0 : addE l a k s = 0) (hC : InvS w w0.heap.size C l (a ++ [(k, s)])) (hbase : base ≤ w0.heap.size) : Calls Try.prog 23 #[.pointer (some ⟨B, 0, none⟩), .string k, snv s] w fun e w' => e = .returned (.int .i64 0) ∧ Below base w w' ∧ w.heap.size ≤ w'.heap.size ∧ InvS w' w0.heap.size C l (a ++ [(k, s)]) ∧ OwnN w' base hv a ∧ ∃ av', Inv w' base B l (a ++ [(k, s)]) nv av' bf bs by_ ∧ Apart hv av' := by
  have h1 := h.below hw
  have hh1 := hh.below hw
  refine (add_all h1 k s hk hl ha).mono ?_
  rintro e w' ⟨rfl, ⟨h2, _⟩ | ⟨_, av', hI, ht, hav⟩⟩
  · exact absurd h0 h2
  · have hz := hw.size
    have hz2 := ht.2.2.2.1
    have lB := h.lt
    have lS := h.sounds.lt
    have lY := h.symbols.lt
    refine ⟨by rw [h0], ht.toBelow (by omega) h.hB h.hs h.hy (fun q e => (own_ge h1.added e).1), hz2, hC.above ?_, hh1.touch h1 hd ht, av', hI, ?_⟩
    · intro q q1 q2
      exact ht.2.2.2.2 q q2 (by omega) (by omega) (by omega) (fun e => by have := own_lt h.added e; omega)
    · intro q e e2
      rcases hav q e2 with e3 | e3
      · exact hd q e e3
      · have := own_lt hh e
        omega
end Go.Proofs.Ytmgikhldkebjbaa

/-
  InventoryCopies: the walk.
-/
namespace Go.Proofs.Ytmgikhldkebjbaa
open Go.RowKit Go.Shelf Go.Sort
set_option maxRecDepth 100000 in
set_option maxHeartbeats 16000000 in
theorem copies_any (l : List (ByteArray × Snd)) (v : Value) (k : ByteArray) (s : Snd) (w : World) (hx : ∀ x ∈ l, x.1.size ≤ maxLen) (hk : k.size ≤ 9223372036854775807) (h : Sp w v l) : Gives 11 #[v, .string k, snv s] w (.bool true) := by
  unfold Gives
  obtain ⟨ps, ms⟩ := s
  unfold snv
  have hb0 := (Below.refl w.heap.size w).alloc (Nat.le_refl _) (.cells #[.int .u32 (ps.toNat : Int), .int .u32 (ms.toNat : Int)] 39)
  have HSP := Lib.hid (show Sp w v l from h)
  obtain ⟨ao, cap, rfl, -, -, -⟩ := h.open
  obtain ⟨X0, hX0⟩ : ∃ X0, w.alloc (.cells #[.int .u32 (ps.toNat : Int), .int .u32 (ms.toNat : Int)] 39) = X0 := ⟨_, rfl⟩
  have z0 : X0.heap.size = w.heap.size + 1 := by rw [← hX0, World.size_alloc]
  have k0 : X0.cell? ⟨w.heap.size, 0, none⟩ = some (.int .u32 (ps.toNat : Int)) := by rw [← hX0]; exact cell_block (World.alloc_heap_new w _) rfl
  have k1 : X0.cell? ⟨w.heap.size, 1, none⟩ = some (.int .u32 (ms.toNat : Int)) := by rw [← hX0]; exact cell_block (World.alloc_heap_new w _) rfl
  rw [hX0] at hb0
  have h3 := new_three X0
  rw [z0] at h3
  have H3 := Lib.hid h3; have HB0 := Lib.hid hb0; have HX := Lib.hid hx; have K0 := Lib.hid k0; have K1 := Lib.hid k1; have Z0 := Lib.hid z0
  clear h3 hb0 hx h k0 k1 z0
  go_enter Try.func11, Try.ntmps11
  go_wp2_with fail
  try rw [hX0]
  rw [Z0.out]
  clear hX0
  go_at_call 42
  refine H3.out.mono ?_
  rintro e w1 ⟨hb1, B3, nv3, bf3, bs3, by3, rfl, hI3⟩
  have hn1 := ((Below.refl X0.heap.size X0).alloc (Nat.le_refl _) (.cells #[.string ⟨#[111, 110, 101]⟩, .string ⟨#[116, 119, 111]⟩, .string ⟨#[116, 104, 114, 101, 101]⟩] 9))
  rw [Z0.out] at hn1
  have hz1 := hb1.size
  rw [World.size_alloc, Z0.out] at hz1
  have hw1 := hn1.trans (hb1.mono (by omega))
  have hblk := World.alloc_heap_new X0 (.cells #[.string ⟨#[111, 110, 101]⟩, .string ⟨#[116, 119, 111]⟩, .string ⟨#[116, 104, 114, 101, 101]⟩] 9)
  rw [Z0.out] at hblk
  have c1 := (hb1.cell (p := ⟨w.heap.size + 1, 1, none⟩) (by show w.heap.size + 1 < _; omega)).trans (cell_block hblk rfl)
  have f1 := (hb1.frozen (p := ⟨w.heap.size + 1, 1, none⟩) (by show w.heap.size + 1 < _; omega)).trans (frozen_block hblk)
  have HI3 := Lib.hid hI3; have HW1 := Lib.hid hw1
  clear hb1 hI3 hn1 hblk hw1 H3
  go_wp2_with fail
  obtain ⟨w2, h2⟩ : ∃ x, x = w1.setCell ⟨w.heap.size + 1, 1, none⟩ (.string ⟨#[102, 111, 117, 114]⟩) := ⟨_, rfl⟩
  rw [← h2]
  have hg2 := set_grown w1 (w.heap.size + 1) 1 (.string ⟨#[102, 111, 117, 114]⟩)
  rw [← h2] at hg2
  have hI2 := HI3.out.above (above_grown hg2 (fun k e => by cases e; omega))
  have hw2 : Below (w.heap.size + 1) X0 w2 := by rw [h2]; exact HW1.out.setCell (p := ⟨w.heap.size + 1, 1, none⟩) (Nat.le_refl _) _
  have hfe := feats_any hI2 (by decide)
  have HI2 := Lib.hid hI2; have HW2 := Lib.hid hw2; have HFE := Lib.hid hfe
  have hz2 := hg2.size
  clear h2 hg2 hI2 hw2 hfe c1 f1 HI3 HW1
  go_wp2_with fail
  go_at_call 20
  refine HFE.out.mono ?_
  rintro e w3 ⟨v3, rfl, ho3, hb3⟩
  obtain ⟨g3, c3, rfl, hg3, hl3, d3, f3⟩ := own3 ho3
  have HI3 := Lib.hid (HI2.out.below hb3); have HW3 := Lib.hid (HW2.out.trans (hb3.mono (by have := HW2.out.size; rw [Z0.out] at this; exact this)))
  clear HW2 HFE ho3
  go_wp2_with fail
  obtain ⟨w4, h4⟩ : ∃ x, x = w3.setCell ⟨g3, 0, none⟩ (.string ⟨#[102, 105, 118, 101]⟩) := ⟨_, rfl⟩
  rw [← h4]
  have hw4 : Below (w.heap.size + 1) X0 w4 := by rw [h4]; exact HW3.out.setCell (p := ⟨g3, 0, none⟩) (by show w.heap.size + 1 ≤ g3; omega) _
  have hI4 := HI2.out.beyond2 hg3 hb3 h4
  have hfe := feats_any hI4 (by decide)
  have HI4 := Lib.hid hI4; have HW4 := Lib.hid hw4; have HFE := Lib.hid hfe
  clear h4 hw4 hI4 hfe d3 f3 HI2 HI3 HW3 hb3 hg3 hl3
  go_wp2_with fail
  go_at_call 20
  refine HFE.out.mono ?_
  rintro e w5 ⟨v5, rfl, ho5, hb5⟩
  have hba5 := (Below.refl w5.heap.size w5).alloc (Nat.le_refl _) (.cells #[.string ⟨#[111, 110, 101]⟩, .string ⟨#[116, 119, 111]⟩, .string ⟨#[116, 104, 114, 101, 101]⟩] 9)
  have heq := eqS_any three three _ _ _ (ho5.below hba5).ss (three_ss w5)
  rw [decide_eq_true rfl] at heq
  obtain ⟨a5, c5, hv5, -, -, -⟩ := ho5.ss.open
  have hv5 : v5 = .slice a5 3 c5 := hv5
  subst hv5
  have HEQ := Lib.hid heq
  have HW5 := Lib.hid ((HW4.out.trans (hb5.mono (by have := HW4.out.size; rw [Z0.out] at this; exact this))).trans (hba5.mono (by have := HW4.out.size; have := hb5.size; rw [Z0.out] at *; omega)))
  clear heq ho5 hb5 hba5 HFE HI4 HW4
  go_wp2_with fail
  go_at_call 17
  refine Gives.then HEQ.out ?_
  intro w6 hb6
  have hw6 := HW5.out.trans (hb6.mono (by have := HW5.out.size; rw [Z0.out] at this; exact this))
  have hz6 := hw6.size
  rw [Z0.out] at hz6
  have hgr := grown_any l _ w6 HX.out (HSP.out.below (HB0.out.trans (hw6.mono (by omega))))
  have HW6 := Lib.hid hw6; have HGR := Lib.hid hgr
  clear hb6 HEQ HW5 hw6 hgr
  go_wp2_with fail
  go_at_call 41
  refine HGR.out.mono ?_
  rintro e w7 ⟨B, nv, av, bf, bs, by_, hv, rfl, hI7, hO7, hD7, hb7⟩
  have hgl := grw_len (l.take 300) [] (by decide)
  generalize grw [] (l.take 300) = a at *
  obtain ⟨oa, oc, rfl⟩ := hO7.slice
  obtain ⟨n, hn⟩ : ∃ n, a.length = n := ⟨_, rfl⟩
  have hz7 := hb7.size
  have hw7 := HW6.out.trans (hb7.mono hz6)
  have hnl : (nmL 24).length ≤ 24 := by rw [nmL_len]; omega
  have hcp := copy_any hI7 hnl hgl
  rw [hn] at hO7 hD7 ⊢
  have hn256 : n ≤ 256 := by omega
  have HGL := Lib.hid hgl; have HN := Lib.hid hn; have HNL := Lib.hid hnl
  have HI7 := Lib.hid hI7; have HO7 := Lib.hid hO7; have HD7 := Lib.hid hD7; have HW7 := Lib.hid hw7; have HCP := Lib.hid hcp
  clear hI7 hO7 hD7 hb7 hw7 hcp hn hgl hnl HGR HW6 HSP HX
  go_wp2_with fail
  go_at_call 36
  refine HCP.out.mono ?_
  rintro e w8 ⟨C, rfl, hb8, nvC, avC, bfC, bsC, byC, hIC⟩
  have hC8 : InvS w8 w7.heap.size C (nmL 24) a := ⟨_, _, _, _, _, hIC⟩
  have hso := sounds_any hIC HGL.out
  have HC8 := Lib.hid hC8; have HB8 := Lib.hid hb8; have HSO := Lib.hid hso
  clear hIC hC8 hb8 hso HCP
  go_wp2_with fail
  go_at_call 27
  refine HSO.out.mono ?_
  rintro e w9 ⟨v9, rfl, ho9, hb9⟩
  obtain ⟨a9, c9, rfl⟩ := ho9.slice
  have hb9' := HB8.out.trans (hb9.mono HB8.out.size)
  have heq := eqN_same a _ _ w9 ho9.sp (HO7.out.below hb9').sp
  have HC9 := Lib.hid (HC8.out.below hb9); have HB9 := Lib.hid hb9'; have HEQ := Lib.hid heq
  clear ho9 hb9 hb9' heq HC8 HB8 HSO
  go_wp2_with fail
  go_at_call 26
  refine Gives.then HEQ.out ?_
  intro w10 hb10
  have hC10 := HC9.out.below hb10
  obtain ⟨_, _, _, _, _, hIC⟩ := hC10
  have hfe := feats_any hIC HNL.out
  have HC10 := Lib.hid (HC9.out.below hb10); have HB10 := Lib.hid (HB9.out.trans (hb10.mono HB9.out.size)); have HFE := Lib.hid hfe
  clear hb10 HEQ HC9 HB9 hIC hfe
  go_wp2_with fail
  go_at_call 20
  refine HFE.out.mono ?_
  rintro e w11 ⟨v11, rfl, ho11, hb11⟩
  obtain ⟨a11, c11, hv11, -, -, -⟩ := ho11.ss.open
  subst hv11
  have hb11' := HB10.out.trans (hb11.mono HB10.out.size)
  have hfe := feats_any (HI7.out.below hb11') HNL.out
  have HO11 := Lib.hid ho11; have HC11 := Lib.hid (HC10.out.below hb11); have HB11 := Lib.hid hb11'; have HFE := Lib.hid hfe
  clear ho11 hb11 hb11' hfe HC10 HB10
  go_wp2_with fail
  go_at_call 20
  refine HFE.out.mono ?_
  rintro e w12 ⟨v12, rfl, ho12, hb12⟩
  have heq := eqS_any (nmL 24) (nmL 24) _ _ w12 (HO11.out.below hb12).ss ho12.ss
  rw [decide_eq_true rfl] at heq
  obtain ⟨a12, c12, hv12, -, -, -⟩ := ho12.ss.open
  subst hv12
  have HEQ := Lib.hid heq; have HC12 := Lib.hid (HC11.out.below hb12); have HB12 := Lib.hid (HB11.out.trans (hb12.mono HB11.out.size))
  clear ho12 hb12 heq HO11 HC11 HB11 HFE
  go_wp2_with fail
  go_at_call 17
  refine Gives.then HEQ.out ?_
  intro w13 hb13
  have hb13' := HB12.out.trans (hb13.mono HB12.out.size)
  have hadd := add_copy (HC12.out.below hb13) k (ps, ms) hk HNL.out HGL.out hb13'.size
  unfold snv at hadd
  have hw13 := HW7.out.trans (hb13'.mono (by omega))
  have s0 := (hw13.cell (p := ⟨w.heap.size, 0, none⟩) (by show w.heap.size < _; omega)).trans K0.out
  have s1 := (hw13.cell (p := ⟨w.heap.size, 1, none⟩) (by show w.heap.size < _; omega)).trans K1.out
  have hz13 := hb13'.size
  have HC13 := Lib.hid (HC12.out.below hb13); have HB13 := Lib.hid hb13'; have HADD := Lib.hid hadd
  obtain ⟨E, hE⟩ : ∃ E, addE (nmL 24) a k (ps, ms) = E := ⟨_, rfl⟩
  rw [hE] at HADD
  have HE := Lib.hid hE
  clear hb13 hb13' hadd HC12 HB12 HEQ hw13 hE
  by_cases h0 : E = 0
  · subst h0
    go_wp2_with fail
    go_at_call 23
    refine HADD.out.mono ?_
    rintro e w14 ⟨rfl, hb14, ⟨hne, _⟩ | ⟨_, hC14⟩⟩
    · exact absurd rfl hne
    have hb14' := HB13.out.trans hb14
    obtain ⟨_, _, _, _, _, hIC⟩ := id hC14
    have hle := len_any hIC
    rw [List.length_append, HN.out] at hle
    have hle : Gives 22 #[.pointer (some ⟨C, 0, none⟩)] w14 (.int .i64 ((n : Int) + 1)) := hle
    have HC14 := Lib.hid hC14; have HB14 := Lib.hid hb14'; have HLE := Lib.hid hle
    clear hb14 hC14 hb14' hIC hle HADD HC13 HB13 s0 s1
    go_wp2_with fail
    go_at_call 22
    refine Gives.then HLE.out ?_
    intro w15 hb15
    have hb15' := HB14.out.trans (hb15.mono HB14.out.size)
    have hle := len_any (HI7.out.below hb15')
    rw [HN.out] at hle
    have HC15 := Lib.hid (HC14.out.below hb15); have HB15 := Lib.hid hb15'; have HLE := Lib.hid hle
    clear hb15 hb15' hle HC14 HB14
    go_wp2_with fail
    go_at_call 22
    refine Gives.then HLE.out ?_
    intro w16 hb16
    have hb16' := HB15.out.trans (hb16.mono HB15.out.size)
    have hadd := add_first HI7.out HO7.out HD7.out hb16' k (ps, ms) hk HNL.out HGL.out HE.out (HC15.out.below hb16) hz7
    unfold snv at hadd
    have hw16 := HW7.out.trans (hb16'.mono (by omega))
    have s0 := (hw16.cell (p := ⟨w.heap.size, 0, none⟩) (by show w.heap.size < _; omega)).trans K0.out
    have s1 := (hw16.cell (p := ⟨w.heap.size, 1, none⟩) (by show w.heap.size < _; omega)).trans K1.out
    have HW16 := Lib.hid hw16; have HADD := Lib.hid hadd
    have hz16 := hb16'.size
    clear hb16 hb16' hadd HC15 HB15 HLE hw16
    go_wp2_with fail
    go_at_call 23
    refine HADD.out.mono ?_
    rintro e w17 ⟨rfl, hb17, hz17, hC17, hO17, av', hI17, hD17⟩
    have hw17 := HW16.out.trans (hb17.mono hz6)
    have hgl1 : (a ++ [(k, (ps, ms))]).length ≤ 256 := by rw [List.length_append, HN.out]; have := addE_len HE.out; rw [HN.out] at this; simp; omega
    have HGL1 := Lib.hid hgl1
    have hso := sounds_any hI17 HGL1.out
    have HC17 := Lib.hid hC17; have HO17 := Lib.hid hO17; have HI17 := Lib.hid hI17; have HD17 := Lib.hid hD17; have HW17 := Lib.hid hw17; have HSO := Lib.hid hso
    clear hb17 hC17 hO17 hI17 hD17 hw17 hso HADD HW16 hgl1 s0 s1
    go_wp2_with fail
    go_at_call 27
    refine HSO.out.mono ?_
    rintro e w18 ⟨v18, rfl, ho18, hb18⟩
    obtain ⟨a18, c18, hv18⟩ := ho18.slice
    obtain ⟨n1, hn1⟩ : ∃ n1, (a ++ [(k, (ps, ms))]).length = n1 := ⟨_, rfl⟩
    rw [hn1] at hv18
    subst hv18
    have HN1 := Lib.hid hn1
    obtain ⟨_, _, _, _, _, hIC⟩ := HC17.out.below hb18
    have hso := sounds_any hIC HGL1.out
    have HO18 := Lib.hid ho18; have HB18 := Lib.hid hb18; have HSO := Lib.hid hso
    clear ho18 hb18 hIC hso hn1
    go_wp2_with fail
    go_at_call 27
    refine HSO.out.mono ?_
    rintro e w19 ⟨v19, rfl, ho19, hb19⟩
    have heq := eqN_same (a ++ [(k, (ps, ms))]) _ _ w19 (HO18.out.below hb19).sp ho19.sp
    obtain ⟨a19, c19, hv19⟩ := ho19.slice
    rw [HN1.out] at hv19
    subst hv19
    have hb19' := HB18.out.trans (hb19.mono HB18.out.size)
    have HB19 := Lib.hid hb19'; have HEQ := Lib.hid heq
    clear ho19 hb19 hb19' heq HB18 HO18 HSO
    go_wp2_with fail
    go_at_call 26
    refine Gives.then HEQ.out ?_
    intro w20 hb20
    have hb20' := HB19.out.trans (hb20.mono HB19.out.size)
    have hw20 := HW17.out.trans (hb20'.mono (by have := HW17.out.size; rw [Z0.out] at this; exact this))
    have s0 := (hw20.cell (p := ⟨w.heap.size, 0, none⟩) (by show w.heap.size < _; omega)).trans K0.out
    have s1 := (hw20.cell (p := ⟨w.heap.size, 1, none⟩) (by show w.heap.size < _; omega)).trans K1.out
    have hba := hb20'.trans (((Below.refl w20.heap.size w20).alloc (Nat.le_refl _) (.cells #[.string k, .int .u32 (ps.toNat : Int), .int .u32 (ms.toNat : Int)] 47)).mono hb20'.size)
    have HBA := Lib.hid hba; have HW20 := Lib.hid hw20
    have hz20 := hb20'.size
    clear hb20 hb20' hba hw20 HB19 HEQ
    go_wp2_with (at_builtin; refine wpList_appN2 rfl (.tmp 98) (.tmp 102) rfl w6.heap.size w20.heap.size _ a k ps ms rfl rfl (World.alloc_heap_new w20 _) (HO17.out.below HBA.out) (by have := HGL.out; omega) (by rw [World.size_alloc]; omega) ?_; intro g3 c3 n3 w21 ho3 hg3 hn3 hl3; have HO3 := Lib.hid ho3; have HG3 := Lib.hid hg3; clear ho3 hg3 hn3 hl3)
    have hI21 : InvS w21 w6.heap.size B (nmL 24) (a ++ [(k, (ps, ms))]) := ⟨_, _, _, _, _, (HI17.out.below HBA.out).beside (HO17.out.below HBA.out) HD17.out HG3.out⟩
    have hC21 : InvS w21 w7.heap.size C (nmL 24) (a ++ [(k, (ps, ms))]) := (HC17.out.below HBA.out).above (above_grown HG3.out (fun q e => (own_ge HO7.out e).2))
    have hw21 : Below (w.heap.size + 1) X0 w21 := (HW17.out.trans (HBA.out.mono (by have := HW17.out.size; rw [Z0.out] at this; exact this))).grown HG3.out (by rw [World.size_alloc]; omega) (fun q e => by have := (own_ge HO7.out e).1; omega)
    have hsp := HO3.out.sp
    obtain ⟨_, _, hv3, _, _, _⟩ := hsp.open
    have hgl3 := HGL1.out
    generalize a ++ [(k, (ps, ms))] = A at *
    cases hv3
    clear HC17 HO17 HI17 HD17 HW17 HBA HW20 s0 s1 HO3 HG3 HN1
    have hz21 := hw21.size
    rw [Z0.out] at hz21
    have HI21 := Lib.hid hI21; have HC21 := Lib.hid hC21; have HW21 := Lib.hid hw21; have HSP := Lib.hid hsp; have HGA := Lib.hid hgl3
    clear hI21 hC21 hw21 hsp hgl3 HI7 HO7 HD7 HW7 HGL HN HE HNL
    go_wp2_with fail
    obtain ⟨wL, hL⟩ : ∃ x, x = w21.alloc (.cells #[.pointer (some ⟨B, 0, none⟩), .pointer (some ⟨C, 0, none⟩)] 26) := ⟨_, rfl⟩
    rw [← hL]
    have hbL : Below w21.heap.size w21 wL := by rw [hL]; exact (Below.refl _ w21).alloc (Nat.le_refl _) _
    have lL : w21.heap.size < wL.heap.size := by rw [hL, World.size_alloc]; omega
    have hcells : ∀ q, q < 2 → ∃ X base, wL.cell? ⟨w21.heap.size, q, none⟩ = some (.pointer (some ⟨X, 0, none⟩)) ∧ InvS wL base X (nmL 24) A := fun q hq => by
      match q, hq with
      | 0, _ => exact ⟨B, _, by rw [hL]; exact cell_block (World.alloc_heap_new w21 _) rfl, HI21.out.below hbL⟩
      | 1, _ => exact ⟨C, _, by rw [hL]; exact cell_block (World.alloc_heap_new w21 _) rfl, HC21.out.below hbL⟩
    have HCL := Lib.hid hcells; have HSPL := Lib.hid (HSP.out.below hbL); have HWL := Lib.hid (HW21.out.trans (hbL.mono hz21))
    clear hL hbL hcells HI21 HC21 HW21 HSP
    go_loopw [108] (fun i wr => ∃ q : Nat, q ≤ 2 ∧ i = .int .i64 (q : Int) ∧ Below wL.heap.size wL wr) (fun i _ => 2 - (intOf i).toNat)
    case atStart => exact ⟨0, Nat.zero_le _, rfl, Below.refl _ _⟩
    case round =>
      obtain ⟨q, hq, rfl, hwr⟩ := hrel
      by_cases hlt : q < 2
      · obtain ⟨X, base, d0, hIX⟩ := HCL.out q hlt
        have d0 := (hwr.cell (p := ⟨w21.heap.size, q, none⟩) lL).trans d0
        obtain ⟨_, _, _, _, _, hIX⟩ := hIX.below hwr
        have hso := sounds_any hIX HGA.out
        have HIX := Lib.hid hIX; have HSO := Lib.hid hso; have HWR := Lib.hid hwr
        clear hIX hso hwr HCL
        go_wp2_with fail
        go_at_call 27
        refine HSO.out.mono ?_
        rintro e w31 ⟨v31, rfl, ho31, hb31⟩
        obtain ⟨w32, hcl, hg32⟩ := run_clear_named ho31
        have hb32 : Below wr.heap.size wr w32 := hb31.grown hg32 hb31.size (fun q e => (own_ge ho31 e).1)
        obtain ⟨a31, c31, rfl⟩ := ho31.slice
        have hso := sounds_any (HIX.out.below hb32) HGA.out
        have HB32 := Lib.hid hb32; have HSO := Lib.hid hso
        clear ho31 hb31 hg32 hb32 hso
        go_wp2_with fail
        go_at_call 27
        refine HSO.out.mono ?_
        rintro e w33 ⟨v33, rfl, ho33, hb33⟩
        have hb33' := HWR.out.trans ((HB32.out.trans (hb33.mono HB32.out.size)).mono HWR.out.size)
        have heq := eqN_same A _ _ w33 ho33.sp (HSPL.out.below hb33')
        obtain ⟨a33, c33, rfl⟩ := ho33.slice
        have HB33 := Lib.hid hb33'; have HEQ := Lib.hid heq
        clear ho33 hb33 hb33' heq hcl
        go_wp2_with fail
        go_at_call 26
        refine Gives.then HEQ.out ?_
        intro w34 hb34
        have HB34 := Lib.hid (HB33.out.trans (hb34.mono HB33.out.size))
        clear hb34 HEQ
        go_wp2_with fail
        go_roundw
        case rel => exact ⟨q + 1, by omega, by go_num, HB34.out⟩
        case measure => simp [intOf]; omega
      · obtain rfl : q = 2 := by omega
        have HWR := Lib.hid hwr
        clear hwr hlt
        go_wp2_with (go_at_call 14; refine Gives.then (works_any _) ?_; intro w40 hb40)
        go_returns
        have hzL := HWL.out.size
        rw [Z0.out] at hzL
        have h1 := HWL.out.trans (HWR.out.mono hzL)
        have h2 := h1.trans (hb40.mono (by have := h1.size; rw [Z0.out] at this; exact this))
        exact ⟨rfl, HB0.out.trans (h2.mono (by omega))⟩
  · have g1 : (E == 0) = false := by simpa using h0
    go_wp2_with fail
    go_at_call 23
    refine HADD.out.mono ?_
    rintro e w21 ⟨rfl, hb14, ⟨_, hC21⟩ | ⟨he, _⟩⟩
    rotate_left
    · exact absurd he h0
    have hb21 := HB13.out.trans hb14
    have hI21 : InvS w21 w6.heap.size B (nmL 24) a := ⟨_, _, _, _, _, HI7.out.below hb21⟩
    have hw21 := HW7.out.trans (hb21.mono (by omega))
    have hsp := (HO7.out.below hb21).sp
    obtain ⟨_, _, hv3, _, _, _⟩ := hsp.open
    have hgl3 := HGL.out
    rw [HN.out] at hv3
    clear hb14 hb21 HADD HC13 HB13 s0 s1
    clear hn256 h0
    have hz21 := hw21.size
    rw [Z0.out] at hz21
    have HI21 := Lib.hid hI21; have HC21 := Lib.hid hC21; have HW21 := Lib.hid hw21; have HSP := Lib.hid hsp; have HGA := Lib.hid hgl3
    clear hI21 hC21 hw21 hsp hgl3 HI7 HO7 HD7 HW7 HGL HN HE HNL
    go_wp2_with fail
    obtain ⟨wL, hL⟩ : ∃ x, x = w21.alloc (.cells #[.pointer (some ⟨B, 0, none⟩), .pointer (some ⟨C, 0, none⟩)] 26) := ⟨_, rfl⟩
    rw [← hL]
    have hbL : Below w21.heap.size w21 wL := by rw [hL]; exact (Below.refl _ w21).alloc (Nat.le_refl _) _
    have lL : w21.heap.size < wL.heap.size := by rw [hL, World.size_alloc]; omega
    have hcells : ∀ q, q < 2 → ∃ X base, wL.cell? ⟨w21.heap.size, q, none⟩ = some (.pointer (some ⟨X, 0, none⟩)) ∧ InvS wL base X (nmL 24) a := fun q hq => by
      match q, hq with
      | 0, _ => exact ⟨B, _, by rw [hL]; exact cell_block (World.alloc_heap_new w21 _) rfl, HI21.out.below hbL⟩
      | 1, _ => exact ⟨C, _, by rw [hL]; exact cell_block (World.alloc_heap_new w21 _) rfl, HC21.out.below hbL⟩
    have HCL := Lib.hid hcells; have HSPL := Lib.hid (HSP.out.below hbL); have HWL := Lib.hid (HW21.out.trans (hbL.mono hz21))
    clear hL hbL hcells HI21 HC21 HW21 HSP
    go_loopw [108] (fun i wr => ∃ q : Nat, q ≤ 2 ∧ i = .int .i64 (q : Int) ∧ Below wL.heap.size wL wr) (fun i _ => 2 - (intOf i).toNat)
    case atStart => exact ⟨0, Nat.zero_le _, rfl, Below.refl _ _⟩
    case round =>
      obtain ⟨q, hq, rfl, hwr⟩ := hrel
      by_cases hlt : q < 2
      · obtain ⟨X, base, d0, hIX⟩ := HCL.out q hlt
        have d0 := (hwr.cell (p := ⟨w21.heap.size, q, none⟩) lL).trans d0
        obtain ⟨_, _, _, _, _, hIX⟩ := hIX.below hwr
        have hso := sounds_any hIX HGA.out
        have HIX := Lib.hid hIX; have HSO := Lib.hid hso; have HWR := Lib.hid hwr
        clear hIX hso hwr HCL
        go_wp2_with fail
        go_at_call 27
        refine HSO.out.mono ?_
        rintro e w31 ⟨v31, rfl, ho31, hb31⟩
        obtain ⟨w32, hcl, hg32⟩ := run_clear_named ho31
        have hb32 : Below wr.heap.size wr w32 := hb31.grown hg32 hb31.size (fun q e => (own_ge ho31 e).1)
        obtain ⟨a31, c31, rfl⟩ := ho31.slice
        have hso := sounds_any (HIX.out.below hb32) HGA.out
        have HB32 := Lib.hid hb32; have HSO := Lib.hid hso
        clear ho31 hb31 hg32 hb32 hso
        go_wp2_with fail
        go_at_call 27
        refine HSO.out.mono ?_
        rintro e w33 ⟨v33, rfl, ho33, hb33⟩
        have hb33' := HWR.out.trans ((HB32.out.trans (hb33.mono HB32.out.size)).mono HWR.out.size)
        have heq := eqN_same a _ _ w33 ho33.sp (HSPL.out.below hb33')
        obtain ⟨a33, c33, rfl⟩ := ho33.slice
        have HB33 := Lib.hid hb33'; have HEQ := Lib.hid heq
        clear ho33 hb33 hb33' heq hcl
        go_wp2_with fail
        go_at_call 26
        refine Gives.then HEQ.out ?_
        intro w34 hb34
        have HB34 := Lib.hid (HB33.out.trans (hb34.mono HB33.out.size))
        clear hb34 HEQ
        go_wp2_with fail
        go_roundw
        case rel => exact ⟨q + 1, by omega, by go_num, HB34.out⟩
        case measure => simp [intOf]; omega
      · obtain rfl : q = 2 := by omega
        have HWR := Lib.hid hwr
        clear hwr hlt
        go_wp2_with (go_at_call 14; refine Gives.then (works_any _) ?_; intro w40 hb40)
        go_returns
        have hzL := HWL.out.size
        rw [Z0.out] at hzL
        have h1 := HWL.out.trans (HWR.out.mono hzL)
        have h2 := h1.trans (hb40.mono (by have := h1.size; rw [Z0.out] at this; exact this))
        exact ⟨rfl, HB0.out.trans (h2.mono (by omega))⟩
end Go.Proofs.Ytmgikhldkebjbaa
