/-
  Lemmas that the theorem of this claim rests on: 11 texts, one behind the other.
-/
import Derived.Test.YtmgikhldkebjbaaM5
import Derived.Deep.RegionHeld3
import Derived.Test.YtmgikhldkebjbaaM6

/-
  Lists of named sounds: copies of one's own, and their comparison.
-/
namespace Go.Proofs.Ytmgikhldkebjbaa
open Go.RowKit Go.Sort
theorem flatN_cells {w : World} {b : Nat} : ∀ (ys : List (ByteArray × Snd)) (off : Nat), (∀ i (h : i < ys.length), w.cell? ⟨b, off + i * 3, none⟩ = some (.string ys[i].1) ∧ w.cell? ⟨b, off + i * 3 + 1, none⟩ = some (.int .u32 (ys[i].2.1.toNat : Int)) ∧ w.cell? ⟨b, off + i * 3 + 2, none⟩ = some (.int .u32 (ys[i].2.2.toNat : Int))) → ∀ j u, (flatN ys)[j]? = some u → w.cell? ⟨b, off + j, none⟩ = some u
  | [], _, _, j, u, h => by simp [flatN] at h
  | y :: ys, off, hc, j, u, h => by
    obtain ⟨c0, c1, c2⟩ := hc 0 (by simp)
    simp only [Nat.zero_mul, Nat.add_zero, List.getElem_cons_zero] at c0 c1 c2
    simp only [flatN] at h
    match j, h with
    | 0, h => cases h; exact c0
    | 1, h => cases h; exact c1
    | 2, h => cases h; exact c2
    | j + 3, h =>
      have h : (flatN ys)[j]? = some u := h
      have := flatN_cells ys (off + 3) (fun i hi => by
        have := hc (i + 1) (by simpa using hi)
        simp only [List.getElem_cons_succ] at this
        rw [show off + (i + 1) * 3 = off + 3 + i * 3 from by omega] at this
        exact this) j u h
      rw [show off + (j + 3) = off + 3 + j from by omega]
      exact this
theorem flatN_one : ∀ (l : List (ByteArray × Snd)), ∀ u ∈ flatN l, u.oneCell' = true
  | [], u, h => by cases h
  | x :: l, u, h => by
    simp only [flatN, List.mem_cons] at h
    rcases h with rfl | rfl | rfl | h
    · rfl
    · rfl
    · rfl
    · exact flatN_one l u h
theorem wpList_appNs {ops : Array Oper} {rest : List Oper} {o : Oper} {a : Act} {w : World} {Q : Exit → Act → World → Prop} (hgd : o.guard = none) (s x : Operand)
    (ho : o.op = .call { callee := .builtin .append, args := #[s, x], argTypes := #[46, 46] })
    (base : Nat) (v u : Value) (xs ys : List (ByteArray × Snd)) (hs : a.eval s = v) (hx : a.eval x = u) (hown : OwnN w base v xs) (hw : Sp w u ys) (hlen : xs.length + ys.length ≤ 1000000000) (hbase : base ≤ w.heap.size)
    (h : ∀ v' w', OwnN w' base v' (xs ++ ys) → w.grownBy w' v.ownBlock → wpList Try.prog ops Q rest (a.put o.dst v') w') : wpList Try.prog ops Q (o :: rest) a w := by
  obtain ⟨i, hi, hz, hs1, hb1⟩ := info_parts infoNamed
  rcases hw with ⟨rfl, rfl⟩ | ⟨b, off, cap, rfl, hc, hm, hb, h3⟩
  · refine wpList_append_own_none hgd s x 46 ho base _ i 3 Try.underlying46 hi v xs.length (flatN xs) hs hown hx ?_
    exact h v w (by rw [List.append_nil]; exact hown) ⟨rfl, rfl, rfl, Nat.le_refl _, fun _ _ _ => rfl⟩
  · refine wpList_append_own w hgd s x 46 ho base _ i _ 3 24 Try.underlying46 hi hz hs1 hb1 rfl (by decide) v xs.length (flatN xs) hs hown ⟨b, off, none⟩ ys.length cap (flatN ys) hx (flatN_length ys) ?_ (flatN_one ys) (Nat.le_trans hlen (by decide)) (by omega) hbase ?_
    · intro j y hy
      rw [addr_addS]
      exact flatN_cells ys off h3 j y hy
    · intro v' w' ho' hg _
      refine h v' w' ?_ hg
      unfold OwnN
      rw [flatN_append, List.length_append]
      exact ho'
theorem OwnN.empty (w : World) : OwnN (w.alloc (.cells #[] 47)) w.heap.size (.slice (some ⟨w.heap.size, 0, none⟩) 0 0) [] :=
  ⟨rfl, .inr ⟨w.heap.size, 0, #[], rfl, Nat.le_refl _, World.alloc_heap_new w _, by simp, by simp, by simp, by simp [flatN]⟩⟩
set_option maxHeartbeats 1000000 in
theorem cloneN_any (l : List (ByteArray × Snd)) (v : Value) (w : World) (hl : l.length ≤ 1000000) (h : Sp w v l) : Calls Try.prog 54 #[v] w fun e w' => ∃ v', e = .returned v' ∧ OwnN w' w.heap.size v' l ∧ Below w.heap.size w w' := by
  have hnil := fun (w : World) (ao : Option Addr) (n c : Nat) => Lib.run_eql_slice_nil (P := Try.prog) w 46 47 ao n c 0 0 Try.underlying46
  have h' := h
  rcases h with ⟨rfl, rfl⟩ | ⟨b, off, cap, rfl, hx⟩
  · go_enter Try.func54, Try.ntmps54
    go_wp2
    go_returns
    exact ⟨_, rfl, ⟨rfl, .inl ⟨rfl, rfl⟩⟩, by go_grown⟩
  · have HW := Lib.hid h'; clear h' hx
    have HL := Lib.hid hl; clear hl
    have ho1 := OwnN.empty w
    go_enter Try.func54, Try.ntmps54
    go_wp2_with (at_builtin; refine wpList_appNs rfl (.tmp 5) (.tmp 6) rfl w.heap.size _ _ [] l rfl rfl ho1 (HW.out.below ((Below.refl _ w).alloc (Nat.le_refl _) _)) (by have := HL.out; simp; omega) (by go_size) ?_; intro v' w2 ho2 hg2; have hw2 := ((Below.refl w.heap.size w).alloc (Nat.le_refl _) (.cells #[] 47)).grown hg2 (by rw [World.size_alloc]; omega) (fun q e => by cases e; exact Nat.le_refl _))
    go_returns
    exact ⟨_, rfl, ho2, hw2⟩
theorem named_equal (k : ByteArray) (p m : Int) (w : World) : (Op.equal 47 (.agg #[.string k, .int .u32 p, .int .u32 m]) (.agg #[.string k, .int .u32 p, .int .u32 m])).run Try.prog w = .ok true w := by
  show (Op.equalIn 10000 _ _ _).run _ _ = _
  simp [go_sem]
theorem run_neqN (k : ByteArray) (p m : Int) (w : World) : (binOp .neq 47 (.agg #[.string k, .int .u32 p, .int .u32 m]) (.agg #[.string k, .int .u32 p, .int .u32 m])).run Try.prog w = .ok (.bool false) w := by
  simp only [binOp]
  simp [named_equal]
end Go.Proofs.Ytmgikhldkebjbaa

/-
  Lists of named sounds that are the same; Sounds; what grown's inventory holds.
-/
namespace Go.Proofs.Ytmgikhldkebjbaa
open Go.RowKit Go.Sort
theorem eqlY (a b c d : Int) (w : World) : (binOp .eql 39 (.agg #[.int .u32 a, .int .u32 b]) (.agg #[.int .u32 c, .int .u32 d])).run Try.prog w = .ok (.bool (a == c && b == d)) w := by
  simp only [binOp]
  simp [snd_equal]
theorem neqY (a b c d : Int) (w : World) : (binOp .neq 39 (.agg #[.int .u32 a, .int .u32 b]) (.agg #[.int .u32 c, .int .u32 d])).run Try.prog w = .ok (.bool (!(a == c && b == d))) w := by
  simp only [binOp]
  simp [snd_equal]
section
attribute [local go_sem ↓] run_neqN
set_option maxRecDepth 100000 in
set_option maxHeartbeats 4000000 in
theorem eqN_same (xs : List (ByteArray × Snd)) (v u : Value) (w : World) (h1 : Sp w v xs) (h2 : Sp w u xs) : Gives 26 #[v, u] w (.bool true) := by
  unfold Gives
  obtain ⟨ao, cap, rfl, c1, m1, H1⟩ := h1.open
  obtain ⟨bo, cap', rfl, c2, m2, H2⟩ := h2.open
  unfold maxLen at m1 m2
  have l1 : xs.length ≤ 9223372036854775807 := by omega
  clear h1 h2 c1 m1 c2 m2
  have H1 := Lib.hid H1; have H2 := Lib.hid H2
  go_enter Try.func26, Try.ntmps26
  go_wp2_with fail
  go_loopw [13] (fun i wr => ∃ k : Nat, k ≤ xs.length ∧ i = .int .i64 (k : Int) ∧ Below w.heap.size w wr) (fun i _ => xs.length - (intOf i).toNat)
  case atStart => exact ⟨0, by omega, rfl, Below.refl _ _⟩
  case round =>
    obtain ⟨k, hk, rfl, hw⟩ := hrel
    by_cases hlt : k < xs.length
    · obtain ⟨b, off, hao, lb, d0, d1, d2⟩ := H1.out k hlt
      obtain ⟨b', off', hbo, lb', e0, e1, e2⟩ := H2.out k hlt
      have d0 := (hw.cell (p := ⟨b, _, none⟩) lb).trans d0
      have d1 := (hw.cell (p := ⟨b, _, none⟩) lb).trans d1
      have d2 := (hw.cell (p := ⟨b, _, none⟩) lb).trans d2
      have e0 := (hw.cell (p := ⟨b', _, none⟩) lb').trans e0
      have e1 := (hw.cell (p := ⟨b', _, none⟩) lb').trans e1
      have e2 := (hw.cell (p := ⟨b', _, none⟩) lb').trans e2
      have HW := Lib.hid hw
      subst hao; subst hbo
      clear H1 H2 hw
      generalize xs[k] = x at *
      obtain ⟨sy, p, m⟩ := x
      simp only at d0 d1 d2 e0 e1 e2
      go_wp2_with fail
      go_quiet (fail)
      have HW2 := Lib.hid (below_drewN HW.out nq)
      clear HW d0 e0 d1 e1 d2 e2
      generalize wr.drewN nq = wd at *
      go_wp2_with fail
      go_roundw
      case rel => exact ⟨k + 1, by omega, by go_num, HW2.out⟩
      case measure => simp [intOf]; omega
    · obtain rfl : k = xs.length := by omega
      go_wp2_with fail
      go_returns
      exact ⟨rfl, hw⟩
end
theorem sounds_any {w : World} {base B : Nat} {l : List ByteArray} {a : List (ByteArray × Snd)} {nv av : Value} {bf bs by_ : Nat} (h : Inv w base B l a nv av bf bs by_) (ha : a.length ≤ 256) : Calls Try.prog 27 #[.pointer (some ⟨B, 0, none⟩)] w fun e w' => ∃ v', e = .returned v' ∧ OwnN w' w.heap.size v' a ∧ Below w.heap.size w w' := by
  have hv := valid_yes B w h.cells.1
  have hcl := fun (W : World) (hb : Below w.heap.size w W) => cloneN_any a av W (by omega) (h.below hb).added.sp
  obtain ⟨ao, ac, hnv⟩ := h.added.slice
  subst hnv
  have hc := fun (W : World) (hb : Below w.heap.size w W) => (h.below hb).cells.2.2.2.1
  have HV := Lib.hid hv; have HCL := Lib.hid hcl; have HC := Lib.hid hc
  clear h hv hcl hc
  go_enter Try.func27, Try.ntmps27
  go_wp2_with fail
  go_at_call 44
  refine Gives.then HV.out ?_
  intro w1 hb
  have c1 := HC.out w1 hb
  have HB := Lib.hid hb
  clear hb
  go_wp2_with fail
  go_at_call 54
  refine (HCL.out w1 HB.out).mono ?_
  rintro e w2 ⟨v2, rfl, ho, hb2⟩
  obtain ⟨a2, c2, rfl⟩ := ho.slice
  have HO : Hid (OwnN w2 w.heap.size (.slice a2 a.length c2) a) := Lib.hid (ho.mono HB.out.size)
  have HW := Lib.hid (HB.out.trans (hb2.mono HB.out.size))
  clear ho hb2
  go_wp2_with fail
  go_returns
  exact ⟨_, rfl, HO.out, HW.out⟩
/-- No symbol twice, and no sound. -/
def Uniq (a : List (ByteArray × Snd)) : Prop := ∀ i j (h : i < j) (hj : j < a.length), (a[i]'(by omega)).1 ≠ a[j].1 ∧ (a[i]'(by omega)).2 ≠ a[j].2
theorem sndOf_not {a : List (ByteArray × Snd)} {k : ByteArray} (h : (sndOf a k).isSome = false) : ∀ x ∈ a, k ≠ x.1 := fun x hx e => by rw [sndOf_some ⟨x, hx, e⟩] at h; cases h
theorem symOf_not {a : List (ByteArray × Snd)} {s : Snd} (h : (symOf a s).isSome = false) : ∀ x ∈ a, s ≠ x.2 := fun x hx e => by rw [symOf_some ⟨x, hx, e⟩] at h; cases h
theorem addE_new {l : List ByteArray} {a : List (ByteArray × Snd)} {k : ByteArray} {s : Snd} (h : addE l a k s = 0) : (sndOf a k).isSome = false ∧ (symOf a s).isSome = false := by
  unfold addE at h
  split at h
  · cases h
  · split at h
    · cases h
    · split at h
      · cases h
      · rename_i h3
        cases h1 : (sndOf a k).isSome <;> cases h2 : (symOf a s).isSome <;> simp [h1, h2] at h3 ⊢
theorem grw_uniq : ∀ (l a : List (ByteArray × Snd)), Uniq a → Uniq (grw a l)
  | [], _, h => h
  | x :: l, a, h => by
    simp only [grw]
    refine grw_uniq l _ ?_
    split
    · rename_i h0
      obtain ⟨n1, n2⟩ := addE_new h0
      intro i j hij hj
      rw [List.length_append, List.length_singleton] at hj
      by_cases e : j < a.length
      · rw [List.getElem_append_left (show i < a.length by omega), List.getElem_append_left e]
        exact h i j hij e
      · have e2 : j = a.length := by omega
        subst e2
        rw [List.getElem_append_left (show i < a.length by omega), List.getElem_append_right (Nat.le_refl _)]
        simp only [Nat.sub_self, List.getElem_cons_zero]
        exact ⟨Ne.symm (sndOf_not n1 _ (List.getElem_mem _)), Ne.symm (symOf_not n2 _ (List.getElem_mem _))⟩
    · exact h
/-- A sound that is there is found. -/
theorem uniq_snd {a : List (ByteArray × Snd)} (h : Uniq a) {k : Nat} (hk : k < a.length) : sndOf a a[k].1 = some a[k].2 := by
  unfold sndOf
  have hf : (a.find? fun x => decide (a[k].1 = x.1)) = some a[k] := by
    rw [List.find?_eq_some_iff_getElem]
    refine ⟨by simp, k, hk, rfl, fun j hj => ?_⟩
    have := (h j k hj hk).1
    simpa using Ne.symm this
  rw [hf]; rfl
theorem uniq_sym {a : List (ByteArray × Snd)} (h : Uniq a) {k : Nat} (hk : k < a.length) : symOf a a[k].2 = some a[k].1 := by
  unfold symOf
  have hf : (a.find? fun x => decide (a[k].2 = x.2)) = some a[k] := by
    rw [List.find?_eq_some_iff_getElem]
    refine ⟨by simp, k, hk, rfl, fun j hj => ?_⟩
    have := (h j k hj hk).2
    simpa using Ne.symm this
  rw [hf]; rfl
theorem addE_have {l : List ByteArray} {a : List (ByteArray × Snd)} {k : ByteArray} {s : Snd} (h : ((sndOf a k).isSome || (symOf a s).isSome) = true) : addE l a k s ≠ 0 := fun h0 => by
  obtain ⟨h1, h2⟩ := addE_new h0
  rw [h1, h2] at h; cases h
theorem any_take {α : Type} {p : α → Bool} {l : List α} {k : Nat} (hk : k < l.length) : (l.take (k + 1)).any p = ((l.take k).any p || p l[k]) := by
  rw [List.take_succ_eq_append_getElem hk, List.any_append]; simp
theorem snd_any (a : List (ByteArray × Snd)) (k : ByteArray) : (sndOf a k).isSome = a.any fun x => decide (x.1 = k) := by
  unfold sndOf
  rw [Option.isSome_map, Bool.eq_iff_iff, List.find?_isSome, List.any_eq_true]
  simp [eq_comm]
theorem sym_any (a : List (ByteArray × Snd)) (s : Snd) : (symOf a s).isSome = a.any fun x => decide (x.2 = s) := by
  unfold symOf
  rw [Option.isSome_map, Bool.eq_iff_iff, List.find?_isSome, List.any_eq_true]
  simp [eq_comm]
end Go.Proofs.Ytmgikhldkebjbaa

/-
  The specification's Sound, Symbol, Sounds and Len.
-/
namespace Go.Proofs.Ytmgikhldkebjbaa
open Go.RowKit Go.Shelf Go.Sort
theorem sndOf_at {a : List (ByteArray × Snd)} {k : ByteArray} {q : Nat} (hq : q < a.length) (hn : ∀ j (hj : j < q), (a[j]'(by omega)).1 ≠ k) (h : a[q].1 = k) : sndOf a k = some a[q].2 := by
  unfold sndOf
  have hf : (a.find? fun x => decide (k = x.1)) = some a[q] := by
    rw [List.find?_eq_some_iff_getElem]
    exact ⟨by simp [h], q, hq, rfl, fun j hj => by simpa using Ne.symm (hn j hj)⟩
  rw [hf]; rfl
theorem symOf_at {a : List (ByteArray × Snd)} {s : Snd} {q : Nat} (hq : q < a.length) (hn : ∀ j (hj : j < q), (a[j]'(by omega)).2 ≠ s) (h : a[q].2 = s) : symOf a s = some a[q].1 := by
  unfold symOf
  have hf : (a.find? fun x => decide (s = x.2)) = some a[q] := by
    rw [List.find?_eq_some_iff_getElem]
    exact ⟨by simp [h], q, hq, rfl, fun j hj => by simpa using Ne.symm (hn j hj)⟩
  rw [hf]; rfl
theorem sndOf_all {a : List (ByteArray × Snd)} {k : ByteArray} (hn : ∀ j (hj : j < a.length), a[j].1 ≠ k) : sndOf a k = none := sndOf_none fun x hx e => by
  obtain ⟨j, hj, rfl⟩ := List.mem_iff_getElem.1 hx
  exact hn j hj e.symm
theorem symOf_all {a : List (ByteArray × Snd)} {s : Snd} (hn : ∀ j (hj : j < a.length), a[j].2 ≠ s) : symOf a s = none := symOf_none fun x hx e => by
  obtain ⟨j, hj, rfl⟩ := List.mem_iff_getElem.1 hx
  exact hn j hj e.symm
set_option maxRecDepth 100000 in
set_option maxHeartbeats 4000000 in
theorem rsound_any {w : World} {base R : Nat} {l : List ByteArray} {a : List (ByteArray × Snd)} {nv av : Value} (h : RInv w base R l a nv av) (ha : a.length ≤ 256) (k : ByteArray) : Gives 50 #[.pointer (some ⟨R, 0, none⟩), .string k] w (.tuple #[snv ((sndOf a k).getD (0#32, 0#32)), .bool (sndOf a k).isSome]) := by
  unfold Gives
  have hR := h.lt
  have hmd := fun (W : World) (hb : Below w.heap.size w W) => rmade_yes R W (h.below hb).cells.1
  have HI := Lib.hid h; have HMD := Lib.hid hmd
  obtain ⟨hoa, hcap, hav⟩ := h.added.slice
  subst hav
  have hsp := h.added.sp
  obtain ⟨_, _, hv2, _, _, hcells⟩ := hsp.open
  cases hv2
  have q1 := h.cells.2.2
  obtain ⟨V, hV⟩ : ∃ V, Value.tuple #[snv ((sndOf a k).getD (0#32, 0#32)), .bool (sndOf a k).isSome] = V := ⟨_, rfl⟩
  rw [hV]
  have HV := Lib.hid hV; have HCE := Lib.hid hcells
  have hb0 := (Below.refl w.heap.size w).alloc (Nat.le_refl _) (.cells #[.int .u32 0, .int .u32 0] 39)
  clear h hmd hV hsp hcells
  go_enter Try.func50, Try.ntmps50
  go_wp2_with fail
  go_at_call 45
  refine Gives.then (HMD.out _ hb0) ?_
  intro w1 hb
  have hw := hb0.trans (hb.mono hb0.size)
  have r0 := (hb.cell (p := ⟨w.heap.size, 0, none⟩) (by simp)).trans (cell_block (World.alloc_heap_new w _) rfl)
  have r1 := (hb.cell (p := ⟨w.heap.size, 1, none⟩) (by simp)).trans (cell_block (World.alloc_heap_new w _) rfl)
  have f0 := (hb.frozen (p := ⟨w.heap.size, 0, none⟩) (by simp)).trans (frozen_block (World.alloc_heap_new w _))
  have f1 := (hb.frozen (p := ⟨w.heap.size, 1, none⟩) (by simp)).trans (frozen_block (World.alloc_heap_new w _))
  have q1 := (hw.cell (p := ⟨R, 2, none⟩) hR).trans q1
  have HW := Lib.hid hw
  clear hb hb0 HMD
  go_wp2_with fail
  go_loop [6] (fun i => ∃ q : Nat, q ≤ a.length ∧ i = .int .i64 (q : Int) ∧ ∀ j (hj : j < a.length), j < q → a[j].1 ≠ k) (fun i => a.length - (intOf i).toNat)
  case atStart => exact ⟨0, Nat.zero_le _, rfl, fun j _ hj => by omega⟩
  case round =>
    obtain ⟨q, hq, rfl, hno⟩ := hrel
    have HNO := Lib.hid hno
    clear hno
    by_cases hlt : q < a.length
    · obtain ⟨b, off, hao, lb, d0, d1, d2⟩ := HCE.out q hlt
      have d0 := (hw.cell (p := ⟨b, _, none⟩) lb).trans d0
      have d1 := (hw.cell (p := ⟨b, _, none⟩) lb).trans d1
      have d2 := (hw.cell (p := ⟨b, _, none⟩) lb).trans d2
      subst hao
      have hat := fun h => sndOf_at hlt (fun j hj => HNO.out j (by omega) hj) h
      have hmore : a[q].1 ≠ k → ∀ j (hj : j < a.length), j < q + 1 → a[j].1 ≠ k := fun hne j hj hj2 => by
        by_cases e : j = q
        · subst e; exact hne
        · exact HNO.out j hj (by omega)
      have HAT := Lib.hid hat; have HM := Lib.hid hmore
      clear hw hat hmore HCE
      generalize a[q] = x at *
      obtain ⟨sy, p, m⟩ := x
      simp only at d0 d1 d2
      by_cases hk : sy = k
      · subst hk
        have hV0 : V = .tuple #[.agg #[.int .u32 (p.toNat : Int), .int .u32 (m.toNat : Int)], .bool true] := by rw [← HV.out, HAT.out rfl]; rfl
        have HV0 := Lib.hid hV0
        clear hV0 HAT HM
        go_wp2_with fail
        have z0 : ((w1.setCell ⟨w.heap.size, 0, none⟩ (.int .u32 (p.toNat : Int))).setCell ⟨w.heap.size, 1, none⟩ (.int .u32 (m.toNat : Int))).cell? ⟨w.heap.size, 0, none⟩ = some (.int .u32 (p.toNat : Int)) := by go_cell
        have z1 : ((w1.setCell ⟨w.heap.size, 0, none⟩ (.int .u32 (p.toNat : Int))).setCell ⟨w.heap.size, 1, none⟩ (.int .u32 (m.toNat : Int))).cell? ⟨w.heap.size, 1, none⟩ = some (.int .u32 (m.toNat : Int)) := by go_cell
        refine bodyPost_ret (v := V) ?_ rfl ⟨rfl, (HW.out.setCell (p := ⟨w.heap.size, 0, none⟩) (Nat.le_refl _) _).setCell (p := ⟨w.heap.size, 1, none⟩) (Nat.le_refl _) _⟩
        rw [HV0.out]
        simp [results, Try.results50, go_sem, z0, z1]
      · have e1 : (sy.toList == k.toList) = false := by rw [toList_beq]; exact decide_eq_false hk
        have HM := Lib.hid (HM.out hk)
        clear hk HAT
        go_wp2_with fail
        go_round
        case rel => exact ⟨q + 1, by omega, by go_num, HM.out⟩
        case measure => simp [intOf]; omega
    · obtain rfl : q = a.length := by omega
      have hV0 : V = .tuple #[.agg #[.int .u32 0, .int .u32 0], .bool false] := by rw [← HV.out, sndOf_all (fun j hj => HNO.out j hj hj)]; rfl
      have HV0 := Lib.hid hV0
      clear hV0 hw
      go_wp2_with fail
      have z0 : ((w1.setCell ⟨w.heap.size, 0, none⟩ (.int .u32 0)).setCell ⟨w.heap.size, 1, none⟩ (.int .u32 0)).cell? ⟨w.heap.size, 0, none⟩ = some (.int .u32 0) := by go_cell
      have z1 : ((w1.setCell ⟨w.heap.size, 0, none⟩ (.int .u32 0)).setCell ⟨w.heap.size, 1, none⟩ (.int .u32 0)).cell? ⟨w.heap.size, 1, none⟩ = some (.int .u32 0) := by go_cell
      refine bodyPost_ret (v := V) ?_ rfl ⟨rfl, (HW.out.setCell (p := ⟨w.heap.size, 0, none⟩) (Nat.le_refl _) _).setCell (p := ⟨w.heap.size, 1, none⟩) (Nat.le_refl _) _⟩
      rw [HV0.out]
      simp [results, Try.results50, go_sem, z0, z1]
set_option maxHeartbeats 1000000 in
theorem rsounds_any {w : World} {base R : Nat} {l : List ByteArray} {a : List (ByteArray × Snd)} {nv av : Value} (h : RInv w base R l a nv av) (ha : a.length ≤ 256) : Calls Try.prog 28 #[.pointer (some ⟨R, 0, none⟩)] w fun e w' => ∃ v', e = .returned v' ∧ OwnN w' w.heap.size v' a ∧ Below w.heap.size w w' := by
  have hmd := rmade_yes R w h.cells.1
  obtain ⟨ao, ac, hnv⟩ := h.added.slice
  subst hnv
  have HI := Lib.hid h; have HMD := Lib.hid hmd
  clear h hmd
  go_enter Try.func28, Try.ntmps28
  go_wp2_with fail
  go_at_call 45
  refine Gives.then HMD.out ?_
  intro w1 hb
  have h1 := HI.out.below hb
  have c1 := h1.cells.2.2
  have lR := h1.lt
  have c1' := fun X => cell_past (X := X) lR c1
  have HO1 := Lib.hid ((OwnN.empty w1).mono hb.size)
  have HN1 := Lib.hid (h1.added.sp.below ((Below.refl _ w1).alloc (Nat.le_refl _) (.cells #[] 47)))
  have HB := Lib.hid hb
  have hsz := hb.size
  clear hb HMD h1
  go_wp2_with (at_builtin; refine wpList_appNs rfl (.tmp 6) (.tmp 10) rfl w.heap.size _ _ [] a rfl rfl HO1.out HN1.out (by simp; omega) (by go_size) ?_; intro v' w2 ho2 hg2; have ho2 : OwnN w2 w.heap.size v' a := ho2; obtain ⟨a2, c2, hv2⟩ := ho2.slice; subst hv2; have HO2 := Lib.hid ho2; have HG2 := Lib.hid hg2; clear ho2 hg2)
  go_returns
  exact ⟨_, rfl, HO2.out, (HB.out.alloc hsz (.cells #[] 47)).grown HG2.out (by rw [World.size_alloc]; omega) (fun q e => by cases e; exact hsz)⟩
theorem rlen_any {w : World} {base R : Nat} {l : List ByteArray} {a : List (ByteArray × Snd)} {nv av : Value} (h : RInv w base R l a nv av) (ha : a.length ≤ 256) : Gives 53 #[.pointer (some ⟨R, 0, none⟩)] w (.int .i64 (a.length : Int)) := by
  unfold Gives
  have hs := rsounds_any h ha
  have HS := Lib.hid hs
  clear hs h
  go_enter Try.func53, Try.ntmps53
  go_wp2_with fail
  go_at_call 28
  refine HS.out.mono ?_
  rintro e w2 ⟨v2, rfl, ho, hb⟩
  obtain ⟨a2, c2, hv2⟩ := ho.slice
  subst hv2
  clear ho
  go_wp2_with fail
  go_returns
  exact ⟨rfl, hb⟩
end Go.Proofs.Ytmgikhldkebjbaa

/-
  The specification's Symbol and Longest; the calls of no inventory.
-/
namespace Go.Proofs.Ytmgikhldkebjbaa
open Go.RowKit Go.Shelf Go.Sort
set_option maxRecDepth 100000 in
set_option maxHeartbeats 4000000 in
theorem rsymbol_any {w : World} {base R : Nat} {l : List ByteArray} {a : List (ByteArray × Snd)} {nv av : Value} (h : RInv w base R l a nv av) (ha : a.length ≤ 256) (s : Snd) : Gives 51 #[.pointer (some ⟨R, 0, none⟩), snv s] w (.tuple #[.string ((symOf a s).getD ⟨#[]⟩), .bool (symOf a s).isSome]) := by
  unfold Gives
  obtain ⟨ps, ms⟩ := s
  unfold snv
  have hR := h.lt
  have hmd := fun (W : World) (hb : Below w.heap.size w W) => rmade_yes R W (h.below hb).cells.1
  have HMD := Lib.hid hmd
  obtain ⟨hoa, hcap, hav⟩ := h.added.slice
  subst hav
  have hsp := h.added.sp
  obtain ⟨_, _, hv2, _, _, hcells⟩ := hsp.open
  cases hv2
  have q1 := h.cells.2.2
  obtain ⟨V, hV⟩ : ∃ V, Value.tuple #[.string ((symOf a (ps, ms)).getD ⟨#[]⟩), .bool (symOf a (ps, ms)).isSome] = V := ⟨_, rfl⟩
  rw [hV]
  have HV := Lib.hid hV; have HCE := Lib.hid hcells
  have hb0 := (Below.refl w.heap.size w).alloc (Nat.le_refl _) (.cells #[.int .u32 (ps.toNat : Int), .int .u32 (ms.toNat : Int)] 39)
  clear h hmd hV hsp hcells
  go_enter Try.func51, Try.ntmps51
  go_wp2_with fail
  go_at_call 45
  refine Gives.then (HMD.out _ hb0) ?_
  intro w1 hb
  have hw := hb0.trans (hb.mono hb0.size)
  have r0 := (hb.cell (p := ⟨w.heap.size, 0, none⟩) (by simp)).trans (cell_block (World.alloc_heap_new w _) rfl)
  have r1 := (hb.cell (p := ⟨w.heap.size, 1, none⟩) (by simp)).trans (cell_block (World.alloc_heap_new w _) rfl)
  have lw : w.heap.size < w1.heap.size := by have := hb.size; rw [World.size_alloc] at this; omega
  have HW := Lib.hid hw
  clear hb hb0 HMD
  go_wp2_with fail
  go_loopw [6] (fun i wr => ∃ q : Nat, q ≤ a.length ∧ i = .int .i64 (q : Int) ∧ (∀ j (hj : j < a.length), j < q → a[j].2 ≠ (ps, ms)) ∧ Below w1.heap.size w1 wr) (fun i _ => a.length - (intOf i).toNat)
  case atStart => exact ⟨0, Nat.zero_le _, rfl, (fun j _ hj => by omega), Below.refl _ _⟩
  case round =>
    obtain ⟨q, hq, rfl, hno, hwr⟩ := hrel
    have HNO := Lib.hid hno
    have hwq := HW.out.trans (hwr.mono HW.out.size)
    have c0 := (hwr.cell (p := ⟨w.heap.size, 0, none⟩) lw).trans r0
    have c1 := (hwr.cell (p := ⟨w.heap.size, 1, none⟩) lw).trans r1
    have c2 := (hwq.cell (p := ⟨R, 2, none⟩) hR).trans q1
    have HWQ := Lib.hid hwq; have HWR := Lib.hid hwr
    clear hno hwr
    by_cases hlt : q < a.length
    · obtain ⟨b, off, hao, lb, d0, d1, d2⟩ := HCE.out q hlt
      have d0 := (hwq.cell (p := ⟨b, _, none⟩) lb).trans d0
      have d1 := (hwq.cell (p := ⟨b, _, none⟩) lb).trans d1
      have d2 := (hwq.cell (p := ⟨b, _, none⟩) lb).trans d2
      subst hao
      have hat := fun h => symOf_at hlt (fun j hj => HNO.out j (by omega) hj) h
      have hmore : a[q].2 ≠ (ps, ms) → ∀ j (hj : j < a.length), j < q + 1 → a[j].2 ≠ (ps, ms) := fun hne j hj hj2 => by
        by_cases e : j = q
        · subst e; exact hne
        · exact HNO.out j hj (by omega)
      have HAT := Lib.hid hat; have HM := Lib.hid hmore
      clear hw hwq hat hmore HCE r0 r1 q1
      generalize a[q] = x at *
      obtain ⟨sy, p, m⟩ := x
      simp only at d0 d1 d2
      have f3 := fun W => eqlY (p.toNat : Int) (m.toNat : Int) (ps.toNat : Int) (ms.toNat : Int) W
      by_cases hk : (p, m) = (ps, ms)
      · have hV0 : V = .tuple #[.string sy, .bool true] := by rw [← HV.out, HAT.out hk]; rfl
        have f2 : (((p.toNat : Int) == (ps.toNat : Int)) && ((m.toNat : Int) == (ms.toNat : Int))) = true := by
          cases hk; simp
        rw [f2] at f3
        have HV0 := Lib.hid hV0
        clear hV0 HAT HM hk f2
        go_wp2_with fail
        go_quiet (fail)
        have e0 : (wr.drewN nq).cell? ⟨b, off + q * 3, none⟩ = some (.string sy) := d0
        have e2 : (wr.drewN nq).cell? ⟨R, 2, none⟩ = _ := c2
        have HWD := Lib.hid (below_drewN HWQ.out nq)
        clear HWQ HWR c0 c1 c2 d0 d1 d2 f3
        generalize wr.drewN nq = wd at *
        go_wp2_with fail
        go_ret2
        exact ⟨by rw [HV0.out]; rfl, HWD.out⟩
      · have f2 : (((p.toNat : Int) == (ps.toNat : Int)) && ((m.toNat : Int) == (ms.toNat : Int))) = false := by
          rw [Bool.eq_false_iff]
          intro e
          rw [Bool.and_eq_true, beq_iff_eq, beq_iff_eq] at e
          have h1 : p = ps := BitVec.eq_of_toNat_eq (by omega)
          have h2 : m = ms := BitVec.eq_of_toNat_eq (by omega)
          exact hk (by rw [h1, h2])
        rw [f2] at f3
        have HM := Lib.hid (HM.out hk)
        clear hk HAT f2
        go_wp2_with fail
        go_quiet (fail)
        have HWD := Lib.hid (below_drewN HWR.out nq)
        clear HWQ HWR c0 c1 c2 d0 d1 d2 f3
        generalize wr.drewN nq = wd at *
        go_wp2_with fail
        go_roundw
        case rel => exact ⟨q + 1, by omega, by go_num, HM.out, HWD.out⟩
        case measure => simp [intOf]; omega
    · obtain rfl : q = a.length := by omega
      have hV0 : V = .tuple #[.string ⟨#[]⟩, .bool false] := by rw [← HV.out, symOf_all (fun j hj => HNO.out j hj hj)]; rfl
      have HV0 := Lib.hid hV0
      clear hV0 hw hwq
      go_wp2_with fail
      go_ret2
      exact ⟨by rw [HV0.out]; rfl, HWQ.out⟩
theorem rsound_nil (k : ByteArray) (w : World) : Gives 50 #[.pointer none, .string k] w (.tuple #[.agg #[.int .u32 0, .int .u32 0], .bool false]) := by
  unfold Gives
  go_enter Try.func50, Try.ntmps50
  go_wp2_with fail
  go_at_call 45
  refine Gives.then (rmade_nil _) ?_
  intro w1 hb
  have hw1 := ((Below.refl w.heap.size w).alloc (Nat.le_refl _) (.cells #[.int .u32 0, .int .u32 0] 39)).trans (hb.mono (by simp))
  have r0 := (hb.cell (p := ⟨w.heap.size, 0, none⟩) (by simp)).trans (cell_block (World.alloc_heap_new w _) rfl)
  have r1 := (hb.cell (p := ⟨w.heap.size, 1, none⟩) (by simp)).trans (cell_block (World.alloc_heap_new w _) rfl)
  have f0 := (hb.frozen (p := ⟨w.heap.size, 0, none⟩) (by simp)).trans (frozen_block (World.alloc_heap_new w _))
  have f1 := (hb.frozen (p := ⟨w.heap.size, 1, none⟩) (by simp)).trans (frozen_block (World.alloc_heap_new w _))
  clear hb
  go_wp2_with fail
  refine bodyPost_ret (v := .tuple #[.agg #[.int .u32 0, .int .u32 0], .bool false]) ?_ rfl ⟨rfl, by go_grown⟩
  have e0 : ((w1.setCell ⟨w.heap.size, 0, none⟩ (.int .u32 0)).setCell ⟨w.heap.size, 1, none⟩ (.int .u32 0)).cell? ⟨w.heap.size, 0, none⟩ = some (.int .u32 0) := by go_cell
  have e1 : ((w1.setCell ⟨w.heap.size, 0, none⟩ (.int .u32 0)).setCell ⟨w.heap.size, 1, none⟩ (.int .u32 0)).cell? ⟨w.heap.size, 1, none⟩ = some (.int .u32 0) := by go_cell
  simp [results, Try.results50, go_sem, e0, e1]
theorem rsymbol_nil (s : Snd) (w : World) : Gives 51 #[.pointer none, snv s] w (.tuple #[.string ⟨#[]⟩, .bool false]) := by
  unfold Gives snv
  go_enter Try.func51, Try.ntmps51
  go_wp2_with (go_at_call 45; refine Gives.then (rmade_nil _) ?_; intro w1 hb)
  have hb0 := (Below.refl w.heap.size w).alloc (Nat.le_refl _) (.cells #[.int .u32 (s.1.toNat : Int), .int .u32 (s.2.toNat : Int)] 39)
  go_ret2
  exact ⟨rfl, hb0.trans (hb.mono hb0.size)⟩
theorem rlongest_nil (t : ByteArray) (w : World) : Gives 52 #[.pointer none, .string t] w (.tuple #[.string ⟨#[]⟩, .bool false]) := by
  unfold Gives
  go_enter Try.func52, Try.ntmps52
  go_wp2_with (go_at_call 45; refine Gives.then (rmade_nil _) ?_; intro w1 hb)
  go_ret2
  exact ⟨rfl, hb⟩
theorem rsounds_nil (w : World) : Gives 28 #[.pointer none] w (.slice none 0 0) := by
  unfold Gives
  go_enter Try.func28, Try.ntmps28
  go_wp2_with (go_at_call 45; refine Gives.then (rmade_nil _) ?_; intro w1 hb)
  go_returns
  exact ⟨rfl, hb⟩
theorem rlen_nil (w : World) : Gives 53 #[.pointer none] w (.int .i64 0) := by
  unfold Gives
  go_enter Try.func53, Try.ntmps53
  go_wp2_with (go_at_call 28; refine Gives.then (rsounds_nil _) ?_; intro w1 hb)
  go_returns
  exact ⟨rfl, hb⟩
theorem radd_nil (k : ByteArray) (s : Snd) (w : World) : Gives 24 #[.pointer none, .string k, snv s] w (.int .i64 1) := by
  unfold Gives snv
  go_enter Try.func24, Try.ntmps24
  go_wp2_with (go_at_call 45; refine Gives.then (rmade_nil _) ?_; intro w1 hb)
  have hb0 := (Below.refl w.heap.size w).alloc (Nat.le_refl _) (.cells #[.int .u32 (s.1.toNat : Int), .int .u32 (s.2.toNat : Int)] 39)
  go_returns
  exact ⟨rfl, hb0.trans (hb.mono hb0.size)⟩
end Go.Proofs.Ytmgikhldkebjbaa

/-
  The specification's Longest.
-/
namespace Go.Proofs.Ytmgikhldkebjbaa
open Go.RowKit Go.Shelf Go.Sort
/-- What is found among the first q symbols. -/
def LonI (t : ByteArray) (a : List (ByteArray × Snd)) (q : Nat) (bs : ByteArray) : Prop :=
  (bs.size = 0 ∨ ((∃ y ∈ a, y.1 = bs) ∧ hasP t bs = true)) ∧ ∀ j (hj : j < a.length), j < q → bs.size < a[j].1.size → hasP t a[j].1 = false
theorem LonI.start (t : ByteArray) (a : List (ByteArray × Snd)) : LonI t a 0 ⟨#[]⟩ := ⟨.inl rfl, fun j _ hj => absurd hj (Nat.not_lt_zero j)⟩
theorem LonI.keep {t : ByteArray} {a : List (ByteArray × Snd)} {q : Nat} {bs : ByteArray} (h : LonI t a q bs) (hq : q < a.length) (hn : bs.size < a[q].1.size → hasP t a[q].1 = false) : LonI t a (q + 1) bs := by
  refine ⟨h.1, fun j hj hj2 hlt => ?_⟩
  by_cases e : j = q
  · subst e; exact hn hlt
  · exact h.2 j hj (by omega) hlt
theorem LonI.take {t : ByteArray} {a : List (ByteArray × Snd)} {q : Nat} {bs : ByteArray} (h : LonI t a q bs) (hq : q < a.length) (hl : bs.size < a[q].1.size) (hp : hasP t a[q].1 = true) : LonI t a (q + 1) a[q].1 := by
  refine ⟨.inr ⟨⟨a[q], List.getElem_mem hq, rfl⟩, hp⟩, fun j hj hj2 hlt => ?_⟩
  by_cases e : j = q
  · subst e; omega
  · exact h.2 j hj (by omega) (by omega)
theorem hasP_true {t x : ByteArray} (h1 : x.size ≤ t.size) (h2 : t.extract 0 x.size = x) : hasP t x = true := by
  unfold hasP; rw [Bool.and_eq_true, decide_eq_true_iff, decide_eq_true_iff]; exact ⟨h1, h2⟩
theorem hasP_far {t x : ByteArray} (h1 : ¬ x.size ≤ t.size) : hasP t x = false := by
  unfold hasP; rw [decide_eq_false h1, Bool.false_and]
theorem hasP_not {t x : ByteArray} (h2 : t.extract 0 x.size ≠ x) : hasP t x = false := by
  unfold hasP; rw [decide_eq_false h2, Bool.and_false]
theorem LonI.fin {t bs : ByteArray} {a : List (ByteArray × Snd)} (hs : ∀ x ∈ a, isSym x.1 = true) (h : LonI t a a.length bs) : (lonS a t (min t.size 4)).getD ⟨#[]⟩ = bs ∧ (lonS a t (min t.size 4)).isSome = decide (bs.size ≠ 0) := by
  obtain ⟨x, ok, e1, e2, e3, e4, e5, e6, e7⟩ := lon_is hs t
  obtain ⟨h1, h2⟩ := h
  have hm : ∀ y ∈ a, bs.size < y.1.size → hasP t y.1 = false := fun y hy hlt => by
    obtain ⟨j, hj, rfl⟩ := List.mem_iff_getElem.1 hy
    exact h2 j hj hj hlt
  have hx : ok = true → ∃ y ∈ a, y.1 = x := fun hk => by
    rw [hk] at e3
    by_cases hh : ∃ y ∈ a, y.1 = x
    · exact hh
    · rw [sndOf_none (fun y hy e => hh ⟨y, hy, e.symm⟩)] at e3
      cases e3
  have le1 : bs.size ≤ x.size := by
    rcases h1 with h0 | ⟨⟨y, hy, rfl⟩, hp⟩
    · omega
    · by_cases hlt : x.size < y.1.size
      · rw [e7 y hy hlt] at hp; cases hp
      · omega
  have le2 : x.size ≤ bs.size := by
    cases hk : ok
    · rw [e4 hk]; exact Nat.zero_le _
    · obtain ⟨y, hy, rfl⟩ := hx hk
      by_cases hlt : bs.size < y.1.size
      · rw [hm y hy hlt] at e6; cases e6
      · omega
  have hsz : x.size = bs.size := by omega
  have hxb : x = bs := by
    rcases h1 with h0 | ⟨_, hp⟩
    · refine bytes_ext ?_
      have a1 : x.toList.isEmpty = true := by rw [empty_toList]; exact decide_eq_true (by omega)
      have a2 : bs.toList.isEmpty = true := by rw [empty_toList]; exact decide_eq_true h0
      rw [List.isEmpty_iff] at a1 a2
      rw [Lib.toList_data] at a1 a2
      rw [a1, a2]
    · unfold hasP at hp e6
      rw [Bool.and_eq_true, decide_eq_true_iff, decide_eq_true_iff] at hp e6
      rw [← hp.2, ← e6.2, hsz]
  refine ⟨e1.trans hxb, e2.trans ?_⟩
  cases hk : ok
  · rw [← hsz, e4 hk]; rfl
  · obtain ⟨y, hy, rfl⟩ := hx hk
    have := (isSym_size (hs y hy)).1
    exact (decide_eq_true (by omega)).symm
set_option maxRecDepth 100000 in
set_option maxHeartbeats 4000000 in
theorem rlongest_any {w : World} {base R : Nat} {l : List ByteArray} {a : List (ByteArray × Snd)} {nv av : Value} (h : RInv w base R l a nv av) (ha : a.length ≤ 256) (hs : ∀ x ∈ a, isSym x.1 = true) (t : ByteArray) (ht : t.size ≤ 9223372036854775807) : Gives 52 #[.pointer (some ⟨R, 0, none⟩), .string t] w (.tuple #[.string ((lonS a t (min t.size 4)).getD ⟨#[]⟩), .bool (lonS a t (min t.size 4)).isSome]) := by
  unfold Gives
  have hR := h.lt
  have hmd := fun (W : World) (hb : Below w.heap.size w W) => rmade_yes R W (h.below hb).cells.1
  have HMD := Lib.hid hmd
  obtain ⟨hoa, hcap, hav⟩ := h.added.slice
  subst hav
  have hsp := h.added.sp
  obtain ⟨_, _, hv2, _, _, hcells⟩ := hsp.open
  cases hv2
  have q1 := h.cells.2.2
  obtain ⟨V, hV⟩ : ∃ V, Value.tuple #[.string ((lonS a t (min t.size 4)).getD ⟨#[]⟩), .bool (lonS a t (min t.size 4)).isSome] = V := ⟨_, rfl⟩
  have hfin : ∀ bs, LonI t a a.length bs → V = .tuple #[.string bs, .bool (decide (bs.size ≠ 0))] := fun bs hl => by
    rw [← hV, (hl.fin hs).1, (hl.fin hs).2]
  rw [hV]
  have HV := Lib.hid hfin; have HCE := Lib.hid hcells; have HSY := Lib.hid hs
  clear h hmd hV hsp hcells hfin hs
  go_enter Try.func52, Try.ntmps52
  go_wp2_with fail
  go_at_call 45
  refine Gives.then (HMD.out _ (Below.refl _ _)) ?_
  intro w1 hw
  have q1 := (hw.cell (p := ⟨R, 2, none⟩) hR).trans q1
  have HW := Lib.hid hw
  clear HMD
  go_wp2_with fail
  go_loop [6, 7] (fun b i => ∃ (q : Nat) (bs : ByteArray), q ≤ a.length ∧ i = .int .i64 (q : Int) ∧ b = .string bs ∧ bs.size ≤ 4 ∧ LonI t a q bs) (fun _ i => a.length - (intOf i).toNat)
  case atStart => exact ⟨0, ⟨#[]⟩, Nat.zero_le _, rfl, rfl, by decide, LonI.start t a⟩
  case round =>
    obtain ⟨q, bs, hq, rfl, rfl, hb4, hlo⟩ := hrel
    have HLO := Lib.hid hlo
    clear hlo
    by_cases hlt : q < a.length
    · obtain ⟨b, off, hao, lb, d0, -, -⟩ := HCE.out q hlt
      have d0 := (hw.cell (p := ⟨b, _, none⟩) lb).trans d0
      subst hao
      have hsz := (isSym_size (HSY.out a[q] (List.getElem_mem hlt))).2
      have HK := Lib.hid (HLO.out.keep hlt)
      have HT := Lib.hid (HLO.out.take hlt)
      clear hw HCE HLO
      generalize a[q] = x at *
      obtain ⟨sy, s⟩ := x
      simp only at d0 hsz
      have HK : Hid ((bs.size < sy.size → hasP t sy = false) → LonI t a (q + 1) bs) := HK
      have HT : Hid (bs.size < sy.size → hasP t sy = true → LonI t a (q + 1) sy) := HT
      by_cases h1 : bs.size < sy.size
      · have g1 : decide (bs.size < sy.size) = true := decide_eq_true h1
        have g1' : decide ((bs.size : Int) < (sy.size : Int)) = true := decide_eq_true (by omega)
        by_cases h2 : sy.size ≤ t.size
        · have g2 : decide (sy.size ≤ t.size) = true := decide_eq_true h2
          have g2' : decide ((sy.size : Int) ≤ (t.size : Int)) = true := decide_eq_true (by omega)
          by_cases h3 : t.extract 0 sy.size = sy
          · have g3 : ((t.extract 0 sy.size).toList == sy.toList) = true := by rw [toList_beq]; exact decide_eq_true h3
            have HT := Lib.hid (HT.out h1 (hasP_true h2 h3))
            clear h3 HK
            go_wp2_with fail
            go_round
            case rel => exact ⟨q + 1, sy, by omega, by go_num, rfl, hsz, HT.out⟩
            case measure => simp [intOf]; omega
          · have g3 : ((t.extract 0 sy.size).toList == sy.toList) = false := by rw [toList_beq]; exact decide_eq_false h3
            have HK := Lib.hid (HK.out fun _ => hasP_not h3)
            clear h3 HT
            go_wp2_with fail
            go_round
            case rel => exact ⟨q + 1, bs, by omega, by go_num, rfl, hb4, HK.out⟩
            case measure => simp [intOf]; omega
        · have g2 : decide (sy.size ≤ t.size) = false := decide_eq_false h2
          have g2' : decide ((sy.size : Int) ≤ (t.size : Int)) = false := decide_eq_false (by omega)
          have HK := Lib.hid (HK.out fun _ => hasP_far h2)
          clear HT
          go_wp2_with fail
          go_round
          case rel => exact ⟨q + 1, bs, by omega, by go_num, rfl, hb4, HK.out⟩
          case measure => simp [intOf]; omega
      · have g1 : decide (bs.size < sy.size) = false := decide_eq_false h1
        have g1' : decide ((bs.size : Int) < (sy.size : Int)) = false := decide_eq_false (by omega)
        have HK := Lib.hid (HK.out fun h => absurd h h1)
        clear HT
        go_wp2_with fail
        go_round
        case rel => exact ⟨q + 1, bs, by omega, by go_num, rfl, hb4, HK.out⟩
        case measure => simp [intOf]; omega
    · obtain rfl : q = a.length := by omega
      have HV0 := Lib.hid (HV.out bs HLO.out)
      clear HV HLO
      by_cases h0 : bs.size = 0
      · have e0 : bs.toList.isEmpty = true := by rw [empty_toList]; exact decide_eq_true h0
        have e1 : decide (bs.size ≠ 0) = false := decide_eq_false (by omega)
        rw [e1] at HV0
        go_wp2_with fail
        go_ret2
        exact ⟨by rw [HV0.out]; rfl, hw⟩
      · have e0 : bs.toList.isEmpty = false := by rw [empty_toList]; exact decide_eq_false h0
        have e1 : decide (bs.size ≠ 0) = true := decide_eq_true h0
        rw [e1] at HV0
        go_wp2_with fail
        go_ret2
        exact ⟨by rw [HV0.out]; rfl, hw⟩
end Go.Proofs.Ytmgikhldkebjbaa

/-
  The specification's Add.
-/
namespace Go.Proofs.Ytmgikhldkebjbaa
open Go.RowKit Go.Shelf Go.Sort
theorem RInv.app {w w' : World} {base R : Nat} {l : List ByteArray} {a a' : List (ByteArray × Snd)} {nv av : Value} {g m cap : Nat} (h : RInv w base R l a nv av) (hg : w.grownBy w' av.ownBlock) (ho : OwnN w' base (.slice (some ⟨g, 0, none⟩) m cap) a') :
    w'.heap[R]? = w.heap[R]? ∧ RInv (w'.setCell ⟨R, 2, none⟩ (.slice (some ⟨g, 0, none⟩) m cap)) base R l a' nv (.slice (some ⟨g, 0, none⟩) m cap) := by
  have kB := hg.block R (Array.getElem?_eq_some_iff.1 h.blk).1 (fun e => own_far h.added h.blk (by intro cs fz e; simp at e) e.symm)
  have hs := set_grown w' R 2 (.slice (some ⟨g, 0, none⟩) m cap)
  have blk' := kB.trans h.blk
  have nn : OwnS w' base nv l := World.ownsRow.kept h.names hg (by
    cases hv : nv.ownBlock with
    | none => exact .inl rfl
    | some q =>
      refine .inr fun e => ?_
      obtain ⟨_, ⟨rfl, _⟩ | ⟨g1, _, _, rfl, _, hh, _⟩⟩ := h.names
      · cases hv
      · exact own_far h.added hh (by intro cs fz e; simp at e) (by simp only [Value.ownBlock] at hv e ⊢; rw [← e, hv]))
  refine ⟨kB, ?_, World.ownsRow.kept nn hs (.inr (own_far nn blk' (by intro cs fz e; simp at e))), World.ownsRow.kept ho hs (.inr (own_far ho blk' (by intro cs fz e; simp at e))), h.hR⟩
  simp only [World.setCell]
  rw [Array.getElem?_modify, if_pos rfl, blk']
  simp
theorem RInv.blk_lt {w : World} {base R : Nat} {l : List ByteArray} {a : List (ByteArray × Snd)} {nv av : Value} (h : RInv w base R l a nv av) : w.heap.size ≠ 0 := by have := h.lt; omega
set_option maxRecDepth 100000 in
set_option maxHeartbeats 8000000 in
theorem radd_any {w : World} {base R : Nat} {l : List ByteArray} {a : List (ByteArray × Snd)} {nv av : Value} (h : RInv w base R l a nv av) (k : ByteArray) (s : Snd) (hk : k.size ≤ 9223372036854775807) (hl : l.length ≤ 24) (ha : a.length ≤ 256) : Calls Try.prog 24 #[.pointer (some ⟨R, 0, none⟩), .string k, snv s] w fun e w' => e = .returned (.int .i64 (addE l a k s)) ∧ ((addE l a k s ≠ 0 ∧ Below w.heap.size w w') ∨ (addE l a k s = 0 ∧ ∃ av', RInv w' base R l (a ++ [(k, s)]) nv av' ∧ Touch w w' R R R av ∧ ∀ k, av'.ownBlock = some k → av.ownBlock = some k ∨ w.heap.size ≤ k)) := by
  have hR := h.lt
  obtain ⟨ao, ac, rfl⟩ := h.added.slice
  have hY := fun W => rIsSym_any k hk W
  have hH := fun W (hW : RInv W base R l a nv (.slice ao a.length ac)) => rbel_any hW hl s
  have hmd := fun (W : World) (hb : Below w.heap.size w W) => rmade_yes R W (h.below hb).cells.1
  have hsp := h.added.sp
  obtain ⟨_, _, hv2, _, _, hcells⟩ := hsp.open
  cases hv2
  generalize hEE : addE l a k s = E at *
  have hE1 := hEE
  unfold addE at hE1
  have hhit : ∀ q (hq : q < a.length), (a[q].1 = k ∨ a[q].2 = s) → ((sndOf a k).isSome || (symOf a s).isSome) = true := fun q hq hor => by
    rcases hor with e | e
    · rw [sndOf_some ⟨a[q], List.getElem_mem hq, e.symm⟩, Bool.true_or]
    · rw [symOf_some ⟨a[q], List.getElem_mem hq, e.symm⟩, Bool.or_true]
  have hmiss : (∀ j (hj : j < a.length), a[j].1 ≠ k ∧ a[j].2 ≠ s) → ((sndOf a k).isSome || (symOf a s).isSome) = false := fun hh => by
    rw [sndOf_all (fun j hj => (hh j hj).1), symOf_all (fun j hj => (hh j hj).2)]; rfl
  generalize ((sndOf a k).isSome || (symOf a s).isSome) = have_ at *
  generalize isSym k = y at *
  generalize hasB l.length s = hb at *
  obtain ⟨p, m⟩ := s
  have HI := Lib.hid h; have HA := Lib.hid ha; have HY := Lib.hid hY; have HH := Lib.hid hH; have HMD := Lib.hid hmd; have HCE := Lib.hid hcells; have HHIT := Lib.hid hhit; have HMISS := Lib.hid hmiss
  have HNB : Hid (R < w.heap.size ∧ Value.ownBlock (.slice ao a.length ac) ≠ some w.heap.size) := Lib.hid ⟨hR, fun e => by have := own_lt h.added e; omega⟩
  unfold snv at *
  clear hY hH hmd hsp hcells hhit hmiss h hEE
  have hw0 := (Below.refl w.heap.size w).alloc (Nat.le_refl _) (.cells #[.int .u32 p.toNat, .int .u32 m.toNat] 39)
  have k0 := cell_block (World.alloc_heap_new w (.cells #[.int .u32 p.toNat, .int .u32 m.toNat] 39)) (o := 0) rfl
  have k1 := cell_block (World.alloc_heap_new w (.cells #[.int .u32 p.toNat, .int .u32 m.toNat] 39)) (o := 1) rfl
  go_enter Try.func24, Try.ntmps24
  go_wp2_with fail
  go_at_call 45
  refine Gives.then (HMD.out _ hw0) ?_
  intro w1 hb1
  have hw1 := hw0.trans (hb1.mono hw0.size)
  have r0 := (hb1.cell (p := ⟨w.heap.size, 0, none⟩) (by simp)).trans k0
  have r1 := (hb1.cell (p := ⟨w.heap.size, 1, none⟩) (by simp)).trans k1
  have lw : w.heap.size < w1.heap.size := by have := hb1.size; rw [World.size_alloc] at this; omega
  clear hb1 k0 k1 hw0 HMD
  go_wp2_with fail
  go_at_call 48
  refine Gives.then (HY.out _) ?_
  intro w2 hb2
  have hw2 := hw1.trans (hb2.mono hw1.size)
  have r0 := (hb2.cell (p := ⟨w.heap.size, 0, none⟩) lw).trans r0
  have r1 := (hb2.cell (p := ⟨w.heap.size, 1, none⟩) lw).trans r1
  have lw := Nat.lt_of_lt_of_le lw hb2.size
  clear hb2 hw1 HY
  cases y
  · go_wp2_with fail
    go_returns
    have hE2 : E = 15 := hE1.symm
    exact ⟨by rw [hE2]; rfl, .inl ⟨by rw [hE2]; decide, hw2⟩⟩
  · go_wp2_with fail
    go_at_call 49
    refine Gives.then (HH.out _ (HI.out.below hw2)) ?_
    intro w3 hb3
    have hw3 := hw2.trans (hb3.mono hw2.size)
    have r0 := (hb3.cell (p := ⟨w.heap.size, 0, none⟩) lw).trans r0
    have r1 := (hb3.cell (p := ⟨w.heap.size, 1, none⟩) lw).trans r1
    have lw := Nat.lt_of_lt_of_le lw hb3.size
    clear hb3 hw2 HH
    cases hb
    · go_wp2_with fail
      go_returns
      have hE2 : E = 14 := hE1.symm
      exact ⟨by rw [hE2]; rfl, .inl ⟨by rw [hE2]; decide, hw3⟩⟩
    · have q1 := (hw3.cell (p := ⟨R, 2, none⟩) hR).trans HI.out.cells.2.2
      have HW3 := Lib.hid hw3
      go_wp2_with fail
      go_loopw [7] (fun i wr => ∃ q : Nat, q ≤ a.length ∧ i = .int .i64 (q : Int) ∧ (∀ j (hj : j < a.length), j < q → a[j].1 ≠ k ∧ a[j].2 ≠ (p, m)) ∧ Below w3.heap.size w3 wr) (fun i _ => a.length - (intOf i).toNat)
      case atStart => exact ⟨0, Nat.zero_le _, rfl, (fun j _ hj => by omega), Below.refl _ _⟩
      case round =>
        obtain ⟨q, hq, rfl, hno, hwr⟩ := hrel
        have hwq := HW3.out.trans (hwr.mono HW3.out.size)
        have c0 := (hwr.cell (p := ⟨w.heap.size, 0, none⟩) lw).trans r0
        have c1 := (hwr.cell (p := ⟨w.heap.size, 1, none⟩) lw).trans r1
        have c2 := (hwq.cell (p := ⟨R, 2, none⟩) hR).trans HI.out.cells.2.2
        have HWQ := Lib.hid hwq; have HWR := Lib.hid hwr; have HNO := Lib.hid hno
        have lwr : w.heap.size < wr.heap.size := Nat.lt_of_lt_of_le lw hwr.size
        clear hno hwr hw3
        by_cases hlt : q < a.length
        · obtain ⟨b, off, hao, lb, d0, d1, d2⟩ := HCE.out q hlt
          have d0 := (hwq.cell (p := ⟨b, _, none⟩) lb).trans d0
          have d1 := (hwq.cell (p := ⟨b, _, none⟩) lb).trans d1
          have d2 := (hwq.cell (p := ⟨b, _, none⟩) lb).trans d2
          subst hao
          have hhit := HHIT.out q hlt
          have hmore : a[q].1 ≠ k → a[q].2 ≠ (p, m) → ∀ j (hj : j < a.length), j < q + 1 → a[j].1 ≠ k ∧ a[j].2 ≠ (p, m) := fun h1 h2 j hj hj2 => by
            by_cases e : j = q
            · subst e; exact ⟨h1, h2⟩
            · exact HNO.out j hj (by omega)
          have HM := Lib.hid hmore; have HT := Lib.hid hhit
          clear hwq hmore hhit HCE r0 r1 q1 HMISS HHIT HI HNB
          generalize a[q] = x at *
          obtain ⟨sy, p2, m2⟩ := x
          simp only at d0 d1 d2
          have f3 := fun W => eqlY (p2.toNat : Int) (m2.toNat : Int) (p.toNat : Int) (m.toNat : Int) W
          by_cases h1 : sy = k
          · have e1 : (sy.toList == k.toList) = true := by rw [toList_beq]; exact decide_eq_true h1
            have hv := HT.out (.inl h1)
            have hE2 : E = 6 := by rw [← hE1, hv]; rfl
            clear h1 HM HT hv hE1 f3
            go_wp2_with fail
            go_quiet (fail)
            have HWD := Lib.hid (below_drewN HWQ.out nq)
            clear HWQ HWR c0 c1 c2 d0 d1 d2
            generalize wr.drewN nq = wd at *
            go_wp2_with fail
            go_returns
            exact ⟨by rw [hE2]; rfl, .inl ⟨by rw [hE2]; decide, HWD.out⟩⟩
          · have e1 : (sy.toList == k.toList) = false := by rw [toList_beq]; exact decide_eq_false h1
            by_cases h2 : (p2, m2) = (p, m)
            · have f2 : (((p2.toNat : Int) == (p.toNat : Int)) && ((m2.toNat : Int) == (m.toNat : Int))) = true := by
                cases h2; simp
              rw [f2] at f3
              have hv := HT.out (.inr h2)
              have hE2 : E = 6 := by rw [← hE1, hv]; rfl
              clear h1 h2 HM HT hv hE1 f2
              go_wp2_with fail
              go_quiet (fail)
              have HWD := Lib.hid (below_drewN HWQ.out nq)
              clear HWQ HWR c0 c1 c2 d0 d1 d2
              generalize wr.drewN nq = wd at *
              go_wp2_with fail
              go_returns
              exact ⟨by rw [hE2]; rfl, .inl ⟨by rw [hE2]; decide, HWD.out⟩⟩
            · have f2 : (((p2.toNat : Int) == (p.toNat : Int)) && ((m2.toNat : Int) == (m.toNat : Int))) = false := by
                rw [Bool.eq_false_iff]
                intro e
                rw [Bool.and_eq_true, beq_iff_eq, beq_iff_eq] at e
                have z1 : p2 = p := BitVec.eq_of_toNat_eq (by omega)
                have z2 : m2 = m := BitVec.eq_of_toNat_eq (by omega)
                exact h2 (by rw [z1, z2])
              rw [f2] at f3
              have HM := Lib.hid (HM.out h1 h2)
              clear h1 h2 HT f2
              go_wp2_with fail
              go_quiet (fail)
              have HWD := Lib.hid (below_drewN HWR.out nq)
              clear HWQ HWR c0 c1 c2 d0 d1 d2
              generalize wr.drewN nq = wd at *
              go_wp2_with fail
              go_roundw
              case rel => exact ⟨q + 1, by omega, by go_num, HM.out, HWD.out⟩
              case measure => simp [intOf]; omega
        · obtain rfl : q = a.length := by omega
          have hv := HMISS.out fun j hj => HNO.out j hj hj
          subst hv
          clear HCE HHIT HMISS HNO r0 r1 q1 hwq HWR
          by_cases h256 : a.length = 256
          · have hE2 : E = 4 := by rw [← hE1]; simp [h256]
            have g1 : decide ((256 : Int) ≤ (a.length : Int)) = true := decide_eq_true (by omega)
            have g2 : decide (256 ≤ a.length) = true := decide_eq_true (by omega)
            go_wp2_with fail
            go_returns
            exact ⟨by rw [hE2]; rfl, .inl ⟨by rw [hE2]; decide, HWQ.out⟩⟩
          · have hE2 : E = 0 := by rw [← hE1]; simp; omega
            have g1 : decide ((256 : Int) ≤ (a.length : Int)) = false := decide_eq_false (by omega)
            have g2 : decide (256 ≤ a.length) = false := decide_eq_false (by omega)
            have H3 := Lib.hid (HI.out.below HWQ.out)
            have lR := H3.out.lt
            have HT4 := Lib.hid (Touch.below (B := R) (bs := R) (by_ := R) (av := .slice ao a.length ac) HWQ.out)
            have tc2 := fun X => cell_past (X := X) lR c2
            have te0 := fun X => cell_past (X := X) lwr c0
            have te1 := fun X => cell_past (X := X) lwr c1
            have HLA : Hid (a.length + 1 ≤ 1000000) := Lib.hid (by have := HA.out; omega)
            have HLW := Lib.hid lwr
            clear HI HWQ hE1
            go_wp2_with fail
            go_region_law (refine step_appN2 rfl (.tmp 59) (.tmp 63) rfl base wr.heap.size (.slice ao a.length ac) a k p m rfl rfl ?_ (World.ownsRow.drew (World.ownsRow.alloc H3.out.added _)) HLA.out ?_ ?_; (next => exact World.alloc_heap_new wr _); (next => (have h1 := H3.out.hR; have h2 := H3.out.lt; show base ≤ (wr.alloc _).heap.size; rw [World.size_alloc]; omega)); intro g6 c6 n6 w6 ho6 hg6 hn6; have HN6 : Hid (Value.ownBlock (.slice ao a.length ac) = some g6 ∨ w.heap.size ≤ g6) := Lib.hid (hn6.imp id (fun e => by have := HLW.out; rw [e]; show w.heap.size ≤ (wr.alloc _).heap.size; rw [World.size_alloc]; omega)); clear hn6; have hb5 := ((Below.refl _ wr).alloc (Nat.le_refl _) (.cells #[.string k, .int .u32 p.toNat, .int .u32 m.toNat] 47)).drew; have h5 := H3.out.below hb5; have hap := h5.app hg6 ho6; have c36 := cell_block (hap.1.trans h5.blk) (o := 2) rfl; have f36 := frozen_block (o := 2) (hap.1.trans h5.blk); have H6 := Lib.hid hap.2; have HG6 := Lib.hid hg6; have HB5 := Lib.hid hb5; clear hap h5 ho6 hg6 hb5)
            all_goals (
              have hg7 := set_grown w6 R 2 (.slice (some ⟨g6, 0, none⟩) n6 c6)
              have HT7 := Lib.hid (((HT4.out.then_below HB5.out).grown HG6.out (fun q e => .inr (.inr (.inr (.inl e))))).grown hg7 (fun q e => by cases e; exact .inl rfl))
              clear hg7 HG6 HB5 HT4 H3 c0 c1 c2 lR tc2 te0 te1
              go_wp2_with fail
              go_returns
              exact ⟨by rw [hE2]; rfl, .inr ⟨hE2, .slice (some ⟨g6, 0, none⟩) n6 c6, H6.out, HT7.out, fun k e => by simp only [Value.ownBlock, Option.some.injEq] at e; rw [← e]; exact HN6.out⟩⟩)
end Go.Proofs.Ytmgikhldkebjbaa

/-
  agree.
-/
namespace Go.Proofs.Ytmgikhldkebjbaa
open Go.RowKit Go.Shelf Go.Sort
set_option maxRecDepth 100000 in
set_option maxHeartbeats 4000000 in
theorem agree_core {w : World} (q r : Option Addr) (k t : ByteArray) (p m : BitVec 32) (u v : Int) (b1 : Bool) (y : ByteArray) (b2 : Bool) (x : ByteArray) (b3 : Bool) (n : Int)
    (h1 : ∀ W, Below w.heap.size w W → Gives 33 #[.pointer q, .string k] W (.tuple #[.agg #[.int .u32 u, .int .u32 v], .bool b1]))
    (h2 : ∀ W, Below w.heap.size w W → Gives 50 #[.pointer r, .string k] W (.tuple #[.agg #[.int .u32 u, .int .u32 v], .bool b1]))
    (h3 : ∀ W, Below w.heap.size w W → Gives 34 #[.pointer q, .agg #[.int .u32 (p.toNat : Int), .int .u32 (m.toNat : Int)]] W (.tuple #[.string y, .bool b2]))
    (h4 : ∀ W, Below w.heap.size w W → Gives 51 #[.pointer r, .agg #[.int .u32 (p.toNat : Int), .int .u32 (m.toNat : Int)]] W (.tuple #[.string y, .bool b2]))
    (h5 : ∀ W, Below w.heap.size w W → Gives 35 #[.pointer q, .string t] W (.tuple #[.string x, .bool b3]))
    (h6 : ∀ W, Below w.heap.size w W → Gives 52 #[.pointer r, .string t] W (.tuple #[.string x, .bool b3]))
    (h7 : ∀ W, Below w.heap.size w W → Gives 22 #[.pointer q] W (.int .i64 n))
    (h8 : ∀ W, Below w.heap.size w W → Gives 53 #[.pointer r] W (.int .i64 n)) :
    Gives 25 #[.pointer q, .pointer r, .agg #[.string k, .int .u32 (p.toNat : Int), .int .u32 (m.toNat : Int)], .string t] w (.bool true) := by
  unfold Gives
  have hb0 := (Below.refl w.heap.size w).alloc (Nat.le_refl _) (.cells #[.string k, .int .u32 (p.toNat : Int), .int .u32 (m.toNat : Int)] 41)
  have k0 := cell_block (World.alloc_heap_new w (.cells #[.string k, .int .u32 (p.toNat : Int), .int .u32 (m.toNat : Int)] 41)) (o := 0) rfl
  have k1 := cell_block (World.alloc_heap_new w (.cells #[.string k, .int .u32 (p.toNat : Int), .int .u32 (m.toNat : Int)] 41)) (o := 1) rfl
  have k2 := cell_block (World.alloc_heap_new w (.cells #[.string k, .int .u32 (p.toNat : Int), .int .u32 (m.toNat : Int)] 41)) (o := 2) rfl
  have H1 := Lib.hid h1; have H2 := Lib.hid h2; have H3 := Lib.hid h3; have H4 := Lib.hid h4; have H5 := Lib.hid h5; have H6 := Lib.hid h6; have H7 := Lib.hid h7; have H8 := Lib.hid h8
  clear h1 h2 h3 h4 h5 h6 h7 h8
  have f3 := fun W => eqlY u v u v W
  have f2 : (u == u && v == v) = true := by simp
  rw [f2] at f3
  clear f2
  go_enter Try.func25, Try.ntmps25
  go_wp2_with fail
  go_at_call 33
  refine Gives.then (H1.out _ hb0) ?_
  intro w1 hb1
  have hw1 := hb0.trans (hb1.mono hb0.size)
  have r0 := (hb1.cell (p := ⟨w.heap.size, 0, none⟩) (by simp)).trans k0
  have r1 := (hb1.cell (p := ⟨w.heap.size, 1, none⟩) (by simp)).trans k1
  have r2 := (hb1.cell (p := ⟨w.heap.size, 2, none⟩) (by simp)).trans k2
  have lw : w.heap.size < w1.heap.size := by have := hb1.size; rw [World.size_alloc] at this; omega
  have hx1 := hw1.alloc hw1.size (.cells #[.int .u32 u, .int .u32 v] 39)
  have s0 := cell_block (World.alloc_heap_new w1 (.cells #[.int .u32 u, .int .u32 v] 39)) (o := 0) rfl
  have s1 := cell_block (World.alloc_heap_new w1 (.cells #[.int .u32 u, .int .u32 v] 39)) (o := 1) rfl
  have t0 := fun X => cell_past (X := X) lw r0
  have t1 := fun X => cell_past (X := X) lw r1
  have t2 := fun X => cell_past (X := X) lw r2
  have HX1 := Lib.hid hx1
  clear hb1 hw1 hb0 k0 k1 k2 H1 hx1
  go_wp2_with fail
  go_at_call 50
  refine Gives.then (H2.out _ HX1.out) ?_
  intro w2 hb2
  have hw2 := HX1.out.trans (hb2.mono HX1.out.size)
  have lw1 : w1.heap.size < w2.heap.size := by have := hb2.size; rw [World.size_alloc] at this; omega
  have r0 := (hb2.cell (p := ⟨w.heap.size, 0, none⟩) (by show w.heap.size < _; rw [World.size_alloc]; omega)).trans (t0 _)
  have r1 := (hb2.cell (p := ⟨w.heap.size, 1, none⟩) (by show w.heap.size < _; rw [World.size_alloc]; omega)).trans (t1 _)
  have r2 := (hb2.cell (p := ⟨w.heap.size, 2, none⟩) (by show w.heap.size < _; rw [World.size_alloc]; omega)).trans (t2 _)
  have s0 := (hb2.cell (p := ⟨w1.heap.size, 0, none⟩) (by simp)).trans s0
  have s1 := (hb2.cell (p := ⟨w1.heap.size, 1, none⟩) (by simp)).trans s1
  have lw : w.heap.size < w2.heap.size := by omega
  clear t0 t1 t2
  have hx2 := hw2.alloc hw2.size (.cells #[.int .u32 u, .int .u32 v] 39)
  have d0 := cell_block (World.alloc_heap_new w2 (.cells #[.int .u32 u, .int .u32 v] 39)) (o := 0) rfl
  have d1 := cell_block (World.alloc_heap_new w2 (.cells #[.int .u32 u, .int .u32 v] 39)) (o := 1) rfl
  have t0 := fun X => cell_past (X := X) lw r0
  have t1 := fun X => cell_past (X := X) lw r1
  have t2 := fun X => cell_past (X := X) lw r2
  have HX2 := Lib.hid hx2
  clear hb2 hw2 H2 hx2
  go_wp2_with fail
  go_at_call 34
  refine Gives.then (H3.out _ HX2.out) ?_
  intro w3 hb3
  have hw3 := HX2.out.trans (hb3.mono HX2.out.size)
  have lw2 : w2.heap.size < w3.heap.size := by have := hb3.size; rw [World.size_alloc] at this; omega
  have r1 := (hb3.cell (p := ⟨w.heap.size, 1, none⟩) (by show w.heap.size < _; rw [World.size_alloc]; omega)).trans (t1 _)
  have r2 := (hb3.cell (p := ⟨w.heap.size, 2, none⟩) (by show w.heap.size < _; rw [World.size_alloc]; omega)).trans (t2 _)
  have s0 := (hb3.cell (p := ⟨w1.heap.size, 0, none⟩) (by show w1.heap.size < _; rw [World.size_alloc]; omega)).trans (cell_past lw1 s0)
  have s1 := (hb3.cell (p := ⟨w1.heap.size, 1, none⟩) (by show w1.heap.size < _; rw [World.size_alloc]; omega)).trans (cell_past lw1 s1)
  have d0 := (hb3.cell (p := ⟨w2.heap.size, 0, none⟩) (by simp)).trans d0
  have d1 := (hb3.cell (p := ⟨w2.heap.size, 1, none⟩) (by simp)).trans d1
  have lw : w.heap.size < w3.heap.size := by omega
  have lw1 : w1.heap.size < w3.heap.size := by omega
  have HX3 := Lib.hid hw3
  clear hb3 hw3 H3 t0 t1 t2 r0
  go_wp2_with fail
  go_at_call 51
  refine Gives.then (H4.out _ HX3.out) ?_
  intro w4 hb4
  have hw4 := HX3.out.trans (hb4.mono HX3.out.size)
  have s0 := (hb4.cell (p := ⟨w1.heap.size, 0, none⟩) lw1).trans s0
  have s1 := (hb4.cell (p := ⟨w1.heap.size, 1, none⟩) lw1).trans s1
  have d0 := (hb4.cell (p := ⟨w2.heap.size, 0, none⟩) lw2).trans d0
  have d1 := (hb4.cell (p := ⟨w2.heap.size, 1, none⟩) lw2).trans d1
  have lw1 := Nat.lt_of_lt_of_le lw1 hb4.size
  have lw2 := Nat.lt_of_lt_of_le lw2 hb4.size
  have HX4 := Lib.hid hw4
  clear hb4 hw4 H4 r1 r2
  go_wp2_with fail
  go_at_call 35
  refine Gives.then (H5.out _ HX4.out) ?_
  intro w5 hb5
  have hw5 := HX4.out.trans (hb5.mono HX4.out.size)
  have s0 := (hb5.cell (p := ⟨w1.heap.size, 0, none⟩) lw1).trans s0
  have s1 := (hb5.cell (p := ⟨w1.heap.size, 1, none⟩) lw1).trans s1
  have d0 := (hb5.cell (p := ⟨w2.heap.size, 0, none⟩) lw2).trans d0
  have d1 := (hb5.cell (p := ⟨w2.heap.size, 1, none⟩) lw2).trans d1
  have lw1 := Nat.lt_of_lt_of_le lw1 hb5.size
  have lw2 := Nat.lt_of_lt_of_le lw2 hb5.size
  have HX5 := Lib.hid hw5
  clear hb5 hw5 H5
  go_wp2_with fail
  go_at_call 52
  refine Gives.then (H6.out _ HX5.out) ?_
  intro w6 hb6
  have hw6 := HX5.out.trans (hb6.mono HX5.out.size)
  have s0 := (hb6.cell (p := ⟨w1.heap.size, 0, none⟩) lw1).trans s0
  have s1 := (hb6.cell (p := ⟨w1.heap.size, 1, none⟩) lw1).trans s1
  have d0 := (hb6.cell (p := ⟨w2.heap.size, 0, none⟩) lw2).trans d0
  have d1 := (hb6.cell (p := ⟨w2.heap.size, 1, none⟩) lw2).trans d1
  have HX6 := Lib.hid hw6
  have ey : (y.toList == y.toList) = true := by simp
  have ex : (x.toList == x.toList) = true := by simp
  clear hb6 hw6 H6
  cases b1 <;> cases b2 <;> cases b3
  all_goals (
    go_wp2_with fail
    go_at_call 22
    refine Gives.then (H7.out _ HX6.out) ?_
    intro w7 hb7
    have HX7 := Lib.hid (HX6.out.trans (hb7.mono HX6.out.size))
    clear hb7
    go_wp2_with fail
    go_at_call 53
    refine Gives.then (H8.out _ HX7.out) ?_
    intro w8 hb8
    have HX8 := Lib.hid (HX7.out.trans (hb8.mono HX7.out.size))
    clear hb8
    go_wp2_with fail
    go_returns
    exact ⟨by simp, HX8.out⟩)
theorem agree_any {w : World} {base base2 B R : Nat} {l l2 : List ByteArray} {a : List (ByteArray × Snd)} {nv av nv2 av2 : Value} {bf bs by_ : Nat} (hI : Inv w base B l a nv av bf bs by_) (hR : RInv w base2 R l2 a nv2 av2) (ha : a.length ≤ 256) (hs : ∀ x ∈ a, isSym x.1 = true) (k t : ByteArray) (p m : BitVec 32) (ht : t.size ≤ 9223372036854775807) : Gives 25 #[.pointer (some ⟨B, 0, none⟩), .pointer (some ⟨R, 0, none⟩), .agg #[.string k, .int .u32 (p.toNat : Int), .int .u32 (m.toNat : Int)], .string t] w (.bool true) :=
  agree_core _ _ k t p m _ _ _ _ _ _ _ _ (fun W hb => sound_any (hI.below hb) k) (fun W hb => rsound_any (hR.below hb) ha k) (fun W hb => symbol_any (hI.below hb) (p, m)) (fun W hb => rsymbol_any (hR.below hb) ha (p, m)) (fun W hb => longest_any (hI.below hb) t ht) (fun W hb => rlongest_any (hR.below hb) ha hs t ht) (fun W hb => len_any (hI.below hb)) (fun W hb => rlen_any (hR.below hb) ha)
theorem agree_nil (k t : ByteArray) (p m : BitVec 32) (w : World) : Gives 25 #[.pointer none, .pointer none, .agg #[.string k, .int .u32 (p.toNat : Int), .int .u32 (m.toNat : Int)], .string t] w (.bool true) :=
  agree_core none none k t p m 0 0 false ⟨#[]⟩ false ⟨#[]⟩ false 0 (fun W _ => no_sound (noInv_nil W) k) (fun W _ => rsound_nil k W) (fun W _ => no_symbol (noInv_nil W) (p, m)) (fun W _ => rsymbol_nil (p, m) W) (fun W _ => no_longest (noInv_nil W) t) (fun W _ => rlongest_nil t W) (fun W _ => no_len (noInv_nil W)) (fun W _ => rlen_nil W)
end Go.Proofs.Ytmgikhldkebjbaa

/-
  InventoryPlays: the two inventories side by side.
-/
namespace Go.Proofs.Ytmgikhldkebjbaa
open Go.RowKit Go.Shelf Go.Sort
theorem Apart.symm {v u : Value} (h : Apart v u) : Apart u v := fun k h1 h2 => h k h2 h1
theorem touch_block2 {w w' : World} {base R b : Nat} {l : List ByteArray} {a : List (ByteArray × Snd)} {nv av : Value} {o : Obj} (h : RInv w base R l a nv av) (ht : Touch w w' R R R av) (hb : w.heap[b]? = some o) (hne : ∀ cs, o ≠ .cells cs 85 (0, 0)) (hn : ∀ cs fz, o ≠ .cells cs 47 fz) : w'.heap[b]? = some o :=
  have hr := ne_of_obj hb h.blk (hne _)
  (ht.2.2.2.2 b (Array.getElem?_eq_some_iff.1 hb).1 hr hr hr (own_far h.added hb hn)).trans hb
theorem OwnS.hold {w w' : World} {base : Nat} {v : Value} {l : List ByteArray} (h : OwnS w base v l) (hk : ∀ (b : Nat) cs fz, w.heap[b]? = some (.cells cs 9 fz) → w'.heap[b]? = some (.cells cs 9 fz)) : OwnS w' base v l := by
  obtain ⟨hl, h0 | ⟨g, cap, cur, hv, hg, hb, hr⟩⟩ := h
  · exact ⟨hl, .inl h0⟩
  · exact ⟨hl, .inr ⟨g, cap, cur, hv, hg, hk g _ _ hb, hr⟩⟩
theorem RInv.touch {w w' : World} {base base2 B R : Nat} {l l2 : List ByteArray} {a a2 : List (ByteArray × Snd)} {nv av nv2 av2 : Value} {bf bs by_ : Nat} (hR : RInv w base2 R l2 a2 nv2 av2) (hI : Inv w base B l a nv av bf bs by_) (hd : Apart av2 av) (ht : Touch w w' B bs by_ av) : RInv w' base2 R l2 a2 nv2 av2 :=
  ⟨touch_block hI ht hR.blk (by intro cs e; simp at e) (by intro es n e; cases e) (by intro cs fz e; simp at e),
    hR.names.hold (fun b cs fz hb => touch_block hI ht hb (by intro cs e; simp at e) (by intro es n e; cases e) (by intro cs fz e; simp at e)),
    hR.added.touch hI hd ht, hR.hR⟩
theorem Inv.rtouch {w w' : World} {base base2 B R : Nat} {l l2 : List ByteArray} {a a2 : List (ByteArray × Snd)} {nv av nv2 av2 : Value} {bf bs by_ : Nat} (hI : Inv w base B l a nv av bf bs by_) (hR : RInv w base2 R l2 a2 nv2 av2) (hd : Apart av av2) (ht : Touch w w' R R R av2) : Inv w' base B l a nv av bf bs by_ := by
  obtain ⟨e1, e2, e3⟩ := hI.feats.obj
  obtain ⟨s1, s2, s3⟩ := hI.sounds.obj
  obtain ⟨y1, y2, y3⟩ := hI.symbols.obj
  have kB := touch_block2 hR ht hI.blk (by intro cs e; simp at e) (by intro cs fz e; simp at e)
  have kf := touch_block2 hR ht e3 (by intro cs e; cases e) (by intro cs fz e; cases e)
  have ks := touch_block2 hR ht s3 (by intro cs e; cases e) (by intro cs fz e; cases e)
  have ky := touch_block2 hR ht y3 (by intro cs e; cases e) (by intro cs fz e; cases e)
  have na : OwnN w' base av a := by
    have n1 := own_far hI.added hR.blk (by intro cs fz e; simp at e)
    obtain ⟨hl, h0 | ⟨g, cap, cur, hv2, hg, hb, hr⟩⟩ := hI.added
    · exact ⟨hl, .inl h0⟩
    · subst hv2
      simp only [Value.ownBlock, ne_eq, Option.some.injEq] at n1
      exact ⟨hl, .inr ⟨g, cap, cur, rfl, hg, (ht.2.2.2.2 g (Array.getElem?_eq_some_iff.1 hb).1 n1 n1 n1 (hd g rfl)).trans hb, hr⟩⟩
  exact ⟨kB, hI.names.hold (fun b cs fz hb => touch_block2 hR ht hb (by intro cs e; simp at e) (by intro cs fz e; simp at e)), hI.feats.keep (kf.trans e3.symm), na, hI.sounds.keep (ks.trans s3.symm), hI.symbols.keep (ky.trans y3.symm), hI.hB, hI.hf, hI.hs, hI.hy, hI.n1, hI.n2, hI.n3⟩
theorem rtouch_below {w wr w' : World} {base R : Nat} {l : List ByteArray} {a : List (ByteArray × Snd)} {nv av : Value} (h : RInv wr base R l a nv av) (hw : Below base w wr) (hb : base ≤ wr.heap.size) (ht : Touch wr w' R R R av) : Below base w w' :=
  hw.trans (ht.toBelow hb h.hR h.hR h.hR (fun k e => by
    obtain ⟨_, ⟨hv, _⟩ | ⟨g, _, _, hv, hg, _⟩⟩ := h.added
    · rw [hv] at e; cases e
    · rw [hv] at e; simp only [Value.ownBlock, Option.some.injEq] at e; omega))
/-- The program's inventory with some sounds, and the specification's with others; or none of the two. -/
def PlM (w : World) (l : List ByteArray) (q r : Option Addr) (a b : List (ByteArray × Snd)) (W : World) : Prop :=
  Below w.heap.size w W ∧ ((q = none ∧ r = none) ∨ ∃ B R nv av nv2 av2 bf bs by_, q = some ⟨B, 0, none⟩ ∧ r = some ⟨R, 0, none⟩ ∧ l.length ≤ 24 ∧ Inv W w.heap.size B l a nv av bf bs by_ ∧ RInv W w.heap.size R l b nv2 av2 ∧ Apart av av2)
theorem PlM.below {w W W' : World} {l : List ByteArray} {q r : Option Addr} {a b : List (ByteArray × Snd)} (h : PlM w l q r a b W) (hb : Below W.heap.size W W') : PlM w l q r a b W' := by
  obtain ⟨h1, h2⟩ := h
  refine ⟨h1.trans (hb.mono h1.size), h2.imp id ?_⟩
  rintro ⟨B, R, nv, av, nv2, av2, bf, bs, by_, hq, hr, hl, hI, hR, hd⟩
  exact ⟨B, R, nv, av, nv2, av2, bf, bs, by_, hq, hr, hl, hI.below hb, hR.below hb, hd⟩
/-- What Add answers, and which sounds there are then. -/
def plE (q : Option Addr) (l : List ByteArray) (a : List (ByteArray × Snd)) (k : ByteArray) (s : Snd) : Int := match q with
  | none => 1
  | some _ => addE l a k s
def plA (q : Option Addr) (l : List ByteArray) (a : List (ByteArray × Snd)) (k : ByteArray) (s : Snd) : List (ByteArray × Snd) := if plE q l a k s = 0 then a ++ [(k, s)] else a
/-- Steps in memory are left as they were. -/
def Stp (W W' : World) : Prop := W.heap.size ≤ W'.heap.size ∧ ∀ (b : Nat) cs, W.heap[b]? = some (.cells cs 41 (0, 0)) → W'.heap[b]? = some (.cells cs 41 (0, 0))
theorem Stp.of_below {W W' : World} (h : Below W.heap.size W W') : Stp W W' := ⟨h.size, fun b cs hb => (h.block b (Array.getElem?_eq_some_iff.1 hb).1).trans hb⟩
theorem pl_add {w W : World} {l : List ByteArray} {q r : Option Addr} {a : List (ByteArray × Snd)} (h : PlM w l q r a a W) (ha : a.length ≤ 256) (k : ByteArray) (s : Snd) (hk : k.size ≤ 9223372036854775807) : Calls Try.prog 23 #[.pointer q, .string k, snv s] W fun e W' => e = .returned (.int .i64 (plE q l a k s)) ∧ PlM w l q r (plA q l a k s) a W' ∧ Stp W W' := by
  obtain ⟨h1, ⟨rfl, rfl⟩ | ⟨B, R, nv, av, nv2, av2, bf, bs, by_, rfl, rfl, hl, hI, hR, hd⟩⟩ := h
  · exact Calls.mono (no_add (noInv_nil W) k s) fun e W' ⟨he, hb⟩ => ⟨he, ⟨h1.trans (hb.mono h1.size), .inl ⟨rfl, rfl⟩⟩, .of_below hb⟩
  · refine (add_all hI k s hk hl ha).mono ?_
    rintro e W' ⟨he, ⟨h0, hb⟩ | ⟨h0, av', hI2, hT, hF⟩⟩
    · refine ⟨he, ⟨h1.trans (hb.mono h1.size), .inr ⟨B, R, nv, av, nv2, av2, bf, bs, by_, rfl, rfl, hl, ?_, hR.below hb, hd⟩⟩, .of_below hb⟩
      have e2 : plA (some ⟨B, 0, none⟩) l a k s = a := if_neg h0
      rw [e2]
      exact hI.below hb
    · refine ⟨he, ⟨touch_below hI h1 h1.size hT, .inr ⟨B, R, nv, av', nv2, av2, bf, bs, by_, rfl, rfl, hl, ?_, hR.touch hI hd.symm hT, ?_⟩⟩, hT.2.2.2.1, fun b cs hb => touch_block hI hT hb (by intro cs e; simp at e) (by intro es n e; cases e) (by intro cs fz e; simp at e)⟩
      · have e2 : plA (some ⟨B, 0, none⟩) l a k s = a ++ [(k, s)] := if_pos h0
        rw [e2]
        exact hI2
      · intro q e e2
        rcases hF q e with h1 | h1
        · exact hd q h1 e2
        · have := own_lt hR.added e2
          omega
theorem pl_radd {w W : World} {l : List ByteArray} {q r : Option Addr} {a : List (ByteArray × Snd)} {k : ByteArray} {s : Snd} (h : PlM w l q r (plA q l a k s) a W) (ha : a.length ≤ 256) (hk : k.size ≤ 9223372036854775807) : Calls Try.prog 24 #[.pointer r, .string k, snv s] W fun e W' => e = .returned (.int .i64 (plE q l a k s)) ∧ PlM w l q r (plA q l a k s) (plA q l a k s) W' ∧ Stp W W' := by
  obtain ⟨h1, ⟨rfl, rfl⟩ | ⟨B, R, nv, av, nv2, av2, bf, bs, by_, rfl, rfl, hl, hI, hR, hd⟩⟩ := h
  · exact Calls.mono (radd_nil k s W) fun e W' ⟨he, hb⟩ => ⟨he, ⟨h1.trans (hb.mono h1.size), .inl ⟨rfl, rfl⟩⟩, .of_below hb⟩
  · refine (radd_any hR k s hk hl ha).mono ?_
    rintro e W' ⟨he, ⟨h0, hb⟩ | ⟨h0, av', hR2, hT, hF⟩⟩
    · refine ⟨he, ⟨h1.trans (hb.mono h1.size), .inr ⟨B, R, nv, av, nv2, av2, bf, bs, by_, rfl, rfl, hl, hI.below hb, ?_, hd⟩⟩, .of_below hb⟩
      have e2 : plA (some ⟨B, 0, none⟩) l a k s = a := if_neg h0
      rw [e2]
      exact hR.below hb
    · refine ⟨he, ⟨rtouch_below hR h1 h1.size hT, .inr ⟨B, R, nv, av, nv2, av', bf, bs, by_, rfl, rfl, hl, hI.rtouch hR hd hT, ?_, ?_⟩⟩, hT.2.2.2.1, fun b cs hb => touch_block2 hR hT hb (by intro cs e; simp at e) (by intro cs fz e; simp at e)⟩
      · have e2 : plA (some ⟨B, 0, none⟩) l a k s = a ++ [(k, s)] := if_pos h0
        rw [e2]
        exact hR2
      · refine Apart.symm fun q e e2 => ?_
        rcases hF q e with h1 | h1
        · exact hd q e2 h1
        · have := own_lt hI.added e2
          omega
theorem pl_agree {w W : World} {l : List ByteArray} {q r : Option Addr} {a : List (ByteArray × Snd)} (h : PlM w l q r a a W) (ha : a.length ≤ 256) (hs : ∀ x ∈ a, isSym x.1 = true) (k t : ByteArray) (p m : BitVec 32) (ht : t.size ≤ 9223372036854775807) : Gives 25 #[.pointer q, .pointer r, .agg #[.string k, .int .u32 (p.toNat : Int), .int .u32 (m.toNat : Int)], .string t] W (.bool true) := by
  obtain ⟨h1, ⟨rfl, rfl⟩ | ⟨B, R, nv, av, nv2, av2, bf, bs, by_, rfl, rfl, hl, hI, hR, hd⟩⟩ := h
  · exact agree_nil k t p m W
  · exact agree_any hI hR ha hs k t p m ht
theorem plA_len {q : Option Addr} {l : List ByteArray} {a : List (ByteArray × Snd)} {k : ByteArray} {s : Snd} (ha : a.length ≤ 256) : (plA q l a k s).length ≤ 256 := by
  unfold plA
  split
  · rename_i h0
    cases q with
    | none => cases h0
    | some x =>
      have := addE_len (show addE l a k s = 0 from h0)
      simp; omega
  · exact ha
theorem plA_sym {q : Option Addr} {l : List ByteArray} {a : List (ByteArray × Snd)} {k : ByteArray} {s : Snd} (hs : ∀ x ∈ a, isSym x.1 = true) : ∀ x ∈ plA q l a k s, isSym x.1 = true := by
  unfold plA
  split
  · rename_i h0
    cases q with
    | none => cases h0
    | some z =>
      intro y hy
      rcases List.mem_append.1 hy with hy | hy
      · exact hs y hy
      · rw [List.mem_singleton.1 hy]; exact addE_sym (show addE l a k s = 0 from h0)
  · exact hs
/-- The sounds that both lists hold. -/
def plL (q : Option Addr) (a : List (ByteArray × Snd)) : List (ByteArray × Snd) := match q with
  | none => []
  | some _ => a
theorem sp_nil (w : World) : Sp w (.slice none 0 0) [] := .inl ⟨rfl, rfl⟩
theorem pl_sounds {w W : World} {l : List ByteArray} {q r : Option Addr} {a : List (ByteArray × Snd)} (h : PlM w l q r a a W) (ha : a.length ≤ 256) : Calls Try.prog 27 #[.pointer q] W fun e W' => ∃ v, e = .returned v ∧ Sp W' v (plL q a) ∧ Below W.heap.size W W' := by
  obtain ⟨h1, ⟨rfl, rfl⟩ | ⟨B, R, nv, av, nv2, av2, bf, bs, by_, rfl, rfl, hl, hI, hR, hd⟩⟩ := h
  · exact Calls.mono (no_sounds (noInv_nil W)) fun e W' ⟨he, hb⟩ => ⟨_, he, sp_nil W', hb⟩
  · exact (sounds_any hI ha).mono fun e W' ⟨v, he, ho, hb⟩ => ⟨v, he, ho.sp, hb⟩
theorem pl_rsounds {w W : World} {l : List ByteArray} {q r : Option Addr} {a : List (ByteArray × Snd)} (h : PlM w l q r a a W) (ha : a.length ≤ 256) : Calls Try.prog 28 #[.pointer r] W fun e W' => ∃ v, e = .returned v ∧ Sp W' v (plL q a) ∧ Below W.heap.size W W' := by
  obtain ⟨h1, ⟨rfl, rfl⟩ | ⟨B, R, nv, av, nv2, av2, bf, bs, by_, rfl, rfl, hl, hI, hR, hd⟩⟩ := h
  · exact Calls.mono (rsounds_nil W) fun e W' ⟨he, hb⟩ => ⟨_, he, sp_nil W', hb⟩
  · exact (rsounds_any hR ha).mono fun e W' ⟨v, he, ho, hb⟩ => ⟨v, he, ho.sp, hb⟩
/-- What both returns is the state at the start. -/
theorem Both.pl {w W : World} {l : List ByteArray} {pv pr : Value} (h : Both W w.heap.size l pv pr) (hb : Below w.heap.size w W) : ∃ q r, pv = .pointer q ∧ pr = .pointer r ∧ PlM w l q r [] [] W := by
  rcases h with ⟨_, rfl, rfl⟩ | ⟨h0, B, R, nv, bf, bs, by_, rv, rfl, rfl, hI, hR⟩
  · exact ⟨none, none, rfl, rfl, hb, .inl ⟨rfl, rfl⟩⟩
  · exact ⟨_, _, rfl, rfl, hb, .inr ⟨B, R, nv, _, rv, _, bf, bs, by_, rfl, rfl, newE_len h0, hI, hR, fun k e => by cases e⟩⟩
end Go.Proofs.Ytmgikhldkebjbaa

/-
  InventoryPlays: the walk.
-/
namespace Go.Proofs.Ytmgikhldkebjbaa
open Go.RowKit Go.Shelf Go.Sort
theorem Stp.trans {a b c : World} (h : Stp a b) (k : Stp b c) : Stp a c := ⟨Nat.le_trans h.1 k.1, fun x cs hx => k.2 x cs (h.2 x cs hx)⟩
/-- What one round calls: the two Adds answer the same, and the inventories agree. -/
theorem pl_round {w1 wx : World} {l : List ByteArray} {q r : Option Addr} {a : List (ByteArray × Snd)} {g b o : Nat} {sy sy2 t : ByteArray} {p m p2 m2 : BitVec 32} (h : PlM w1 l q r a a wx) (ha : a.length ≤ 256) (hs : ∀ x ∈ a, isSym x.1 = true) (hsy : sy.size ≤ 1048576) (ht : t.size ≤ 1048576)
    (H8 : wx.heap[g]? = some (.cells #[.string sy, .int .u32 (p.toNat : Int), .int .u32 (m.toNat : Int)] 41 (0, 0))) (hb : b < w1.heap.size)
    (f0 : w1.cell? ⟨b, o, none⟩ = some (.string sy2)) (f1 : w1.cell? ⟨b, o + 1, none⟩ = some (.int .u32 (p2.toNat : Int))) (f2 : w1.cell? ⟨b, o + 2, none⟩ = some (.int .u32 (m2.toNat : Int))) :
    ∃ (E : Int) (P0 P1 P2 : World → Prop), P0 wx ∧ (∀ W, P0 W → P0 W.drew) ∧ (∀ W, P1 W → P1 W.drew) ∧ (∀ W, P2 W → P2 W.drew) ∧
      (∀ W, P0 W → Calls Try.prog 23 #[.pointer q, .string sy, .agg #[.int .u32 (p.toNat : Int), .int .u32 (m.toNat : Int)]] W fun e W' => e = .returned (.int .i64 E) ∧ P1 W') ∧
      (∀ W, P1 W → Calls Try.prog 24 #[.pointer r, .string sy, .agg #[.int .u32 (p.toNat : Int), .int .u32 (m.toNat : Int)]] W fun e W' => e = .returned (.int .i64 E) ∧ P2 W') ∧
      (∀ W, P2 W → Calls Try.prog 25 #[.pointer q, .pointer r, .agg #[.string sy, .int .u32 (p.toNat : Int), .int .u32 (m.toNat : Int)], .string t] W fun e W' => e = .returned (.bool true) ∧ P2 W') ∧
      (∀ W, P2 W → Calls Try.prog 25 #[.pointer q, .pointer r, .agg #[.string sy2, .int .u32 (p2.toNat : Int), .int .u32 (m2.toNat : Int)], .string (sy ++ t)] W fun e W' => e = .returned (.bool true) ∧ P2 W') ∧
      (∀ W, P0 W ∨ P1 W ∨ P2 W → W.cell? ⟨g, 0, none⟩ = some (.string sy) ∧ W.cell? ⟨g, 1, none⟩ = some (.int .u32 (p.toNat : Int)) ∧ W.cell? ⟨g, 2, none⟩ = some (.int .u32 (m.toNat : Int)) ∧ W.cell? ⟨b, o, none⟩ = some (.string sy2) ∧ W.cell? ⟨b, o + 1, none⟩ = some (.int .u32 (p2.toNat : Int)) ∧ W.cell? ⟨b, o + 2, none⟩ = some (.int .u32 (m2.toNat : Int))) ∧
      (∀ W, P2 W → ∃ a2 : List (ByteArray × Snd), a2.length ≤ 256 ∧ (∀ x ∈ a2, isSym x.1 = true) ∧ PlM w1 l q r a2 a2 W) := by
  have hsz : (sy ++ t).size ≤ 9223372036854775807 := by rw [ByteArray.size_append]; omega
  have key : ∀ (c d : List (ByteArray × Snd)) (W : World), PlM w1 l q r c d W ∧ W.heap[g]? = some (.cells #[.string sy, .int .u32 (p.toNat : Int), .int .u32 (m.toNat : Int)] 41 (0, 0)) →
      W.cell? ⟨g, 0, none⟩ = some (.string sy) ∧ W.cell? ⟨g, 1, none⟩ = some (.int .u32 (p.toNat : Int)) ∧ W.cell? ⟨g, 2, none⟩ = some (.int .u32 (m.toNat : Int)) ∧ W.cell? ⟨b, o, none⟩ = some (.string sy2) ∧ W.cell? ⟨b, o + 1, none⟩ = some (.int .u32 (p2.toNat : Int)) ∧ W.cell? ⟨b, o + 2, none⟩ = some (.int .u32 (m2.toNat : Int)) := fun c d W ⟨h1, h2⟩ =>
    ⟨cell_block h2 rfl, cell_block h2 rfl, cell_block h2 rfl, (h1.1.cell (p := ⟨b, o, none⟩) hb).trans f0, (h1.1.cell (p := ⟨b, o + 1, none⟩) hb).trans f1, (h1.1.cell (p := ⟨b, o + 2, none⟩) hb).trans f2⟩
  have drw : ∀ (c d : List (ByteArray × Snd)) (W : World), PlM w1 l q r c d W ∧ W.heap[g]? = some (.cells #[.string sy, .int .u32 (p.toNat : Int), .int .u32 (m.toNat : Int)] 41 (0, 0)) →
      PlM w1 l q r c d W.drew ∧ W.drew.heap[g]? = some (.cells #[.string sy, .int .u32 (p.toNat : Int), .int .u32 (m.toNat : Int)] 41 (0, 0)) := fun c d W ⟨h1, h2⟩ => ⟨h1.below (Below.refl _ _).drew, h2⟩
  have h2l := plA_len (q := q) (l := l) (k := sy) (s := (p, m)) ha
  have h2s := plA_sym (q := q) (l := l) (k := sy) (s := (p, m)) hs
  refine ⟨plE q l a sy (p, m), fun W => PlM w1 l q r a a W ∧ W.heap[g]? = _, fun W => PlM w1 l q r (plA q l a sy (p, m)) a W ∧ W.heap[g]? = _, fun W => PlM w1 l q r (plA q l a sy (p, m)) (plA q l a sy (p, m)) W ∧ W.heap[g]? = _, ⟨h, H8⟩, drw _ _, drw _ _, drw _ _, fun W hW => ?_, fun W hW => ?_, fun W hW => ?_, fun W hW => ?_, fun W hW => ?_, fun W hW => ⟨_, h2l, h2s, hW.1⟩⟩
  · exact (pl_add hW.1 ha sy (p, m) (by omega)).mono fun e W' ⟨he, h1, h2⟩ => ⟨he, h1, h2.2 _ _ hW.2⟩
  · exact (pl_radd hW.1 ha (by omega)).mono fun e W' ⟨he, h1, h2⟩ => ⟨he, h1, h2.2 _ _ hW.2⟩
  · exact Calls.mono (pl_agree hW.1 h2l h2s sy t p m (by omega)) fun e W' ⟨he, hb⟩ => ⟨he, hW.1.below hb, (Stp.of_below hb).2 _ _ hW.2⟩
  · exact Calls.mono (pl_agree hW.1 h2l h2s sy2 (sy ++ t) p2 m2 hsz) fun e W' ⟨he, hb⟩ => ⟨he, hW.1.below hb, (Stp.of_below hb).2 _ _ hW.2⟩
  · rcases hW with h | h | h
    · exact key _ _ W h
    · exact key _ _ W h
    · exact key _ _ W h
end Go.Proofs.Ytmgikhldkebjbaa

/-
  InventoryPlays: the walk.
-/
namespace Go.Proofs.Ytmgikhldkebjbaa
open Go.RowKit Go.Shelf Go.Sort
set_option maxRecDepth 100000 in
set_option maxHeartbeats 8000000 in
theorem plays_any (l : List ByteArray) (v : Value) (ls : List (ByteArray × Snd)) (lv : Value) (t : ByteArray) (w : World) (hx : ∀ x ∈ l, x.size ≤ maxLen) (hy : ∀ x ∈ ls, x.1.size ≤ 1048576) (ht : t.size ≤ 1048576) (h : Ss w v l) (h2 : Sp w lv ls) : Gives 4 #[v, lv, .string t] w (.bool true) := by
  unfold Gives
  have hfew := fun (W : World) (hb : Below w.heap.size w W) => few_some l [t] v (.slice (some ⟨W.heap.size, 0, none⟩) 1 1) (W.alloc (.cells #[.string t] 9)) (h.below (hb.alloc hb.size _)) (ss_one W t) hx (fun x hh => by
    obtain rfl : x = t := by simpa using hh
    unfold maxLen; omega)
  have hboth := fun (W : World) (hb : Below w.heap.size w W) => both_any l v W hx (h.below hb)
  obtain ⟨ao, cap, rfl, -, -, -⟩ := h.open
  obtain ⟨lo, lcap, rfl, lc1, lm1, hc⟩ := h2.open
  unfold maxLen at lm1
  have l1 : ls.length ≤ 9223372036854775807 := by omega
  have HF := Lib.hid hfew; have HBo := Lib.hid hboth; have HC := Lib.hid hc; have HY := Lib.hid hy; have HT := Lib.hid ht
  clear hfew hboth h h2 hx hc hy
  go_enter Try.func4, Try.ntmps4
  go_wp2_with fail
  go_loopw [7, 17] (fun n i wr => ∃ (k : Nat) (z : Int), k ≤ ls.length ∧ i = .int .i64 (k : Int) ∧ n = .int .i64 z ∧ Below w.heap.size w wr) (fun _ i _ => ls.length - (intOf i).toNat)
  case atStart => exact ⟨0, 0, Nat.zero_le _, rfl, rfl, Below.refl _ _⟩
  case round =>
    obtain ⟨k, z, hk, rfl, rfl, hw⟩ := hrel
    by_cases hlt : k < ls.length
    · obtain ⟨b, off, hao, lb, d0, d1, d2⟩ := HC.out k hlt
      have d0 := (hw.cell (p := ⟨b, _, none⟩) lb).trans d0
      have d1 := (hw.cell (p := ⟨b, _, none⟩) lb).trans d1
      have d2 := (hw.cell (p := ⟨b, _, none⟩) lb).trans d2
      have hsy := HY.out ls[k] (List.getElem_mem hlt)
      have HWA := Lib.hid (hw.alloc hw.size (.cells #[.string ls[k].1, .int .u32 (ls[k].2.1.toNat : Int), .int .u32 (ls[k].2.2.toNat : Int)] 41))
      subst hao
      clear HC HY HF HBo hw
      generalize ls[k] = x at *
      obtain ⟨sy, p, m⟩ := x
      simp only at d0 d1 d2 hsy HWA
      go_wp2_with fail
      go_roundw
      case rel => exact ⟨k + 1, _, by omega, by go_num, rfl, HWA.out⟩
      case measure => simp [intOf]; omega
    · obtain rfl : k = ls.length := by omega
      have hw1' := hw.alloc hw.size (.cells #[.string t] 9)
      have hfw := HF.out wr hw
      have HFW := Lib.hid hfw; have HW1' := Lib.hid hw1'
      clear hfw hw1' HF hw
      go_wp2_with fail
      go_at_call 13
      refine HFW.out.mono ?_
      rintro e w1 ⟨F, rfl, -, hb⟩
      have hw1 := HW1'.out.trans (hb.mono HW1'.out.size)
      clear hb HFW HW1'
      cases F
      · go_wp2_with (go_at_call 14; refine Gives.then (works_any _) ?_; intro w2 hb2)
        go_returns
        exact ⟨rfl, hw1.trans (hb2.mono hw1.size)⟩
      · by_cases g3 : 300 < ls.length
        · have e3 : decide (300 < ls.length) = true := decide_eq_true g3
          have e3' : decide ((300 : Int) < (ls.length : Int)) = true := decide_eq_true (by omega)
          go_wp2_with (go_at_call 14; refine Gives.then (works_any _) ?_; intro w2 hb2)
          go_returns
          exact ⟨rfl, hw1.trans (hb2.mono hw1.size)⟩
        · have e3 : decide (300 < ls.length) = false := decide_eq_false g3
          have e3' : decide ((300 : Int) < (ls.length : Int)) = false := decide_eq_false (by omega)
          by_cases g4 : 4000 < z
          · have e4 : decide ((4000 : Int) < z) = true := decide_eq_true g4
            go_wp2_with (go_at_call 14; refine Gives.then (works_any _) ?_; intro w2 hb2)
            go_returns
            exact ⟨rfl, hw1.trans (hb2.mono hw1.size)⟩
          · have e4 : decide ((4000 : Int) < z) = false := decide_eq_false g4
            go_wp2_with fail
            go_at_call 16
            refine (HBo.out w1 hw1).mono ?_
            rintro e w3 ⟨hb3, pv, pr, rfl, hBB⟩
            obtain ⟨q, r, rfl, rfl, hpl⟩ := hBB.pl hb3
            have HW1 := Lib.hid hw1; have HPL := Lib.hid hpl
            clear hBB hb3 HBo hw1 hpl e3 e3' e4 g4 hk
            go_wp2_with fail
            go_loopw [52] (fun i wr => ∃ (k : Nat) (a : List (ByteArray × Snd)), k ≤ ls.length ∧ i = .int .i64 (k : Int) ∧ a.length ≤ 256 ∧ (∀ x ∈ a, isSym x.1 = true) ∧ PlM w1 l q r a a wr) (fun i _ => ls.length - (intOf i).toNat)
            case atStart => exact ⟨0, [], Nat.zero_le _, rfl, by decide, (fun x hh => by cases hh), HPL.out⟩
            case round =>
              obtain ⟨k, a, hk, rfl, ha, hs, hp⟩ := hrel
              have HP := Lib.hid hp; have HS := Lib.hid hs
              clear hp hs HPL
              by_cases hlt : k < ls.length
              · obtain ⟨q2, hq2⟩ : ∃ q2, k / 2 = q2 := ⟨_, rfl⟩
                have hq2l : q2 < ls.length := by omega
                obtain ⟨b, off, hao, lb, d0, d1, d2⟩ := HC.out k hlt
                obtain ⟨b', off', hao', lb', f0, f1, f2⟩ := HC.out q2 hq2l
                subst hao
                cases hao'
                have hbw := HP.out.1
                have lb1 : b < w1.heap.size := Nat.lt_of_lt_of_le lb HW1.out.size
                have d0 := (hbw.cell (p := ⟨b, _, none⟩) lb1).trans ((HW1.out.cell (p := ⟨b, _, none⟩) lb).trans d0)
                have d1 := (hbw.cell (p := ⟨b, _, none⟩) lb1).trans ((HW1.out.cell (p := ⟨b, _, none⟩) lb).trans d1)
                have d2 := (hbw.cell (p := ⟨b, _, none⟩) lb1).trans ((HW1.out.cell (p := ⟨b, _, none⟩) lb).trans d2)
                have f0 := (HW1.out.cell (p := ⟨b, _, none⟩) lb).trans f0
                have f1 := (HW1.out.cell (p := ⟨b, _, none⟩) lb).trans f1
                have f2 := (HW1.out.cell (p := ⟨b, _, none⟩) lb).trans f2
                have hsy := HY.out ls[k] (List.getElem_mem hlt)
                have hr := pl_round (wx := wr.alloc (.cells #[.string ls[k].1, .int .u32 (ls[k].2.1.toNat : Int), .int .u32 (ls[k].2.2.toNat : Int)] 41)) (HP.out.below ((Below.refl _ wr).alloc (Nat.le_refl _) _)) ha HS.out hsy HT.out (World.alloc_heap_new wr _) lb1 f0 f1 f2
                obtain ⟨E, P0, P1, P2, hp0, D0, D1, D2, C1, C2, C3, C4, KK, KE⟩ := hr
                have HP0 := Lib.hid hp0; have HC1 := Lib.hid C1; have HC2 := Lib.hid C2; have HC3 := Lib.hid C3; have HC4 := Lib.hid C4; have HKK := Lib.hid KK; have HKE := Lib.hid KE
                have HD0 := Lib.hid D0; have HD1 := Lib.hid D1; have HD2 := Lib.hid D2
                have c1 : ((k : Int) / 2) = (q2 : Int) := by omega
                have c2 : Int.tdiv (k : Int) 2 = (q2 : Int) := by rw [Int.tdiv_eq_ediv_of_nonneg (by omega)]; omega
                have c3 : IntKind.i64.wrap (q2 : Int) = (q2 : Int) := IntWalk.i64_in _ (by omega)
                have c4 : (0 : Int) ≤ (q2 : Int) := by omega
                have c5 : (q2 : Int) < (ls.length : Int) := by omega
                clear hp0 C1 C2 C3 C4 KK KE D0 D1 D2 HC HY f0 f1 f2 hbw lb lb' HP HW1
                generalize ls[k] = x at *
                generalize ls[q2] = x2 at *
                obtain ⟨sy, p, m⟩ := x
                obtain ⟨sy2, p2, m2⟩ := x2
                simp only at d0 d1 d2 hsy HP0 HC1 HC2 HC3 HC4 HKK
                go_wp2_with fail
                refine wp_gen ?_
                intro wx hwx
                rw [← hwx] at HP0
                have hP0 : P0 wx := HP0.out
                obtain ⟨s0, s1, s2, s3, s4, s5⟩ := HKK.out wx (.inl HP0.out)
                obtain ⟨g, hg⟩ : ∃ g, wr.heap.size = g := ⟨_, rfl⟩
                rw [hg] at HKK s0 s1 s2
                rw [hg]
                clear hwx hg d0 d1 d2 f0 f1 f2 HP0
                have c6 : ¬ (9223372036854775807 < sy.size + t.size) := by omega
                have c7 : (9223372036854775807 < sy.size + t.size) = False := eq_false c6
                go_region_held3 (fun w' => w'.cell? ⟨g, 0, none⟩ = some (.string sy) ∧ w'.cell? ⟨g, 1, none⟩ = some (.int .u32 (p.toNat : Int)) ∧ w'.cell? ⟨g, 2, none⟩ = some (.int .u32 (m.toNat : Int)) ∧ w'.cell? ⟨b, off + q2 * 3, none⟩ = some (.string sy2) ∧ w'.cell? ⟨b, off + q2 * 3 + 1, none⟩ = some (.int .u32 (p2.toNat : Int)) ∧ w'.cell? ⟨b, off + q2 * 3 + 2, none⟩ = some (.int .u32 (m2.toNat : Int)))
                  (first | exact HKK.out _ (.inl (by first | assumption | exact HD0.out _ (by assumption))) | exact HKK.out _ (.inr (.inl (by first | assumption | exact HD1.out _ (by assumption)))) | exact HKK.out _ (.inr (.inr (by first | assumption | exact HD2.out _ (by assumption)))))
                  (first
                    | (go_at_call 23; (with_reducible refine (HC1.out _ ?_).mono ?_); (next => first | assumption | exact HD0.out _ (by assumption)); rintro e w5 ⟨rfl, hP1⟩)
                    | (go_at_call 24; (with_reducible refine (HC2.out _ ?_).mono ?_); (next => first | assumption | exact HD1.out _ (by assumption)); rintro e w5 ⟨rfl, hP2⟩)
                    | (go_at_call 25; (with_reducible refine (HC3.out _ ?_).mono ?_); (next => first | assumption | exact HD2.out _ (by assumption)); rintro e w5 ⟨rfl, hP2⟩)
                    | (go_at_call 25; (with_reducible refine (HC4.out _ ?_).mono ?_); (next => first | assumption | exact HD2.out _ (by assumption)); rintro e w5 ⟨rfl, hP2⟩))
                have HP2 := Lib.hid hP2
                clear hP0 hP1 hP2 s0 s1 s2 s3 s4 s5 c1 c2 c3 c4 c5 c6 c7
                go_wp2_with fail
                obtain ⟨a2, ha2, hs2, hp2⟩ := HKE.out _ HP2.out
                go_roundw
                case rel => exact ⟨k + 1, a2, by omega, by go_num, ha2, hs2, hp2⟩
                case measure => simp [intOf]; omega
              · obtain rfl : k = ls.length := by omega
                have hso := pl_sounds HP.out ha
                have HSO := Lib.hid hso
                clear hso HC HY
                go_wp2_with fail
                go_at_call 27
                refine HSO.out.mono ?_
                rintro e w5 ⟨v5, rfl, hs5, hb5⟩
                have HP5 := Lib.hid (HP.out.below hb5)
                have hrs := pl_rsounds HP5.out ha
                obtain ⟨a5, c5, hv5, -, -, -⟩ := hs5.open
                subst hv5
                have HS5 := Lib.hid hs5; have HRS := Lib.hid hrs
                clear hs5 hb5 hrs HSO
                go_wp2_with fail
                go_at_call 28
                refine HRS.out.mono ?_
                rintro e w6 ⟨v6, rfl, hs6, hb6⟩
                have HP6 := Lib.hid (HP5.out.below hb6)
                have heq := eqN_same _ _ _ w6 (HS5.out.below hb6) hs6
                obtain ⟨a6, c6, hv6, -, -, -⟩ := hs6.open
                subst hv6
                have HEQ := Lib.hid heq
                clear hs6 hb6 heq HRS
                go_wp2_with fail
                go_at_call 26
                refine Gives.then HEQ.out ?_
                intro w7 hb7
                have HP7 := Lib.hid (HP6.out.below hb7)
                clear hb7 HEQ
                go_wp2_with (go_at_call 14; refine Gives.then (works_any _) ?_; intro w8 hb8)
                have hp8 := (HP7.out.below hb8).1
                go_returns
                exact ⟨rfl, HW1.out.trans (hp8.mono HW1.out.size)⟩
end Go.Proofs.Ytmgikhldkebjbaa

/-
  How a list of steps is read: with the bound on their symbols.
-/
namespace Go.Proofs.Ytmgikhldkebjbaa
set_option maxRecDepth 100000
open Go.ChangeShapes Go.WideShapes Go.ChangeAt Go.RowKit Go.Joins
/-- The three cells of a step in memory. -/
theorem step_bulk {H : Type} {enc : TypeId × Value → H} {w : World} {base n : Nat} {spare : Nat → Bool} {held : Bool} {a : Addr} {y : DataW H × List MemPlace}
    (h : (w.cells? base a 3).bind (DataW.trod enc Try.prog w base spare held n 41) = some y) : ∃ x : ByteArray × Snd, w.cell? a = some (.string x.1) ∧ w.cell? (a.add 1) = some (.int .u32 x.2.1.toNat) ∧ w.cell? (a.add 2) = some (.int .u32 x.2.2.toNat) ∧ x.1.size ≤ maxLen ∧ x.1.size ≤ Rows.uptoBulk y.1 := by
  rw [Option.bind_eq_some_iff] at h
  obtain ⟨cs, hc, ht⟩ := h
  unfold World.cells? at hc
  split at hc
  · rw [show List.range 3 = [0, 1, 2] from rfl] at hc
    simp only [List.mapM_cons, List.mapM_nil, Option.bind_eq_bind, Option.pure_def, Option.bind_eq_some_iff, Option.some.injEq] at hc
    obtain ⟨c0, h0, l1, ⟨c1, h1, l2, ⟨c2, h2, l3, rfl, rfl⟩, rfl⟩, rfl⟩ := hc
    obtain ⟨y0, y1, m, hy, _, t0, t1⟩ := trod_struct2 Try.underlying41 ht
    have k1 : Try.prog.cellsOf 9 = 1 := by kernel_rfl
    have k2 : Try.prog.cellsOf 39 = 2 := by kernel_rfl
    have k3 : Try.prog.cellsOf 37 = 1 := by kernel_rfl
    simp only [k1, k2, List.take_succ_cons, List.take_zero, List.drop_succ_cons, List.drop_zero] at t0 t1
    obtain ⟨s, e0, hy0, hs⟩ := DataW.trod_string Try.underlying9 t0
    obtain ⟨z0, z1, m2, _, _, u0, u1⟩ := trod_struct2 Try.underlying39 t1
    simp only [k3] at u0 u1
    obtain ⟨a0, f0, _, w0⟩ := DataW.trod_int Try.underlying37 u0
    obtain ⟨a1, f1, _, w1⟩ := DataW.trod_int Try.underlying37 u1
    obtain ⟨x0, rfl⟩ := u32_bv w0
    obtain ⟨x1, rfl⟩ := u32_bv w1
    simp at e0 f0 f1
    subst e0; subst f0; subst f1
    have hb : s.size ≤ Rows.uptoBulk y.1 := by
      rw [hy, hy0]
      simp only [Rows.uptoBulk, Rows.uptoBulkAll]
      have e : s.data.toList.length = s.size := by rw [Array.length_toList]; rfl
      omega
    refine ⟨(s, (x0, x1)), ?_, h1, h2, hs, hb⟩
    simpa [Addr.add] using h0
  · cases hc
/-- How a list of steps is read: by its slice and its cells. -/
theorem open_steps_bulk {H : Type} {enc : TypeId × Value → H} {w : World} {base : Nat} {spare : Nat → Bool} {held : Bool} {r : Reach} {b0 : Nat} {v : Value} {d : DataW H} {p : List MemPlace}
    (hv : Value.okWide Try.prog w r b0 36 v) (h : DataW.Trod enc Try.prog w base spare held 36 v d p) : ∃ l : List (ByteArray × Snd), Sp w v l ∧ ∀ x ∈ l, x.1.size ≤ maxLen ∧ x.1.size ≤ Rows.uptoBulk d := by
  obtain ⟨fuel, hf⟩ := h
  have hk : Try.prog.cellsOf 41 = 3 := by kernel_rfl
  rcases DataW.trod_slice Try.underlying36 hf with ⟨h0, _⟩ | ⟨a, len, cap, elems, rest, n, _, hcs, hxx, _, hl, hm, hlen, hel, _, _⟩
  · simp [Value.cells] at h0
    obtain ⟨ao, ln, cp, rfl⟩ := okWide_slice Try.underlying36 hv
    simp at h0
    obtain ⟨rfl, rfl, rfl⟩ := h0
    exact ⟨[], .inl ⟨rfl, rfl⟩, fun x hx => by cases hx⟩
  · obtain ⟨ao, ln, cp, rfl⟩ := okWide_slice Try.underlying36 hv
    simp [Value.cells] at hcs
    obtain ⟨rfl, rfl, rfl⟩ := hcs
    have hok : Cell.ok Try.prog w r b0 36 (.slice (some a) ln cp) := by
      simpa [Value.okWide, Cell.okWide, Try.underlying36] using hv
    have hhas : ln ≤ cp ∧ (cp : Int) ≤ IntKind.i64.max ∧ w.has Try.prog r b0 a 41 cp := by
      simpa [Cell.ok, Try.underlying36] using hok
    obtain ⟨_, hsp, row, cells, hsh, _⟩ := hhas.2.2
    obtain ⟨ab, aoff, asp⟩ := a
    simp only at hsp
    subst hsp
    have hblk : ab < w.heap.size := by
      unfold World.shape? at hsh
      simp only at hsh
      rcases Nat.lt_or_ge ab w.heap.size with h1 | h1
      · exact h1
      · rw [Array.getElem?_eq_none h1] at hsh; cases hsh
    have each : ∀ i, i < ln → ∃ x : ByteArray × Snd, w.cell? ⟨ab, aoff + i * 3, none⟩ = some (.string x.1) ∧ w.cell? ⟨ab, aoff + i * 3 + 1, none⟩ = some (.int .u32 x.2.1.toNat) ∧ w.cell? ⟨ab, aoff + i * 3 + 2, none⟩ = some (.int .u32 x.2.2.toNat) ∧ x.1.size ≤ maxLen ∧ x.1.size ≤ Rows.uptoBulk d := fun i hi => by
      have h1 := hel i hi
      rw [hk, List.getElem?_eq_getElem (by omega)] at h1
      obtain ⟨x, c0, c1, c2, hs, hbk⟩ := step_bulk h1
      have hd : d = .slice (elems.map (·.1)) (rest.map (·.1)) := congrArg Prod.fst hxx
      have hmem : (elems[i]'(by omega)).1 ∈ elems.map (·.1) := List.mem_map.2 ⟨_, List.getElem_mem _, rfl⟩
      have hb2 := bulk_mem hmem
      have hb3 : Rows.uptoBulkAll (elems.map (·.1)) ≤ Rows.uptoBulk d := by rw [hd]; simp only [Rows.uptoBulk]; omega
      refine ⟨x, ?_, ?_, ?_, hs, by omega⟩
      · rw [addr_addS] at c0; exact c0
      · rw [addr_addS, addr_addS] at c1; exact c1
      · rw [addr_addS, addr_addS] at c2; exact c2
    obtain ⟨f, hf2⟩ : ∃ f : Nat → ByteArray × Snd, ∀ i, i < ln → w.cell? ⟨ab, aoff + i * 3, none⟩ = some (.string (f i).1) ∧ w.cell? ⟨ab, aoff + i * 3 + 1, none⟩ = some (.int .u32 (f i).2.1.toNat) ∧ w.cell? ⟨ab, aoff + i * 3 + 2, none⟩ = some (.int .u32 (f i).2.2.toNat) ∧ (f i).1.size ≤ maxLen ∧ (f i).1.size ≤ Rows.uptoBulk d :=
      ⟨fun i => if h : i < ln then Classical.choose (each i h) else (⟨#[]⟩, (0#32, 0#32)), fun i hi => by simp only [dif_pos hi]; exact Classical.choose_spec (each i hi)⟩
    refine ⟨(List.range ln).map f, .inr ⟨ab, aoff, cp, by simp, by simpa using hl, hm, hblk, fun i hi => ?_⟩, fun x hx => ?_⟩
    · have hi' : i < ln := by simpa using hi
      have := hf2 i hi'
      simp only [List.getElem_map, List.getElem_range]
      exact ⟨this.1, this.2.1, this.2.2.1⟩
    · obtain ⟨i, hi, rfl⟩ := List.mem_map.1 hx
      exact (hf2 i (by simpa using hi)).2.2.2
end Go.Proofs.Ytmgikhldkebjbaa
