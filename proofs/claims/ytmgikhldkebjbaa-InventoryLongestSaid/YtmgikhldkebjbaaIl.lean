/-
  Add: the error, or the inventory with the sound.
-/
import Derived.Test.YtmgikhldkebjbaaIk
import Derived.Deep.RegionLaw
import Derived.Deep.AppendLies
namespace Go.Proofs.Ytmgikhldkebjbaa
open Go.RowKit Go.Sort
/-- The error of Add. -/
def addE (l : List ByteArray) (a : List (ByteArray × Snd)) (k : ByteArray) (s : Snd) : Int :=
  if isSym k = false then 15 else if hasB l.length s = false then 14 else if ((sndOf a k).isSome || (symOf a s).isSome) = true then 6 else if 256 ≤ a.length then 4 else 0
/-- What Add may write over. -/
def Touch (w w' : World) (B bs by_ : Nat) (av : Value) : Prop := w'.os = w.os ∧ w'.tape = w.tape ∧ w'.output = w.output ∧ w.heap.size ≤ w'.heap.size ∧ ∀ k, k < w.heap.size → k ≠ B → k ≠ bs → k ≠ by_ → av.ownBlock ≠ some k → w'.heap[k]? = w.heap[k]?
theorem Touch.below {w w' : World} {B bs by_ : Nat} {av : Value} (hb : Below w.heap.size w w') : Touch w w' B bs by_ av := ⟨hb.os, hb.tape, hb.output, hb.size, fun k hk _ _ _ _ => hb.block k hk⟩
theorem infoNamed : (Try.prog.info? 47).map (fun i => (i.zero, i.size, i.bytes)) = some (some (.agg #[.string ⟨#[]⟩, .int .u32 0, .int .u32 0]), 3, 24) := by kernel_rfl
theorem flatN_append : ∀ (a b : List (ByteArray × Snd)), flatN (a ++ b) = flatN a ++ flatN b
  | [], _ => rfl
  | x :: a, b => by simp only [List.cons_append, flatN, flatN_append a b]
theorem put_new {k : ByteArray} {v : Value} {l : List (ByteArray × Value)} (h : (fnd k l 0).isSome = false) : put k v l = l ++ [(k, v)] := fnd_none (i := 0) (by cases hf : fnd k l 0 with | none => rfl | some x => rw [hf] at h; cases h)
theorem own_far {w : World} {base b n : Nat} {e : TypeId} {size : Nat} {v : Value} {xs : List Value} {o : Obj} (h : w.ownsRow base e size v n xs) (hb : w.heap[b]? = some o) (hne : ∀ cs fz, o ≠ .cells cs e fz) : v.ownBlock ≠ some b := by
  obtain ⟨_, ⟨rfl, _⟩ | ⟨g, cap, cur, rfl, _, hh, _⟩⟩ := h
  · simp [Value.ownBlock]
  · intro he
    simp only [Value.ownBlock, Option.some.injEq] at he
    subst he
    rw [hb] at hh
    exact hne _ _ (Option.some.inj hh)
theorem set_grown (w : World) (b o : Nat) (v : Value) : w.grownBy (w.setCell ⟨b, o, none⟩ v) (some b) := by
  refine ⟨rfl, rfl, rfl, by simp [World.setCell], fun k hk hne => ?_⟩
  simp only [World.setCell]
  rw [Array.getElem?_modify, if_neg (by intro e; exact hne (by rw [e]))]
theorem Touch.grown {w W W' : World} {B bs by_ : Nat} {av : Value} {row : Option Nat} (h : Touch w W B bs by_ av) (hg : W.grownBy W' row) (hr : ∀ k, row = some k → k = B ∨ k = bs ∨ k = by_ ∨ av.ownBlock = some k ∨ w.heap.size ≤ k) : Touch w W' B bs by_ av := by
  obtain ⟨h1, h2, h3, h4, h5⟩ := h
  refine ⟨hg.os.trans h1, hg.tape.trans h2, hg.output.trans h3, Nat.le_trans h4 hg.size, fun k hk n1 n2 n3 n4 => ?_⟩
  refine (hg.block k (by omega) (fun e => ?_)).trans (h5 k hk n1 n2 n3 n4)
  rcases hr k e.symm with e | e | e | e | e
  · exact n1 e
  · exact n2 e
  · exact n3 e
  · exact n4 e
  · omega
/-- An inventory whose three lists need not be the same. -/
structure Inv3 (w : World) (base B : Nat) (l : List ByteArray) (a : List (ByteArray × Snd)) (a2 : List (ByteArray × Value)) (a3 : List (Snd × Value)) (nv av : Value) (bf bs by_ : Nat) : Prop where
  blk : w.heap[B]? = some (.cells #[.pointer (some ⟨B, 0, none⟩), nv, .map (some bf), av, .map (some bs), .map (some by_)] 59 (0, 0))
  names : OwnS w base nv l
  feats : SMap w bf (numT l l.length)
  added : OwnN w base av a
  sounds : SMap w bs a2
  symbols : YMap w by_ a3
  hB : base ≤ B
  hf : base ≤ bf
  hs : base ≤ bs
  hy : base ≤ by_
  n1 : bf ≠ bs
  n2 : bs ≠ by_
  n3 : bf ≠ by_
theorem SMap.obj {w : World} {b : Nat} {l : List (ByteArray × Value)} (h : SMap w b l) : ∃ es n, w.heap[b]? = some (.map es n) := by obtain ⟨es, n, hh, _⟩ := h; exact ⟨es, n, hh⟩
theorem YMap.obj {w : World} {b : Nat} {l : List (Snd × Value)} (h : YMap w b l) : ∃ es n, w.heap[b]? = some (.map es n) := by obtain ⟨es, n, hh, _⟩ := h; exact ⟨es, n, hh⟩
theorem ne_of_obj {w : World} {b c : Nat} {o o' : Obj} (h : w.heap[b]? = some o) (h' : w.heap[c]? = some o') (hne : o ≠ o') : b ≠ c := by
  rintro rfl
  rw [h] at h'
  exact hne (Option.some.inj h')
section
variable {w w' : World} {base B : Nat} {l : List ByteArray} {a : List (ByteArray × Snd)} {a2 : List (ByteArray × Value)} {a3 : List (Snd × Value)} {nv av : Value} {bf bs by_ : Nat}
theorem Touch.then_below {W W' : World} {av : Value} (h : Touch w W B bs by_ av) (hb : Below W.heap.size W W') : Touch w W' B bs by_ av :=
  h.grown (row := none) ⟨hb.os, hb.tape, hb.output, hb.size, fun k hk _ => hb.block k hk⟩ (fun k e => by cases e)
theorem Inv3.below (h : Inv3 w base B l a a2 a3 nv av bf bs by_) (hb : Below w.heap.size w w') : Inv3 w' base B l a a2 a3 nv av bf bs by_ :=
  ⟨(hb.block B (Array.getElem?_eq_some_iff.1 h.blk).1).trans h.blk, h.names.below hb, h.feats.below hb, h.added.below hb, h.sounds.below hb, h.symbols.below hb, h.hB, h.hf, h.hs, h.hy, h.n1, h.n2, h.n3⟩
theorem own_lt {w : World} {base n : Nat} {e : TypeId} {size : Nat} {v : Value} {xs : List Value} {q : Nat} (h : w.ownsRow base e size v n xs) (hv : v.ownBlock = some q) : q < w.heap.size := by
  obtain ⟨_, ⟨rfl, _⟩ | ⟨g, cap, cur, rfl, _, hh, _⟩⟩ := h
  · simp [Value.ownBlock] at hv
  · simp only [Value.ownBlock, Option.some.injEq] at hv
    subst hv
    exact (Array.getElem?_eq_some_iff.1 hh).1
/-- What is kept where a row grows that is none of the inventory's own blocks but the list of what was added. -/
theorem Inv3.app {g m cap : Nat} {a' : List (ByteArray × Snd)} (h : Inv3 w base B l a a2 a3 nv av bf bs by_) (hg : w.grownBy w' av.ownBlock) (ho : OwnN w' base (.slice (some ⟨g, 0, none⟩) m cap) a') :
    w'.heap[B]? = w.heap[B]? ∧ Inv3 (w'.setCell ⟨B, 3, none⟩ (.slice (some ⟨g, 0, none⟩) m cap)) base B l a' a2 a3 nv (.slice (some ⟨g, 0, none⟩) m cap) bf bs by_ := by
  obtain ⟨e1, e2, e3⟩ := h.feats.obj
  obtain ⟨s1, s2, s3⟩ := h.sounds.obj
  obtain ⟨y1, y2, y3⟩ := h.symbols.obj
  have kB := hg.block B (Array.getElem?_eq_some_iff.1 h.blk).1 (fun e => own_far h.added h.blk (by intro cs fz e; simp at e) e.symm)
  have kf := hg.block bf h.feats.lt (fun e => own_far h.added e3 (by intro cs fz e; cases e) e.symm)
  have ks := hg.block bs h.sounds.lt (fun e => own_far h.added s3 (by intro cs fz e; cases e) e.symm)
  have ky := hg.block by_ h.symbols.lt (fun e => own_far h.added y3 (by intro cs fz e; cases e) e.symm)
  have hs := set_grown w' B 3 (.slice (some ⟨g, 0, none⟩) m cap)
  have blk' := kB.trans h.blk
  have nn : OwnS w' base nv l := World.ownsRow.kept h.names hg (by
    cases hv : nv.ownBlock with
    | none => exact .inl rfl
    | some q =>
      refine .inr fun e => ?_
      obtain ⟨_, ⟨rfl, _⟩ | ⟨g1, _, _, rfl, _, hh, _⟩⟩ := h.names
      · cases hv
      · exact own_far h.added hh (by intro cs fz e; simp at e) (by simp only [Value.ownBlock] at hv e ⊢; rw [← e, hv]))
  refine ⟨kB, ?_, World.ownsRow.kept nn hs (.inr (own_far nn blk' (by intro cs fz e; simp at e))), (h.feats.keep kf).keep (hs.block bf (by have := hg.size; have := h.feats.lt; omega) (by simpa using (ne_of_obj e3 h.blk (by intro e; cases e)))),
    World.ownsRow.kept ho hs (.inr (own_far ho blk' (by intro cs fz e; simp at e))), (h.sounds.keep ks).keep (hs.block bs (by have := hg.size; have := h.sounds.lt; omega) (by simpa using (ne_of_obj s3 h.blk (by intro e; cases e)))),
    (h.symbols.keep ky).keep (hs.block by_ (by have := hg.size; have := h.symbols.lt; omega) (by simpa using (ne_of_obj y3 h.blk (by intro e; cases e)))), h.hB, h.hf, h.hs, h.hy, h.n1, h.n2, h.n3⟩
  simp only [World.setCell]
  rw [Array.getElem?_modify, if_pos rfl, blk']
  simp
theorem Inv3.snd {a2' : List (ByteArray × Value)} (h : Inv3 w base B l a a2 a3 nv av bf bs by_) (hg : w.grownBy w' (some bs)) (ho : SMap w' bs a2') : Inv3 w' base B l a a2' a3 nv av bf bs by_ := by
  obtain ⟨s1, s2, s3⟩ := h.sounds.obj
  have ne1 := ne_of_obj h.blk s3 (by intro e; cases e)
  exact ⟨(hg.block B (Array.getElem?_eq_some_iff.1 h.blk).1 (by simpa using ne1)).trans h.blk, World.ownsRow.kept h.names hg (.inr (own_far h.names s3 (by intro cs fz e; cases e))), h.feats.keep (hg.block bf h.feats.lt (by simpa using h.n1)), World.ownsRow.kept h.added hg (.inr (own_far h.added s3 (by intro cs fz e; cases e))), ho, h.symbols.keep (hg.block by_ h.symbols.lt (by simpa using h.n2.symm)), h.hB, h.hf, h.hs, h.hy, h.n1, h.n2, h.n3⟩
theorem Inv3.sym {a3' : List (Snd × Value)} (h : Inv3 w base B l a a2 a3 nv av bf bs by_) (hg : w.grownBy w' (some by_)) (ho : YMap w' by_ a3') : Inv3 w' base B l a a2 a3' nv av bf bs by_ := by
  obtain ⟨y1, y2, y3⟩ := h.symbols.obj
  have ne1 := ne_of_obj h.blk y3 (by intro e; cases e)
  exact ⟨(hg.block B (Array.getElem?_eq_some_iff.1 h.blk).1 (by simpa using ne1)).trans h.blk, World.ownsRow.kept h.names hg (.inr (own_far h.names y3 (by intro cs fz e; cases e))), h.feats.keep (hg.block bf h.feats.lt (by simpa using h.n3)), World.ownsRow.kept h.added hg (.inr (own_far h.added y3 (by intro cs fz e; cases e))), h.sounds.keep (hg.block bs h.sounds.lt (by simpa using h.n2)), ho, h.hB, h.hf, h.hs, h.hy, h.n1, h.n2, h.n3⟩
end
theorem step_appN {ops : Array Oper} {o : Oper} {a : Act} {w : World} {K : Act → World → Prop} {Q : Exit → Act → World → Prop} {E : Prop} (hgd : o.guard = none) (s x : Operand)
    (ho : o.op = .call { callee := .builtin .append, args := #[s, x], argTypes := #[46, 46] })
    (base D : Nat) (v : Value) (xs : List (ByteArray × Snd)) (k : ByteArray) (p m : BitVec 32) (hs : a.eval s = v) (hx : a.eval x = .slice (some ⟨D, 0, none⟩) 1 1) (hB : w.heap[D]? = some (.cells #[.string k, .int .u32 p.toNat, .int .u32 m.toNat] 47 (0, 0))) (hown : OwnN w base v xs) (hlen : xs.length + 1 ≤ 1000000) (hbase : base ≤ w.heap.size)
    (h : ∀ g cap n w', OwnN w' base (.slice (some ⟨g, 0, none⟩) n cap) (xs ++ [(k, (p, m))]) → w.grownBy w' v.ownBlock → K (a.put o.dst (.slice (some ⟨g, 0, none⟩) n cap)) w') :
    if Region.wanted o (yielded ops a.tmps) = true then Oper.wp Try.prog o a w K Q else E := by
  obtain ⟨i, hi, hz, hs1, hb1⟩ := info_parts infoNamed
  refine step_append_lies w hgd s x 46 ho base 47 i _ 3 24 Try.underlying46 hi hz hs1 hb1 rfl (by decide) v xs.length (flatN xs) hs hown ⟨D, 0, none⟩ 1 1 [.string k, .int .u32 p.toNat, .int .u32 m.toNat] hx rfl (World.news_of_block (cs := #[.string k, .int .u32 p.toNat, .int .u32 m.toNat]) hB) (by simp [Value.oneCell']) (by decide) (Nat.le_trans hlen (by decide)) (by omega) hbase w.heap.size rfl ?_
  intro g cap w' h1 hg _ _
  refine h g cap (xs.length + 1) w' ?_ hg
  unfold OwnN
  rw [flatN_append, List.length_append]
  exact h1
set_option maxRecDepth 100000 in
set_option maxHeartbeats 8000000 in
theorem add_any {w : World} {base B : Nat} {l : List ByteArray} {a : List (ByteArray × Snd)} {nv av : Value} {bf bs by_ : Nat} (h : Inv w base B l a nv av bf bs by_) (k : ByteArray) (s : Snd) (hk : k.size ≤ 9223372036854775807) (hl : l.length ≤ 24) (ha : a.length ≤ 256) : Calls Try.prog 23 #[.pointer (some ⟨B, 0, none⟩), .string k, snv s] w fun e w' => e = .returned (.int .i64 (addE l a k s)) ∧ ((addE l a k s ≠ 0 ∧ Below w.heap.size w w') ∨ (addE l a k s = 0 ∧ ∃ av', Inv w' base B l (a ++ [(k, s)]) nv av' bf bs by_ ∧ Touch w w' B bs by_ av)) := by
  have HI := Lib.hid h
  have hB := h.lt
  obtain ⟨ao, ac, rfl⟩ := h.added.slice
  have hY := isSymbol_any k hk
  have hH := fun W (hW : Inv W base B l a nv (.slice ao a.length ac) bf bs by_) => has_any hW s hl
  generalize hEE : addE l a k s = E at *
  have hE1 := hEE
  unfold addE at hE1
  have HA := Lib.hid ha
  have HNB : Hid (B < w.heap.size ∧ bs < w.heap.size ∧ by_ < w.heap.size ∧ Value.ownBlock (.slice ao a.length ac) ≠ some w.heap.size) := Lib.hid ⟨hB, HI.out.sounds.lt, HI.out.symbols.lt, fun e => by have := own_lt HI.out.added e; omega⟩
  obtain ⟨t, ht⟩ : ∃ t, (sndOf a k).getD (0#32, 0#32) = t := ⟨_, rfl⟩
  have HG := Lib.hid (snd_get a k t ht)
  have HS := Lib.hid (fnd_snd k a 0).2
  obtain ⟨u, hu⟩ : ∃ u, (symOf a s).getD ⟨#[]⟩ = u := ⟨_, rfl⟩
  have HGY := Lib.hid (sym_get a s u hu)
  have HSY := Lib.hid (fnd_sym s a 0).2
  generalize (sndOf a k).isSome = q1 at *
  generalize (symOf a s).isSome = q2 at *
  generalize isSym k = y at *
  generalize hasB l.length s = hb at *
  obtain ⟨p, m⟩ := s
  have hlk : ∀ W, YMap W by_ (a.map fun x => (x.2, Value.string x.1)) → (Instr.lookup 57 (.map (some by_)) (.agg #[.int .u32 p.toNat, .int .u32 m.toNat]) true).run Try.prog W = .ok (.tuple #[.string u, .bool q2]) W := fun W hW => by
    have := run_lookup_y Try.underlying57 (z := .string ⟨#[]⟩) (fun _ => by kernel_rfl) hW (p, m)
    rw [HGY.out, HSY.out] at this
    exact this
  have HLK := Lib.hid hlk; have HY := Lib.hid hY; have HH := Lib.hid hH
  unfold snv at *
  clear hlk hY hH h hEE ht hu
  have hI0 := HI.out.below ((Below.refl _ w).alloc (Nat.le_refl _) (.cells #[.int .u32 p.toNat, .int .u32 m.toNat] 39))
  have HI0 := Lib.hid hI0
  have hw0 := (Below.refl w.heap.size w).alloc (Nat.le_refl _) (.cells #[.int .u32 p.toNat, .int .u32 m.toNat] 39)
  have HW0 := Lib.hid hw0
  clear hI0 hw0
  have k0 := cell_block (World.alloc_heap_new w (.cells #[.int .u32 p.toNat, .int .u32 m.toNat] 39)) (o := 0) rfl
  have k1 := cell_block (World.alloc_heap_new w (.cells #[.int .u32 p.toNat, .int .u32 m.toNat] 39)) (o := 1) rfl
  go_enter Try.func23, Try.ntmps23
  go_wp2_with fail
  go_at_call 44
  refine Gives.then (valid_yes B _ HI0.out.cells.1) ?_
  intro w1 hb1
  have HI1 := Lib.hid (HI0.out.below hb1)
  have hw1 := HW0.out.trans (hb1.mono HW0.out.size)
  have r0 := (hb1.cell (p := ⟨w.heap.size, 0, none⟩) (by simp)).trans k0
  have r1 := (hb1.cell (p := ⟨w.heap.size, 1, none⟩) (by simp)).trans k1
  have lw : w.heap.size < w1.heap.size := by have := hb1.size; rw [World.size_alloc] at this; omega
  clear hb1 k0 k1 HI0 HW0 HI
  go_wp2_with fail
  go_at_call 46
  refine Gives.then (HY.out _) ?_
  intro w2 hb2
  have HI2 := Lib.hid (HI1.out.below hb2)
  have hw2 := hw1.trans (hb2.mono hw1.size)
  have r0 := (hb2.cell (p := ⟨w.heap.size, 0, none⟩) lw).trans r0
  have r1 := (hb2.cell (p := ⟨w.heap.size, 1, none⟩) lw).trans r1
  have lw := Nat.lt_of_lt_of_le lw hb2.size
  clear hb2 HI1 hw1
  cases y
  · go_wp2_with fail
    go_returns
    have hE2 : E = 15 := hE1.symm
    exact ⟨by rw [hE2]; rfl, .inl ⟨by rw [hE2]; decide, hw2⟩⟩
  · go_wp2_with fail
    go_at_call 47
    refine Gives.then (HH.out _ HI2.out) ?_
    intro w3 hb3
    have HI3 := Lib.hid (HI2.out.below hb3)
    have hw3 := hw2.trans (hb3.mono hw2.size)
    have r0 := (hb3.cell (p := ⟨w.heap.size, 0, none⟩) lw).trans r0
    have r1 := (hb3.cell (p := ⟨w.heap.size, 1, none⟩) lw).trans r1
    have lw := Nat.lt_of_lt_of_le lw hb3.size
    clear hb3 HI2 hw2
    cases hb
    · go_wp2_with fail
      go_returns
      have hE2 : E = 14 := hE1.symm
      exact ⟨by rw [hE2]; rfl, .inl ⟨by rw [hE2]; decide, hw3⟩⟩
    · have c4 := HI3.out.cells.2.2.2.2.1
      go_wp2_with (at_lookup; refine wpList_lookup_s rfl (.tmp 25) (.tmp 26) 56 rfl Try.underlying56 Try.underlying9 (z := .agg #[.int .u32 0, .int .u32 0]) (fun _ => by kernel_rfl) bs (a.map fun x => (x.1, snv x.2)) k (.agg #[.int .u32 t.1.toNat, .int .u32 t.2.toNat]) q1 rfl rfl HI3.out.sounds HG.out HS.out ?_)
      have HI4 := Lib.hid (HI3.out.below ((Below.refl _ w3).alloc (Nat.le_refl _) (.cells #[.int .u32 t.1.toNat, .int .u32 t.2.toNat] 39)).drew)
      have c5 : (w3.alloc (.cells #[.int .u32 t.1.toNat, .int .u32 t.2.toNat] 39)).drew.cell? ⟨B, 5, none⟩ = some (.map (some by_)) := HI4.out.cells.2.2.2.2.2
      have e0 : (w3.alloc (.cells #[.int .u32 t.1.toNat, .int .u32 t.2.toNat] 39)).drew.cell? ⟨w.heap.size, 0, none⟩ = some (.int .u32 p.toNat) := cell_past lw r0
      have e1 : (w3.alloc (.cells #[.int .u32 t.1.toNat, .int .u32 t.2.toNat] 39)).drew.cell? ⟨w.heap.size, 1, none⟩ = some (.int .u32 m.toNat) := cell_past lw r1
      have hl1 := HLK.out (w3.alloc (.cells #[.int .u32 t.1.toNat, .int .u32 t.2.toNat] 39)).drew HI4.out.symbols
      have hw4 := (hw3.alloc hw3.size (.cells #[.int .u32 t.1.toNat, .int .u32 t.2.toNat] 39)).drew
      have HW4 := Lib.hid hw4
      have lw4 : w.heap.size < (w3.alloc (.cells #[.int .u32 t.1.toNat, .int .u32 t.2.toNat] 39)).drew.heap.size := by show _ < (w3.alloc _).heap.size; rw [World.size_alloc]; omega
      clear c4 hw3 hw4 HI3
      go_region
      clear hl1 r0 r1
      rcases hq : (q1 || q2) with _ | _
      · obtain ⟨rfl, rfl⟩ : q1 = false ∧ q2 = false := by cases q1 <;> cases q2 <;> simp_all
        have c3 : (w3.alloc (.cells #[.int .u32 t.1.toNat, .int .u32 t.2.toNat] 39)).drew.cell? ⟨B, 3, none⟩ = some (.slice ao a.length ac) := HI4.out.cells.2.2.2.1
        by_cases h256 : a.length = 256
        · have hE2 : E = 4 := by rw [← hE1]; simp [h256]
          have g1 : decide ((256 : Int) ≤ (a.length : Int)) = true := decide_eq_true (by omega)
          have g2 : decide (256 ≤ a.length) = true := decide_eq_true (by omega)
          go_wp2_with fail
          go_returns
          exact ⟨by rw [hE2]; rfl, .inl ⟨by rw [hE2]; decide, HW4.out⟩⟩
        · have hE2 : E = 0 := by rw [← hE1]; simp; omega
          have g1 : decide ((256 : Int) ≤ (a.length : Int)) = false := decide_eq_false (by omega)
          have g2 : decide (256 ≤ a.length) = false := decide_eq_false (by omega)
          go_wp2_with fail
          refine wp_gen ?_
          intro w4 hw4
          rw [← hw4] at HI4 HW4 c3 e0 e1 lw4 c5
          have h34 : Inv3 w4 base B l a (a.map fun x => (x.1, snv x.2)) (a.map fun x => (x.2, Value.string x.1)) nv (.slice ao a.length ac) bf bs by_ := ⟨HI4.out.blk, HI4.out.names, HI4.out.feats, HI4.out.added, HI4.out.sounds, HI4.out.symbols, HI4.out.hB, HI4.out.hf, HI4.out.hs, HI4.out.hy, HI4.out.n1, HI4.out.n2, HI4.out.n3⟩
          have H3 := Lib.hid h34
          have HT4 := Lib.hid (Touch.below (B := B) (bs := bs) (by_ := by_) (av := .slice ao a.length ac) HW4.out)
          have lB := HI4.out.lt
          have tc3 := fun X => cell_past (X := X) lB c3
          have te0 := fun X => cell_past (X := X) lw4 e0
          have te1 := fun X => cell_past (X := X) lw4 e1
          have HLA : Hid (a.length + 1 ≤ 1000000) := Lib.hid (by have := HA.out; omega)
          have HP := Lib.hid (put_new (v := snv (p, m)) HS.out)
          have HF := Lib.hid HSY.out
          clear h34 hw4 HI4 HW4 c5
          go_region_law (refine step_appN rfl (.tmp 53) (.tmp 57) rfl base w4.heap.size (.slice ao a.length ac) a k p m rfl rfl ?_ (World.ownsRow.drew (World.ownsRow.alloc H3.out.added _)) HLA.out ?_ ?_; (next => exact World.alloc_heap_new w4 _); (next => (have h1 := H3.out.hB; show base ≤ (w4.alloc _).heap.size; rw [World.size_alloc]; omega)); intro g6 c6 n6 w6 ho6 hg6; have hb5 := ((Below.refl _ w4).alloc (Nat.le_refl _) (.cells #[.string k, .int .u32 p.toNat, .int .u32 m.toNat] 47)).drew; have h5 := H3.out.below hb5; have hap := h5.app hg6 ho6; have c36 := cell_block (hap.1.trans h5.blk) (o := 3) rfl; have f36 := frozen_block (o := 3) (hap.1.trans h5.blk); have H6 := Lib.hid hap.2; have HG6 := Lib.hid hg6; have HB5 := Lib.hid hb5; clear hap h5 ho6 hg6 hb5)
          all_goals (
            have hg7 := set_grown w6 B 3 (.slice (some ⟨g6, 0, none⟩) n6 c6)
            have lw6 : w.heap.size < w6.heap.size := Nat.lt_of_lt_of_le (Nat.lt_of_lt_of_le lw4 HB5.out.size) HG6.out.size
            have e06 := (hg7.cell_far ⟨w.heap.size, 0, none⟩ lw6 (by have := HNB.out.1; simp only [ne_eq, Option.some.injEq]; omega)).trans ((HG6.out.cell_far ⟨w.heap.size, 0, none⟩ (Nat.lt_of_lt_of_le lw4 HB5.out.size) (Ne.symm HNB.out.2.2.2)).trans ((HB5.out.cell (p := ⟨w.heap.size, 0, none⟩) lw4).trans e0))
            have e16 := (hg7.cell_far ⟨w.heap.size, 1, none⟩ lw6 (by have := HNB.out.1; simp only [ne_eq, Option.some.injEq]; omega)).trans ((HG6.out.cell_far ⟨w.heap.size, 1, none⟩ (Nat.lt_of_lt_of_le lw4 HB5.out.size) (Ne.symm HNB.out.2.2.2)).trans ((HB5.out.cell (p := ⟨w.heap.size, 1, none⟩) lw4).trans e1))
            have HT7 := Lib.hid (((HT4.out.then_below HB5.out).grown HG6.out (fun q e => .inr (.inr (.inr (.inl e))))).grown hg7 (fun q e => by cases e; exact .inl rfl))
            have lw7 := Nat.lt_of_lt_of_le lw6 hg7.size
            clear hg7 lw6 HG6 HB5 HT4 H3 e0 e1 lw4 lB tc3 te0 te1 c3
            go_wp2_with fail
            refine wp_gen ?_
            intro w7 hw7
            rw [← hw7] at H6 HT7 e06 e16 lw7
            clear hw7 c36 f36
            have c4 : w7.drew.cell? ⟨B, 4, none⟩ = some (.map (some bs)) := cell_block H6.out.blk rfl
            have e0 : w7.drew.cell? ⟨w.heap.size, 0, none⟩ = _ := e06
            have e1 : w7.drew.cell? ⟨w.heap.size, 1, none⟩ = _ := e16
            obtain ⟨w8, hrun, hs8, hg8⟩ := run_update_s (P := Try.prog) (w := w7.drew) Try.underlying56 Try.underlying9 H6.out.sounds k (.agg #[.int .u32 p.toNat, .int .u32 m.toNat])
            have H8 := Lib.hid ((H6.out.below (Below.refl _ w7).drew).snd hg8 hs8)
            have HT8 := Lib.hid ((HT7.out.then_below (Below.refl _ w7).drew).grown hg8 (fun q e => by cases e; exact .inr (.inl rfl)))
            have e08 := (hg8.cell_far ⟨w.heap.size, 0, none⟩ lw7 (by have := HNB.out.2.1; simp only [ne_eq, Option.some.injEq]; omega)).trans e0
            have e18 := (hg8.cell_far ⟨w.heap.size, 1, none⟩ lw7 (by have := HNB.out.2.1; simp only [ne_eq, Option.some.injEq]; omega)).trans e1
            clear hs8 hg8 H6 HT7 e06 e16
            go_wp2_with fail
            go_region
            clear hrun c4 e0 e1
            have c5 : w8.drew.cell? ⟨B, 5, none⟩ = some (.map (some by_)) := cell_block H8.out.blk rfl
            have e0 : w8.drew.cell? ⟨w.heap.size, 0, none⟩ = _ := e08
            have e1 : w8.drew.cell? ⟨w.heap.size, 1, none⟩ = _ := e18
            obtain ⟨w9, hrun, hs9, hg9⟩ := run_update_y (w := w8.drew) Try.underlying57 H8.out.symbols (p, m) (.string k) (by
              have := HF.out
              cases hf : fndY (p, m) (a.map fun x => (x.2, Value.string x.1)) 0 with
              | none => rfl
              | some x => rw [hf] at this; cases this)
            have hrun : (Instr.mapUpdate 57 (.map (some by_)) (.agg #[.int .u32 p.toNat, .int .u32 m.toNat]) (.string k)).run Try.prog w8.drew = .ok () w9 := hrun
            have H9 := Lib.hid ((H8.out.below (Below.refl _ w8).drew).sym hg9 hs9)
            have HT9 := Lib.hid ((HT8.out.then_below (Below.refl _ w8).drew).grown hg9 (fun q e => by cases e; exact .inr (.inr (.inl rfl))))
            clear hs9 hg9 H8 HT8 e08 e18
            go_wp2_with fail
            go_region
            go_wp2_with fail
            go_returns
            refine ⟨by rw [hE2]; rfl, .inr ⟨hE2, .slice (some ⟨g6, 0, none⟩) n6 c6, ?_, HT9.out⟩⟩
            have z := H9.out
            have hp := HP.out
            refine ⟨z.blk, z.names, z.feats, z.added, ?_, ?_, z.hB, z.hf, z.hs, z.hy, z.n1, z.n2, z.n3⟩
            · have := z.sounds
              rw [List.map_append]
              rw [show put k (.agg #[.int .u32 p.toNat, .int .u32 m.toNat]) (a.map fun x => (x.1, snv x.2)) = _ from hp] at this
              exact this
            · have := z.symbols
              rw [List.map_append]
              exact this)
      · have hE2 : E = 6 := by rw [← hE1, hq]; rfl
        cases q1
        · obtain rfl : q2 = true := by simpa using hq
          go_wp2_with fail
          go_returns
          exact ⟨by rw [hE2]; rfl, .inl ⟨by rw [hE2]; decide, HW4.out⟩⟩
        · go_wp2_with fail
          go_returns
          exact ⟨by rw [hE2]; rfl, .inl ⟨by rw [hE2]; decide, HW4.out⟩⟩
end Go.Proofs.Ytmgikhldkebjbaa
