/-
  Lemmas that the theorem of this claim rests on: 3 texts, one behind the other.
-/
import Derived.Test.YtmobilppakjihaaDoorM17
import Derived.Test.YtmobilppakjihaaDoorM9
set_option linter.unusedSimpArgs false
set_option linter.unusedVariables false
/-
  Rows of places.
-/
namespace Go.Proofs.YtmobilppakjihaaDoor
open Go.RowKit Go.Sort
def ints (xs : List Nat) : List Value := xs.map fun x : Nat => Value.int .i64 ((x : Nat) : Int)
/-- A row of indexes that the call has made. -/
def OwnI (w : World) (base : Nat) (v : Value) (xs : List Nat) : Prop := w.ownsRow base 3 1 v xs.length (ints xs)
/-- A slice that reads as a list of indexes. -/
def Is (w : World) (v : Value) (xs : List Nat) : Prop :=
  (v = .slice none 0 0 ∧ xs = []) ∨ ∃ b cap, v = .slice (some ⟨b, 0, none⟩) xs.length cap ∧ xs.length ≤ cap ∧ cap ≤ maxLen ∧ b < w.heap.size ∧ ∀ i (h : i < xs.length), w.cell? ⟨b, i, none⟩ = some (.int .i64 (xs[i] : Int))
theorem Is.below {w w' : World} {v : Value} {xs : List Nat} (h : Is w v xs) (hb : Below w.heap.size w w') : Is w' v xs := by
  rcases h with h | ⟨b, cap, h1, hc, hm, h2, h3⟩
  · exact .inl h
  · exact .inr ⟨b, cap, h1, hc, hm, by have := hb.size; omega, fun i hi => (hb.cell (p := ⟨b, i, none⟩) h2).trans (h3 i hi)⟩
theorem Is.open {w : World} {v : Value} {xs : List Nat} (h : Is w v xs) : ∃ ao cap, v = .slice ao xs.length cap ∧ xs.length ≤ cap ∧ cap ≤ maxLen ∧ ∀ i (h : i < xs.length), ∃ b, ao = some ⟨b, 0, none⟩ ∧ b < w.heap.size ∧ w.cell? ⟨b, i, none⟩ = some (.int .i64 (xs[i] : Int)) := by
  rcases h with ⟨rfl, rfl⟩ | ⟨b, cap, rfl, hc, hm, h2, h3⟩
  · exact ⟨none, 0, rfl, by simp, by simp, fun i hi => by simp at hi⟩
  · exact ⟨_, cap, rfl, hc, hm, fun i hi => ⟨b, rfl, h2, h3 i hi⟩⟩
theorem OwnI.nil (w : World) (base : Nat) : OwnI w base (.slice none 0 0) [] := ⟨rfl, .inl ⟨rfl, rfl⟩⟩
theorem OwnI.below {w w' : World} {base : Nat} {v : Value} {xs : List Nat} (h : OwnI w base v xs) (hb : Below w.heap.size w w') : OwnI w' base v xs := by
  obtain ⟨hl, h0 | ⟨g, cap, cur, hv, hg, hh, hr⟩⟩ := h
  · exact ⟨hl, .inl h0⟩
  · exact ⟨hl, .inr ⟨g, cap, cur, hv, hg, (hb.block g (Array.getElem?_eq_some_iff.1 hh).1).trans hh, hr⟩⟩
theorem OwnI.mono {w : World} {base base' : Nat} {v : Value} {xs : List Nat} (h : OwnI w base v xs) (hb : base' ≤ base) : OwnI w base' v xs := by
  obtain ⟨hl, h0 | ⟨g, cap, cur, hv, hg, hr⟩⟩ := h
  · exact ⟨hl, .inl h0⟩
  · exact ⟨hl, .inr ⟨g, cap, cur, hv, by omega, hr⟩⟩
theorem OwnI.is {w : World} {base : Nat} {v : Value} {xs : List Nat} (h : OwnI w base v xs) : Is w v xs := by
  obtain ⟨hl, ⟨rfl, h0⟩ | ⟨g, cap, cur, rfl, hg, hh, hn, hm, hs, ht⟩⟩ := h
  · exact .inl ⟨rfl, List.eq_nil_of_length_eq_zero h0⟩
  · refine .inr ⟨g, cap, rfl, hn, hm, (Array.getElem?_eq_some_iff.1 hh).1, fun i hi => ?_⟩
    refine cell_block hh ?_
    have key : (ints xs)[i]? = some (.int .i64 (xs[i] : Int)) := by unfold ints; rw [List.getElem?_map, List.getElem?_eq_getElem hi]; rfl
    rw [← key, ← ht, List.getElem?_take_of_lt (by omega), Array.getElem?_toList]
theorem OwnI.slice {w : World} {base : Nat} {v : Value} {xs : List Nat} (h : OwnI w base v xs) : ∃ ao cap, v = .slice ao xs.length cap := by
  obtain ⟨hl, ⟨rfl, h0⟩ | ⟨g, cap, cur, rfl, _⟩⟩ := h
  · exact ⟨none, 0, by rw [h0]⟩
  · exact ⟨_, cap, rfl⟩
theorem OwnI.row {w : World} {base : Nat} {v : Value} {xs : List Nat} (h : OwnI w base v xs) (k : Nat) (hk : v.ownBlock = some k) : base ≤ k := by
  obtain ⟨_, ⟨rfl, _⟩ | ⟨g, cap, cur, rfl, hg, _⟩⟩ := h
  · simp [Value.ownBlock] at hk
  · simp only [Value.ownBlock, Option.some.injEq] at hk
    subst hk
    exact hg
theorem infoInt : (Tryd.prog.info? 3).map (fun i => (i.zero, i.size, i.bytes)) = some (some (.int .i64 0), 1, 8) := by kernel_rfl
theorem wpList_appI {ops : Array Oper} {rest : List Oper} {o : Oper} {a : Act} {w : World} {Q : Exit → Act → World → Prop} (hgd : o.guard = none) (s x : Operand)
    (ho : o.op = .call { callee := .builtin .append, args := #[s, x], argTypes := #[35, 35] })
    (base D : Nat) (v : Value) (xs : List Nat) (z : Nat) (hs : a.eval s = v) (hx : a.eval x = .slice (some ⟨D, 0, none⟩) 1 1) (hc : w.cell? ⟨D, 0, none⟩ = some (.int .i64 (z : Int))) (hown : OwnI w base v xs) (hlen : xs.length + 1 ≤ 1000000000000) (hbase : base ≤ w.heap.size)
    (h : ∀ v' w', OwnI w' base v' (xs ++ [z]) → w.grownBy w' v.ownBlock → wpList Tryd.prog ops Q rest (a.put o.dst v') w') : wpList Tryd.prog ops Q (o :: rest) a w := by
  obtain ⟨i, hi, hz, hs1, hb1⟩ := info_parts infoInt
  refine wpList_append_own w hgd s x 35 ho base _ i _ 1 8 Tryd.underlying35 hi hz hs1 hb1 rfl (by decide) v xs.length (ints xs) hs hown ⟨D, 0, none⟩ 1 1 [.int .i64 (z : Int)] hx (by simp) ?_ ?_ (Nat.le_trans hlen (by decide)) (by omega) hbase ?_
  · intro j y hy
    obtain ⟨hj, rfl⟩ := List.getElem?_eq_some_iff.1 hy
    obtain rfl : j = 0 := by simpa using hj
    exact hc
  · intro y hy
    rw [List.mem_singleton.1 hy]
    rfl
  · intro v' w' ho' hg _
    refine h v' w' ?_ hg
    unfold OwnI ints
    rw [List.map_append, List.length_append]
    exact ho'
end Go.Proofs.YtmobilppakjihaaDoor

/-
  Where what is matched up to a place can begin (Begins).
-/
namespace Go.Proofs.YtmobilppakjihaaDoor
open Go.RowKit Go.Sort
def begL (T : Tb) (e n : Nat) : List Nat := (List.range n).filter fun a => (T a).getLsbD e
theorem begL_step (T : Tb) (e n : Nat) : begL T e (n + 1) = begL T e n ++ (if (T n).getLsbD e then [n] else []) := by
  unfold begL
  rw [List.range_succ, List.filter_append]
  congr 1
  by_cases h : (T n).getLsbD e <;> simp [h]
theorem begL_len (T : Tb) (e n : Nat) : (begL T e n).length ≤ n := by
  have := List.length_filter_le (fun a => (T a).getLsbD e) (List.range n)
  simpa [begL] using this
def bgL (d : Nd) (k : Fo) (ss : List Snd) (at' : Int) : List Nat := if maE d k ss at' = 0 then begL (tabP ss d k) at'.toNat 33 else []
set_option maxRecDepth 100000 in
set_option maxHeartbeats 4000000 in
theorem begins_any (d : Nd) (k : Fo) (ss : List Snd) (sv : Value) (at' : Int) (w : World) (hp : Pt w d k) (hW : Wd w sv ss) (hT : Tab64 w) (ht0 : 0 < w.heap.size) :
    Calls Tryd.prog 25 #[ndV d, sv, .int .i64 at'] w fun e w' => ∃ v, e = .returned (.tuple #[v, .int .i64 (maE d k ss at')]) ∧ OwnI w' w.heap.size v (bgL d k ss at') ∧ Below w.heap.size w w' := by
  have hma := fun (W : World) (hb : Below w.heap.size w W) => matchAt_any d k ss sv at' W (hp.below hb) (hW.below hb) (hT.below hb ht0) (by have := hb.size; omega)
  obtain ⟨wo, wc, rfl, lw, mw, -⟩ := hW.open
  have hml := maxLen_lt (Nat.le_trans lw mw)
  obtain ⟨ao, cap, hsl, -, -, -⟩ := hp.open
  obtain ⟨T, hT0⟩ : ∃ T, maT d k ss at' = T := ⟨_, rfl⟩
  obtain ⟨R, hR⟩ : ∃ R, bgL d k ss at' = R := ⟨_, rfl⟩
  obtain ⟨E, hE⟩ : ∃ E, maE d k ss at' = E := ⟨_, rfl⟩
  have hR1 : E = 0 → R = begL T at'.toNat 33 := fun h => by rw [← hR, bgL, if_pos (hE.trans h), ← hT0, maT, if_pos (hE.trans h)]
  have hR2 : E ≠ 0 → R = [] := fun h => by rw [← hR, bgL, if_neg (by rw [hE]; exact h)]
  have h32 : E = 0 → ∃ e : Nat, at' = e ∧ e ≤ 32 := fun h => by
    obtain ⟨h1, h2, h3⟩ := maE_ok (hE.trans h)
    have := chk_len (node_ok h1).2
    exact ⟨at'.toNat, by omega, by omega⟩
  rw [hE, hR]
  rw [hT0, hE] at hma
  clear hT0 hR hE
  obtain ⟨L, hL⟩ : ∃ L, ss.length = L := ⟨_, rfl⟩
  rw [hL] at hma hml ⊢
  clear hL
  obtain ⟨kind, ⟨p, m⟩, neg, mi, ma, sl⟩ := d
  simp only at hsl
  subst hsl
  obtain ⟨kl, hkl⟩ : ∃ kl, k.len = kl := ⟨_, rfl⟩
  rw [hkl] at hma ⊢
  unfold ndV at hma ⊢
  simp only at hma ⊢
  have HMA := Lib.hid hma
  have HZ := Lib.hid tbR_zero
  clear hma hp hW hT hkl lw mw
  go_enter Tryd.func25, Tryd.ntmps25
  go_wp2_with fail
  go_at_call 56
  refine Gives.then (HMA.out _ (by go_grown)) ?_
  intro w1 hb1
  have hz1 : w.heap.size + 1 ≤ w1.heap.size := by have := hb1.size; rwa [World.size_alloc] at this
  have HB1 := Lib.hid (((Below.refl _ w).alloc (Nat.le_refl _) (.cells #[.int .i64 kind, .int .u32 (p.toNat : Int), .int .u32 (m.toNat : Int), .bool neg, .int .i64 mi, .int .i64 ma, .slice ao kl cap] 27)).trans (hb1.mono (by rw [World.size_alloc]; omega)))
  have P8 := Lib.hid ((TbAt.new w1 zeroT).setRow T)
  have HB2 := Lib.hid (below_setRow (g := w1.heap.size) (HB1.out.alloc HB1.out.size (.cells (tbR zeroT) 74)) (by omega) (tbR T))
  have hsz2 : ((w1.alloc (.cells (tbR zeroT) 74)).setRow w1.heap.size (tbR T)).heap.size = w1.heap.size + 1 := by rw [setRow_size, World.size_alloc]
  clear hb1 HMA
  by_cases hE : E = 0
  · subst hE
    obtain ⟨e, rfl, he⟩ := h32 rfl
    have hR := hR1 rfl
    subst hR
    clear h32 hR1 hR2
    have HH := Lib.hid (fun (k : Nat) (W : World) => has_any (T k) e (by omega) W)
    go_wp2_with (first | (rw [← HZ.out]; refine wpList_st rfl (.tmp 8) (.tmp 18) rfl w1.heap.size zeroT _ rfl rfl (TbAt.new w1 zeroT) ?_) | (refine wpList_ld rfl (.tmp 8) rfl w1.heap.size _ rfl P8.out ?_))
    generalize ((w1.alloc (.cells (tbR zeroT) 74)).setRow w1.heap.size (tbR T)) = W2 at *
    clear P8
    have hs2 : w.heap.size ≤ W2.heap.size := by omega
    have htn : ((e : Int)).toNat = e := Int.toNat_natCast e
    try rw [htn]
    clear htn
    go_loopw [10, 24] (fun u i wr => ∃ k : Nat, k ≤ 33 ∧ i = .int .i64 (k : Int) ∧ OwnI wr w.heap.size u (begL T e k) ∧ Below w.heap.size w wr) (fun _ i _ => 33 - (intOf i).toNat)
    case atStart => exact ⟨0, by omega, rfl, OwnI.nil _ _, HB2.out⟩
    case round =>
      obtain ⟨k, hk, rfl, ho, hw⟩ := hrel
      obtain ⟨oa, oc, hov⟩ := ho.slice
      obtain ⟨n, hn⟩ : ∃ n, (begL T e k).length = n := ⟨_, rfl⟩
      rw [hn] at hov
      subst hov
      have hml2 := begL_len T e k
      rw [hn] at hml2
      by_cases hlt : k < 33
      · have hxg := run_idx T k hlt wr
        have hst := begL_step T e k
        have hh := HH.out k
        generalize hx : T k = x at *
        clear hx
        have HO := Lib.hid ho; have HW := Lib.hid hw; have HH2 := Lib.hid hh; have HN := Lib.hid hn
        clear ho hw hh hn
        rcases hb : x.getLsbD e with _ | _
        · rw [hb] at hst HH2
          have HST := Lib.hid hst
          clear hst hb
          go_wp2_with (first | (go_at_call 50; refine (HH2.out _).mono ?_; rintro e' w3 ⟨rfl, rfl⟩))
          go_roundw
          case rel => exact ⟨k + 1, by omega, by go_num, by rw [HST.out]; simpa using HO.out, HW.out⟩
          case measure => simp [intOf]; omega
        · rw [hb] at hst HH2
          have HST := Lib.hid hst
          clear hst hb
          have HO2 := Lib.hid (HO.out.below ((Below.refl _ wr).alloc (Nat.le_refl _) (.cells #[.int .i64 (k : Int)] 3)))
          have HW2 := Lib.hid (HW.out.alloc HW.out.size (.cells #[.int .i64 (k : Int)] 3))
          go_wp2_with (first | (go_at_call 50; refine (HH2.out _).mono ?_; rintro e' w3 ⟨rfl, rfl⟩) | (at_builtin; refine wpList_appI rfl (.tmp 31) (.tmp 33) rfl w.heap.size wr.heap.size (.slice oa n oc) (begL T e k) k rfl rfl (cell_block (World.alloc_heap_new wr _) rfl) HO2.out (by have h2 := HN.out; omega) (by have := HW.out.size; rw [World.size_alloc]; omega) ?_; intro v3 w3 ho3 hg3; have HW3 := Lib.hid (HW2.out.grown hg3 HW2.out.size (fun q e => by have := HO2.out.row q e; omega)); have HO3 := Lib.hid ho3; clear ho3 hg3))
          go_roundw
          case rel => exact ⟨k + 1, by omega, by go_num, by rw [HST.out]; exact HO3.out, HW3.out⟩
          case measure => simp [intOf]; omega
      · obtain rfl : k = 33 := by omega
        have HO := Lib.hid ho; have HW := Lib.hid hw
        clear ho hw hlt hn hml2
        go_wp2_with fail
        go_returns
        exact ⟨_, rfl, HO.out, HW.out⟩
  · have hR := hR2 hE
    subst hR
    clear h32 hR1 hR2
    go_wp2_with (first | (rw [← HZ.out]; refine wpList_st rfl (.tmp 8) (.tmp 18) rfl w1.heap.size zeroT _ rfl rfl (TbAt.new w1 zeroT) ?_))
    go_returns
    exact ⟨_, rfl, OwnI.nil _ _, HB2.out⟩
end Go.Proofs.YtmobilppakjihaaDoor

/-
  The first part that is matched (Find).
-/
namespace Go.Proofs.YtmobilppakjihaaDoor
open Go.RowKit Go.Sort
def fdI (T : Tb) (a n : Nat) : Option Nat := (List.range n).find? fun i => decide (a ≤ i) && decide ((T i).toNat ≠ 0)
def fdR (T : Tb) (a n : Nat) : Nat × Nat × Bool := match fdI T a n with
  | some i => (i, Nat.log2 (T i).toNat, true)
  | none => (0, 0, false)
theorem fdI_some {T : Tb} {a n k : Nat} (hk : k < n) (ha : a ≤ k) (hp : (T k).toNat ≠ 0) (hno : ∀ j, a ≤ j → j < k → (T j).toNat = 0) : fdI T a n = some k := by
  unfold fdI
  rw [List.find?_range_eq_some]
  refine ⟨by simp [ha, hp], by simpa using hk, fun j hj => ?_⟩
  by_cases h : a ≤ j
  · simp [hno j h hj]
  · simp [h]
theorem fdI_none {T : Tb} {a n : Nat} (hno : ∀ j, a ≤ j → j < n → (T j).toNat = 0) : fdI T a n = none := by
  unfold fdI
  rw [List.find?_range_eq_none]
  intro j hj
  by_cases h : a ≤ j
  · simp [hno j h hj]
  · simp [h]
theorem small_of {n : Nat} {x : Tb} (hn : n ≤ 32) (hx : OkT n x) (a : Nat) : (x a).toNat < 8589934592 := by
  have : (x a).toNat < 2 ^ 33 := Nat.lt_pow_two_of_testBit _ fun i hi => by
    rcases h : (x a).toNat.testBit i with _ | _
    · rfl
    · have := hx a i h
      omega
  omega
def fiR (d : Nd) (k : Fo) (ss : List Snd) (at' : Int) : Nat × Nat × Bool := if maE d k ss at' = 0 then fdR (tabP ss d k) at'.toNat (ss.length + 1) else (0, 0, false)
set_option maxRecDepth 100000 in
set_option maxHeartbeats 4000000 in
theorem find_anyP (d : Nd) (k : Fo) (ss : List Snd) (sv : Value) (at' : Int) (w : World) (hp : Pt w d k) (hW : Wd w sv ss) (hT : Tab64 w) (ht0 : 0 < w.heap.size) :
    Gives 31 #[ndV d, sv, .int .i64 at'] w (.tuple #[.int .i64 ((fiR d k ss at').1 : Int), .int .i64 ((fiR d k ss at').2.1 : Int), .bool (fiR d k ss at').2.2, .int .i64 (maE d k ss at')]) := by
  unfold Gives
  have hma := fun (W : World) (hb : Below w.heap.size w W) => matchAt_any d k ss sv at' W (hp.below hb) (hW.below hb) (hT.below hb ht0) (by have := hb.size; omega)
  obtain ⟨wo, wc, rfl, lw, mw, -⟩ := hW.open
  have hml := maxLen_lt (Nat.le_trans lw mw)
  obtain ⟨ao, cap, hsl, -, -, -⟩ := hp.open
  obtain ⟨T, hT0⟩ : ∃ T, maT d k ss at' = T := ⟨_, rfl⟩
  obtain ⟨R, hR⟩ : ∃ R, fiR d k ss at' = R := ⟨_, rfl⟩
  obtain ⟨E, hE⟩ : ∃ E, maE d k ss at' = E := ⟨_, rfl⟩
  have hR1 : E = 0 → R = fdR T at'.toNat (ss.length + 1) ∧ OkT ss.length T ∧ ss.length ≤ 32 := fun h => by
    have h32 := chk_len (node_ok (maE_ok (hE.trans h)).1).2
    refine ⟨by rw [← hR, fiR, if_pos (hE.trans h), ← hT0, maT, if_pos (hE.trans h)], ?_, h32⟩
    rw [← hT0, maT, if_pos (hE.trans h)]
    exact OkT.pat h32 d k
  have hR2 : E ≠ 0 → R = (0, 0, false) := fun h => by rw [← hR, fiR, if_neg (by rw [hE]; exact h)]
  have h32 : E = 0 → ∃ e : Nat, at' = e ∧ e ≤ ss.length := fun h => by
    obtain ⟨h1, h2, h3⟩ := maE_ok (hE.trans h)
    exact ⟨at'.toNat, by omega, by omega⟩
  rw [hE, hR]
  rw [hT0, hE] at hma
  clear hT0 hR hE
  obtain ⟨L, hL⟩ : ∃ L, ss.length = L := ⟨_, rfl⟩
  rw [hL] at hma hml hR1 h32 ⊢
  clear hL
  obtain ⟨kind, ⟨p, m⟩, neg, mi, ma, sl⟩ := d
  simp only at hsl
  subst hsl
  obtain ⟨kl, hkl⟩ : ∃ kl, k.len = kl := ⟨_, rfl⟩
  rw [hkl] at hma ⊢
  unfold ndV at hma ⊢
  simp only at hma ⊢
  have HMA := Lib.hid hma
  have HZ := Lib.hid tbR_zero
  clear hma hp hW hT hkl lw mw
  go_enter Tryd.func31, Tryd.ntmps31
  go_wp2_with fail
  go_at_call 56
  refine Gives.then (HMA.out _ (by go_grown)) ?_
  intro w1 hb1
  have hz1 : w.heap.size + 1 ≤ w1.heap.size := by have := hb1.size; rwa [World.size_alloc] at this
  have HB1 := Lib.hid (((Below.refl _ w).alloc (Nat.le_refl _) (.cells #[.int .i64 kind, .int .u32 (p.toNat : Int), .int .u32 (m.toNat : Int), .bool neg, .int .i64 mi, .int .i64 ma, .slice ao kl cap] 27)).trans (hb1.mono (by rw [World.size_alloc]; omega)))
  have P8 := Lib.hid ((TbAt.new w1 zeroT).setRow T)
  have HB2 := Lib.hid (below_setRow (g := w1.heap.size) (HB1.out.alloc HB1.out.size (.cells (tbR zeroT) 74)) (by omega) (tbR T))
  have hsz2 : ((w1.alloc (.cells (tbR zeroT) 74)).setRow w1.heap.size (tbR T)).heap.size = w1.heap.size + 1 := by rw [setRow_size, World.size_alloc]
  clear hb1 HMA
  by_cases hE : E = 0
  · subst hE
    obtain ⟨e, rfl, he⟩ := h32 rfl
    obtain ⟨hR, hok, hL32⟩ := hR1 rfl
    rw [Int.toNat_natCast] at hR
    have HOK := Lib.hid (small_of hL32 hok); have HRR := Lib.hid hR
    clear h32 hR1 hR2 hok hR
    go_wp2_with (first | (rw [← HZ.out]; refine wpList_st rfl (.tmp 10) (.tmp 18) rfl w1.heap.size zeroT _ rfl rfl (TbAt.new w1 zeroT) ?_))
    generalize ((w1.alloc (.cells (tbR zeroT) 74)).setRow w1.heap.size (tbR T)) = W2 at *
    obtain ⟨B, hB⟩ : ∃ B, w1.heap.size = B := ⟨_, rfl⟩
    rw [hB] at P8 hsz2 ⊢
    have hBw : w.heap.size < B := by omega
    clear hB hz1 HB1 HZ hsz2
    go_loopw [12] (fun i wr => ∃ k : Nat, e ≤ k ∧ k ≤ L + 1 ∧ i = .int .i64 (k : Int) ∧ (∀ j, e ≤ j → j < k → (T j).toNat = 0) ∧ TbAt wr B T ∧ Below w.heap.size w wr) (fun i _ => L + 1 - (intOf i).toNat)
    case atStart => exact ⟨e, by omega, by omega, rfl, fun j h1 h2 => by omega, P8.out, HB2.out⟩
    case round =>
      obtain ⟨k, hek, hk, rfl, hno, ht, hw⟩ := hrel
      by_cases hlt : k < L + 1
      · have hc := ht.cell (a := k) (by omega)
        have hle : (k : Int) ≤ (L : Int) := by omega
        have hk33 : (k : Int) < 33 := by omega
        have HT := Lib.hid ht; have HW := Lib.hid hw; have HNO := Lib.hid hno
        clear ht hw hno
        by_cases hz : (T k).toNat = 0
        · have HZZ := Lib.hid hz
          rw [hz] at hc
          clear hz
          go_wp2_with fail
          go_roundw
          case rel =>
            refine ⟨k + 1, by omega, by omega, by go_num, fun j h1 h2 => ?_, HT.out, HW.out⟩
            by_cases hj : j = k
            · subst hj; exact HZZ.out
            · exact HNO.out j h1 (by omega)
          case measure => simp [intOf]; omega
        · have hR := HRR.out
          rw [fdR, fdI_some hlt hek hz HNO.out] at hR
          have hg := fun W : World => greatest_any (T k) W hz (HOK.out k)
          have hlog : Nat.log2 (T k).toNat < 64 := by rw [Nat.log2_lt hz]; exact (T k).isLt
          subst hR
          try simp only
          obtain ⟨x, hx⟩ : ∃ x, (T k).toNat = x := ⟨_, rfl⟩
          rw [hx] at hc hz hlog
          simp only [hx] at hg
          obtain ⟨g, hgq⟩ : ∃ g, Nat.log2 x = g := ⟨_, rfl⟩
          rw [hgq] at hlog
          simp only [hgq] at hg
          have HG := Lib.hid hg; have HX := Lib.hid hx; have HGQ := Lib.hid hgq
          clear hx hgq
          have hzi : ¬ ((x : Int) = 0) := by omega
          clear hg HRR
          go_wp2_with (first | (go_at_call 60; refine (HG.out _).mono ?_; rintro e' w3 ⟨rfl, rfl⟩))
          go_returns
          exact ⟨by rw [HX.out, HGQ.out], HW.out⟩
      · obtain rfl : k = L + 1 := by omega
        have hR : R = (0, 0, false) := by rw [HRR.out, fdR, fdI_none hno]
        subst hR
        have HW := Lib.hid hw
        have hgt : ¬ (((L + 1 : Nat) : Int) ≤ (L : Int)) := by omega
        clear hw hno ht hlt
        go_wp2_with fail
        go_returns
        exact ⟨rfl, HW.out⟩
  · have hR := hR2 hE
    subst hR
    clear h32 hR1 hR2
    go_wp2_with (first | (rw [← HZ.out]; refine wpList_st rfl (.tmp 10) (.tmp 18) rfl w1.heap.size zeroT _ rfl rfl (TbAt.new w1 zeroT) ?_))
    go_returns
    exact ⟨rfl, HB2.out⟩
end Go.Proofs.YtmobilppakjihaaDoor
