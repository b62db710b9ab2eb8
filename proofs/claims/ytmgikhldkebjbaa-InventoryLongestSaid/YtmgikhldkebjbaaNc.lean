/-
  InventoryNews: the walk.
-/
import Derived.Test.YtmgikhldkebjbaaNb
namespace Go.Proofs.Ytmgikhldkebjbaa
open Go.RowKit Go.Shelf Go.Sort
theorem wpList_appSg {ops : Array Oper} {rest : List Oper} {o : Oper} {a : Act} {w : World} {Q : Exit → Act → World → Prop} (hgd : o.guard = none) (s x : Operand)
    (ho : o.op = .call { callee := .builtin .append, args := #[s, x], argTypes := #[22, 22] })
    (base : Nat) (v u : Value) (xs ys : List ByteArray) (hs : a.eval s = v) (hx : a.eval x = u) (hown : OwnS w base v xs) (hw : Ss w u ys) (hlen : xs.length + ys.length ≤ 1000000000000) (hbase : base ≤ w.heap.size)
    (h : ∀ v' w', OwnS w' base v' (xs ++ ys) → w.grownBy w' v.ownBlock → wpList Try.prog ops Q rest (a.put o.dst v') w') : wpList Try.prog ops Q (o :: rest) a w := by
  obtain ⟨i, hi, hz, hs1, hb1⟩ := info_parts infoStr
  rcases hw with ⟨rfl, rfl⟩ | ⟨b, off, cap, rfl, hc, hm, hb, h3⟩
  · refine wpList_append_own_none hgd s x 22 ho base _ i 1 Try.underlying22 hi v xs.length (xs.map Value.string) hs hown hx ?_
    exact h v w (by rw [List.append_nil]; exact hown) ⟨rfl, rfl, rfl, Nat.le_refl _, fun _ _ _ => rfl⟩
  · refine wpList_append_own w hgd s x 22 ho base _ i _ 1 16 Try.underlying22 hi hz hs1 hb1 rfl (by decide) v xs.length (xs.map Value.string) hs hown ⟨b, off, none⟩ ys.length cap (ys.map Value.string) hx (by simp) ?_ ?_ (Nat.le_trans hlen (by decide)) (by omega) hbase ?_
    · intro j y hy
      rw [List.getElem?_map, Option.map_eq_some_iff] at hy
      obtain ⟨z, hz, rfl⟩ := hy
      obtain ⟨hj, rfl⟩ := List.getElem?_eq_some_iff.1 hz
      rw [addr_addS, h3 j hj]
    · intro y hy
      obtain ⟨z, _, rfl⟩ := List.mem_map.1 hy
      rfl
    · intro v' w' ho' hg _
      refine h v' w' ?_ hg
      unfold OwnS
      rw [List.map_append, List.length_append]
      exact ho'
/-- What lies at block n or behind it stands. -/
def Above (n : Nat) (w w' : World) : Prop := ∀ k, n ≤ k → k < w.heap.size → w'.heap[k]? = w.heap[k]?
theorem row_above {w w' : World} {base n : Nat} {e : TypeId} {size : Nat} {v : Value} {xs : List Value} (h : w.ownsRow base e size v n xs) (ha : Above base w w') : w'.ownsRow base e size v n xs := by
  obtain ⟨hl, h0 | ⟨g, cap, cur, hv, hg, hh, hr⟩⟩ := h
  · exact ⟨hl, .inl h0⟩
  · exact ⟨hl, .inr ⟨g, cap, cur, hv, hg, (ha g hg (Array.getElem?_eq_some_iff.1 hh).1).trans hh, hr⟩⟩
theorem Inv.above {w w' : World} {base B : Nat} {l : List ByteArray} {a : List (ByteArray × Snd)} {nv av : Value} {bf bs by_ : Nat} (h : Inv w base B l a nv av bf bs by_) (ha : Above base w w') : Inv w' base B l a nv av bf bs by_ :=
  ⟨(ha B h.hB h.lt).trans h.blk, row_above h.names ha, h.feats.keep (ha bf h.hf h.feats.lt), row_above h.added ha, h.sounds.keep (ha bs h.hs h.sounds.lt), h.symbols.keep (ha by_ h.hy h.symbols.lt), h.hB, h.hf, h.hs, h.hy, h.n1, h.n2, h.n3⟩
theorem RInv.above {w w' : World} {base R : Nat} {l : List ByteArray} {a : List (ByteArray × Snd)} {nv av : Value} (h : RInv w base R l a nv av) (ha : Above base w w') : RInv w' base R l a nv av :=
  ⟨(ha R h.hR h.lt).trans h.blk, row_above h.names ha, row_above h.added ha, h.hR⟩
theorem Both.above {w w' : World} {base : Nat} {l : List ByteArray} {pv pr : Value} (h : Both w base l pv pr) (ha : Above base w w') : Both w' base l pv pr := by
  rcases h with h | ⟨h0, B, R, nv, bf, bs, by_, rv, h1, h2, hI, hR⟩
  · exact .inl h
  · exact .inr ⟨h0, B, R, nv, bf, bs, by_, rv, h1, h2, hI.above ha, hR.above ha⟩
theorem Both.below {w w' : World} {base : Nat} {l : List ByteArray} {pv pr : Value} (h : Both w base l pv pr) (hb : Below w.heap.size w w') : Both w' base l pv pr := by
  rcases h with h | ⟨h0, B, R, nv, bf, bs, by_, rv, h1, h2, hI, hR⟩
  · exact .inl h
  · exact .inr ⟨h0, B, R, nv, bf, bs, by_, rv, h1, h2, hI.below hb, hR.below hb⟩
theorem above_grown {w w' : World} {n : Nat} {row : Option Nat} (hg : w.grownBy w' row) (hr : ∀ k, row = some k → k < n) : Above n w w' := fun k hn hk => hg.block k hk (fun e => by have := hr k e.symm; omega)
theorem both_feat {w : World} {base : Nat} {l : List ByteArray} {pv pr : Value} (h : Both w base l pv pr) (k : ByteArray) : ∃ (z : Int) (b : Bool), ∀ W, Below w.heap.size w W →
    Gives 18 #[pv, .string k] W (.tuple #[.int .i64 z, .bool b]) ∧ Gives 19 #[pr, .string k] W (.tuple #[.int .i64 z, .bool b]) := by
  rcases h with ⟨_, rfl, rfl⟩ | ⟨h0, B, R, nv, bf, bs, by_, rv, rfl, rfl, hI, hR⟩
  · exact ⟨0, false, fun W hb => ⟨no_feat (noInv_nil W) k, rfeat_nil k W⟩⟩
  · have key : ∃ (z : Int) (b : Bool), featN l k = .int .i64 z ∧ featB l k = b := by
      rcases feat_is l k with ⟨j, _, _, h1, h2, _⟩ | ⟨_, h1, h2, _⟩
      · exact ⟨_, _, h1, h2⟩
      · exact ⟨_, _, h1, h2⟩
    obtain ⟨z, b, e1, e2⟩ := key
    refine ⟨z, b, fun W hb => ?_⟩
    have h1 := feat_any (hI.below hb) k
    have h2 := rfeat_any (hR.below hb) (newE_nodup h0) (newE_len h0) k
    rw [e1, e2] at h1 h2
    exact ⟨h1, h2⟩
/-- A call that returns a list of texts of its own. -/
def GivesS (f : Nat) (args : Array Value) (w : World) (l : List ByteArray) : Prop := Calls Try.prog f args w fun e w' => ∃ v', e = .returned v' ∧ OwnS w' w.heap.size v' l ∧ Below w.heap.size w w'
theorem givesS_nil {f : Nat} {args : Array Value} {w : World} (h : Gives f args w (.slice none 0 0)) : GivesS f args w [] := Calls.mono h fun e w' ⟨he, hb⟩ => ⟨_, he, OwnS.nil _ _, hb⟩
theorem both_feats {w : World} {base : Nat} {l : List ByteArray} {pv pr : Value} (h : Both w base l pv pr) : ∃ l' : List ByteArray, ∀ W, Below w.heap.size w W →
    GivesS 20 #[pv] W l' ∧ GivesS 21 #[pr] W l' := by
  rcases h with ⟨_, rfl, rfl⟩ | ⟨h0, B, R, nv, bf, bs, by_, rv, rfl, rfl, hI, hR⟩
  · exact ⟨[], fun W hb => ⟨givesS_nil (no_feats (noInv_nil W)), givesS_nil (rfeats_nil W)⟩⟩
  · exact ⟨l, fun W hb => ⟨feats_any (hI.below hb) (newE_len h0), rfeats_any (hR.below hb) (newE_len h0)⟩⟩
theorem both_len {w : World} {base : Nat} {l : List ByteArray} {pv pr : Value} (h : Both w base l pv pr) : ∀ W, Below w.heap.size w W → Gives 22 #[pv] W (.int .i64 0) := by
  rcases h with ⟨_, rfl, rfl⟩ | ⟨h0, B, R, nv, bf, bs, by_, rv, rfl, rfl, hI, hR⟩
  · exact fun W hb => no_len (noInv_nil W)
  · exact fun W hb => len_any (hI.below hb)
set_option maxRecDepth 100000 in
set_option maxHeartbeats 8000000 in
theorem news_any (l : List ByteArray) (v : Value) (name : ByteArray) (w : World) (hx : ∀ x ∈ l, x.size ≤ maxLen) (hn : name.size ≤ maxLen) (h : Ss w v l) : Gives 3 #[v, .string name] w (.bool true) := by
  unfold Gives
  have hb0 := (Below.refl w.heap.size w).alloc (Nat.le_refl _) (.cells #[.string name] 9)
  have hfew := few_some l [name] v (.slice (some ⟨w.heap.size, 0, none⟩) 1 1) _ (h.below hb0) (ss_one w name) hx (fun x hh => by
    obtain rfl : x = name := by simpa using hh
    exact hn)
  have hcl := fun (hl : l.length ≤ 100) (W : World) (hb : Below w.heap.size w W) => cloneS_any l v W (by omega) (h.below hb)
  have hboth := fun (W : World) (hb : Below w.heap.size w W) => both_any l v W hx (h.below hb)
  have hss := fun (W : World) (hb : Below w.heap.size w W) => h.below hb
  obtain ⟨ao, cap, rfl, -, -, -⟩ := h.open
  have HF := Lib.hid hfew; have HCL := Lib.hid hcl; have HBo := Lib.hid hboth; have HSS := Lib.hid hss
  clear hfew hcl hboth hss h hx
  go_enter Try.func3, Try.ntmps3
  go_wp2_with fail
  go_at_call 13
  refine HF.out.mono ?_
  rintro e w1 ⟨F, rfl, hF, hb⟩
  have hw := hb0.trans (hb.mono hb0.size)
  clear hb hb0 HF
  cases F
  · clear hF
    go_wp2_with (go_at_call 14; refine Gives.then (works_any _) ?_; intro w2 hb2)
    go_returns
    exact ⟨rfl, hw.trans (hb2.mono hw.size)⟩
  · have hl := hF rfl
    clear hF
    go_wp2_with fail
    go_at_call 15
    refine (HCL.out hl w1 hw).mono ?_
    rintro e w2 ⟨v2, rfl, ho2, hb2⟩
    have hw2 := hw.trans (hb2.mono hw.size)
    have ho2 := ho2.mono hw.size
    obtain ⟨a2, c2, rfl, -, -, -⟩ := ho2.ss.open
    have HO2 := Lib.hid ho2
    clear hb2 ho2 hw HCL
    go_wp2_with fail
    go_at_call 16
    refine (HBo.out w2 hw2).mono ?_
    rintro e w3 ⟨hb3, pv, pr, rfl, hBB⟩
    have hw3 := hw2.trans (hb3.mono hw2.size)
    have HO3 := Lib.hid (HO2.out.below hb3)
    have HBo2 := Lib.hid hb3.size
    have HBB := Lib.hid hBB
    obtain ⟨⟨qv, rfl⟩, ⟨qr, rfl⟩⟩ := hBB.ptrs
    have hq := eqS_any l l _ _ w3 HO3.out.ss (HSS.out w3 hw3)
    rw [decide_eq_true rfl] at hq
    have HQ := Lib.hid hq
    have hown : ∀ k, Value.ownBlock (.slice a2 l.length c2) = some k → w.heap.size ≤ k ∧ k < w2.heap.size := fun k e => by
      refine ⟨?_, own_lt HO2.out e⟩
      obtain ⟨_, ⟨hv, _⟩ | ⟨g, _, _, hv, hg, _⟩⟩ := HO2.out
      · rw [hv] at e; cases e
      · rw [hv] at e; simp only [Value.ownBlock, Option.some.injEq] at e; omega
    have HOWN := Lib.hid hown
    clear hb3 hBB hq HO2 HBo HSS hown
    go_wp2_with fail
    go_at_call 17
    refine Gives.then HQ.out ?_
    intro w4 hb4
    have hw4 := hw3.trans (hb4.mono hw3.size)
    have hsz := hw4.size
    have HBB4 := Lib.hid ((HBB.out.below hb4).below ((Below.refl _ w4).alloc (Nat.le_refl _) (.cells #[.string name] 9)))
    have HO4 := Lib.hid ((HO3.out.below hb4).below ((Below.refl _ w4).alloc (Nat.le_refl _) (.cells #[.string name] 9)))
    have HW4 := Lib.hid (hw4.alloc hsz (.cells #[.string name] 9))
    have hs2 : w2.heap.size ≤ w4.heap.size := by have := hb4.size; have := HBo2.out; omega
    clear hb4 HQ HO3 hw3 HBB hw4
    go_wp2_with (at_builtin; refine wpList_appSg rfl (.tmp 37) (.tmp 39) rfl w.heap.size _ _ l [name] rfl rfl HO4.out (ss_one w4 name) (by simp; omega) (by go_size) ?_; intro v' w5 ho5 hg5; obtain ⟨a5, c5, hv5, -, -, -⟩ := ho5.ss.open; subst hv5; have HO5 := Lib.hid ho5.ss; have hw5 := HW4.out.grown hg5 HW4.out.size (fun k e => (HOWN.out k e).1); have HBB5 := Lib.hid (HBB4.out.above (above_grown hg5 (fun k e => (HOWN.out k e).2))); clear ho5 hg5)
    have hfe := fun k => both_feat HBB5.out k
    obtain ⟨l', hfs⟩ := both_feats HBB5.out
    have hln := both_len HBB5.out
    have HFE := Lib.hid hfe; have HFS := Lib.hid hfs; have HLN := Lib.hid hln
    have HW5 := Lib.hid hw5
    clear hfe hfs hln HBB4 HBB5 HO4 HW4 hw5 HOWN ho2 hw2
    go_loopw [42] (fun i wr => ∃ k : Nat, k ≤ l.length + 1 ∧ i = .int .i64 (k : Int) ∧ Below w5.heap.size w5 wr) (fun i _ => l.length + 1 - (intOf i).toNat)
    case atStart => exact ⟨0, Nat.zero_le _, rfl, Below.refl _ _⟩
    case round =>
      obtain ⟨k, hk, rfl, hwr⟩ := hrel
      by_cases hlt : k < l.length + 1
      · obtain ⟨ao', cap', hv', -, -, hcells⟩ := HO5.out.open
        obtain ⟨b, off, hao, lb, d0⟩ := hcells k (by simp; omega)
        cases hv'
        subst hao
        have d0 := (hwr.cell (p := ⟨b, off + k, none⟩) lb).trans d0
        obtain ⟨x, hx⟩ : ∃ x, (l ++ [name])[k]'(by simp; omega) = x := ⟨_, rfl⟩
        rw [hx] at d0
        obtain ⟨z, bb, hz⟩ := HFE.out x
        have HZ := Lib.hid hz; have HWR := Lib.hid hwr
        clear hcells hx hz hwr HFE
        go_wp2_with fail
        go_at_call 18
        refine Gives.then (HZ.out _ HWR.out).1 ?_
        intro w6 hb6
        have HW6 := Lib.hid (HWR.out.trans (hb6.mono HWR.out.size))
        clear hb6 HWR
        go_wp2_with fail
        go_at_call 19
        refine Gives.then (HZ.out _ HW6.out).2 ?_
        intro w7 hb7
        have HW7 := Lib.hid (HW6.out.trans (hb7.mono HW6.out.size))
        clear hb7 HW6 d0
        go_wp2_with fail
        go_roundw
        case rel => exact ⟨k + 1, by omega, by go_num, HW7.out⟩
        case measure => simp [intOf]; omega
      · obtain rfl : k = l.length + 1 := by omega
        have HWR := Lib.hid hwr
        clear hwr hlt
        go_wp2_with fail
        go_at_call 20
        refine (HFS.out _ HWR.out).1.mono ?_
        rintro e w6 ⟨v6, rfl, ho6, hb6⟩
        obtain ⟨a6, c6, rfl, -, -, -⟩ := ho6.ss.open
        have HO6 := Lib.hid ho6
        have HW6 := Lib.hid (HWR.out.trans (hb6.mono HWR.out.size))
        clear hb6 ho6
        go_wp2_with fail
        go_at_call 21
        refine (HFS.out _ HW6.out).2.mono ?_
        rintro e w7 ⟨v7, rfl, ho7, hb7⟩
        obtain ⟨a7, c7, rfl, -, -, -⟩ := ho7.ss.open
        have hq := eqS_any l' l' _ _ w7 (HO6.out.below hb7).ss ho7.ss
        rw [decide_eq_true rfl] at hq
        have HQ := Lib.hid hq
        have HW7 := Lib.hid (HW6.out.trans (hb7.mono HW6.out.size))
        clear hb7 ho7 hq HO6
        go_wp2_with fail
        go_at_call 17
        refine Gives.then HQ.out ?_
        intro w8 hb8
        have HW8 := Lib.hid (HW7.out.trans (hb8.mono HW7.out.size))
        clear hb8 HQ
        go_wp2_with fail
        go_at_call 22
        refine Gives.then (HLN.out _ HW8.out) ?_
        intro w9 hb9
        have HW9 := Lib.hid (HW8.out.trans (hb9.mono HW8.out.size))
        clear hb9
        go_wp2_with (go_at_call 14; refine Gives.then (works_any _) ?_; intro w10 hb10)
        go_returns
        exact ⟨rfl, (HW5.out.trans (HW9.out.mono HW5.out.size)).trans (hb10.mono (Nat.le_trans HW5.out.size HW9.out.size))⟩
end Go.Proofs.Ytmgikhldkebjbaa
