/-
  Lemmas that the theorem of this claim rests on: 4 texts, one behind the other.
-/
import Derived.Test.YtpnmapfabjdfjaaDoorM13
import Derived.Lib.SliceRun
import Derived.Test.YtpnmapfabjdfjaaDoorM10
import Derived.Test.YtpnmapfabjdfjaaDoorM11
import Derived.Test.YtpnmapfabjdfjaaDoorM9
import Derived.Shelf.SlSortCmp.NoneTotal
import Derived.Test.YtpnmapfabjdfjaaDoorM12
set_option linter.unusedSimpArgs false
set_option linter.unusedVariables false

/-
  slices.DeleteFunc: the sounds that do not satisfy a condition.
-/
namespace Go.Proofs.YtpnmapfabjdfjaaDoor
open Go.RowKit Go.Sort
theorem outN_is (ks : List Snd) : ∀ (l : List Snd) (i : Nat), (outN ks l i = -1 ∧ ∀ x ∈ l, x ∈ ks) ∨ ∃ k, ∃ h : k < l.length, outN ks l i = ((i + k : Nat) : Int) ∧ l[k] ∉ ks ∧ ∀ j (hj : j < l.length), j < k → l[j] ∈ ks
  | [], i => .inl ⟨rfl, by simp⟩
  | x :: l, i => by
    have hs : outN ks (x :: l) i = if x ∈ ks then outN ks l (i + 1) else (i : Int) := rfl
    by_cases e : x ∈ ks
    · rw [if_pos e] at hs
      rcases outN_is ks l (i + 1) with ⟨h1, h2⟩ | ⟨k, hk, h1, h2, h3⟩
      · exact .inl ⟨by rw [hs, h1], fun y hy => by
          rcases List.mem_cons.1 hy with rfl | hy
          · exact e
          · exact h2 y hy⟩
      · refine .inr ⟨k + 1, by simp; omega, by rw [hs, h1]; congr 1; omega, by simpa using h2, fun j hj hjk => ?_⟩
        cases j with
        | zero => exact e
        | succ j => simpa using h3 j (by simpa using hj) (by omega)
    · rw [if_neg e] at hs
      exact .inr ⟨0, by simp, by rw [hs]; simp, by simpa using e, fun j _ hj => by omega⟩
/-- A sound stands in a block's cells at a place. -/
def SnAt (cu : Array Value) (t : Nat) (x : Snd) : Prop := cu[t * 2]? = some (.int .u32 (x.1.toNat : Int)) ∧ cu[t * 2 + 1]? = some (.int .u32 (x.2.toNat : Int))
theorem SnAt.set {cu : Array Value} {t a : Nat} {x y : Snd} (ha : a * 2 + 1 < cu.size) (h : t ≠ a → SnAt cu t x) (he : t = a → x = y) : SnAt ((cu.setIfInBounds (a * 2) (.int .u32 (y.1.toNat : Int))).setIfInBounds (a * 2 + 1) (.int .u32 (y.2.toNat : Int))) t x := by
  unfold SnAt at *
  by_cases e : t = a
  · subst e
    obtain rfl := he rfl
    constructor
    · rw [Array.getElem?_setIfInBounds_ne (by omega), Array.getElem?_setIfInBounds_self_of_lt (by omega)]
    · rw [Array.getElem?_setIfInBounds_self_of_lt (by simp; omega)]
  · obtain ⟨h0, h1⟩ := h e
    constructor
    · rw [Array.getElem?_setIfInBounds_ne (by omega), Array.getElem?_setIfInBounds_ne (by omega)]; exact h0
    · rw [Array.getElem?_setIfInBounds_ne (by omega), Array.getElem?_setIfInBounds_ne (by omega)]; exact h1
theorem othL_snoc (l : List Snd) (x c : Snd) : othL (l ++ [x]) c = othL l c ++ (if sat x c then [] else [x]) := by
  unfold othL
  rw [List.filter_append]
  cases h : sat x c <;> simp [h]
theorem othL_all {l : List Snd} {c : Snd} (h : ∀ x ∈ l, x ∈ othL l c) : othL l c = l := by
  unfold othL at *
  rw [List.filter_eq_self]
  intro x hx
  exact (List.mem_filter.1 (h x hx)).2
theorem othL_len (l : List Snd) (c : Snd) : (othL l c).length ≤ l.length := List.length_filter_le _ _
theorem run_clear_two {w : World} {g o n k : Nat} {cu : Array Value} (hh : w.heap[g]? = some (.cells cu 27)) (hn : 0 < n) (hs : o + n * 2 ≤ cu.size) :
    ∃ w', (∀ ty, (Builtin.clear_ #[22] ty #[.slice (some ⟨g, o, none⟩) n k]).run Tryd.prog w = .ok (.tuple #[]) w') ∧ (∀ base, base ≤ g → Below base w w') ∧ ∀ i, i < o → w'.cell? ⟨g, i, none⟩ = w.cell? ⟨g, i, none⟩ := by
  have hz : (zeroValue 27).run Tryd.prog w = .ok (.agg #[.int .u32 0, .int .u32 0]) w := by kernel_rfl
  have hlen : (Builtin.zeroCells (Value.agg #[.int .u32 0, .int .u32 0]).cells n).toList.length = n * 2 := by
    unfold Builtin.zeroCells
    simp
    rfl
  have h1 : ∀ v ∈ (Builtin.zeroCells (Value.agg #[.int .u32 0, .int .u32 0]).cells n).toList, v.oneCell' = true := fun v hv => by
    have e : (Value.agg #[.int .u32 0, .int .u32 0]).cells = #[.int .u32 0, .int .u32 0] := rfl
    rw [e] at hv
    unfold Builtin.zeroCells at hv
    rw [Array.toList_map] at hv
    obtain ⟨i, _, rfl⟩ := List.mem_map.1 hv
    have h3 : i % 2 < 2 := Nat.mod_lt _ (by decide)
    have key : ∀ k : Fin 2, ((#[.int .u32 0, .int .u32 0] : Array Value)[k.val]!).oneCell' = true := by decide
    exact key ⟨i % 2, h3⟩
  have hst := run_storeCells_cells (P := Tryd.prog) g o (Builtin.zeroCells (Value.agg #[.int .u32 0, .int .u32 0]).cells n).toList 0 w (fun j hj => by
    rw [hlen] at hj
    rw [show o + 0 + j = o + j from by omega, cell_block hh (v := cu[o + j]'(by omega)) (Array.getElem?_eq_getElem (by omega))]
    rfl) (fun j hj => frozen_block hh) h1
  refine ⟨w.setCells g (o + 0) (Builtin.zeroCells (Value.agg #[.int .u32 0, .int .u32 0]).cells n).toList, fun ty => ?_, fun base hb => ?_, fun i hi => ?_⟩
  · obtain ⟨m, hm2⟩ : ∃ m, n = m + 1 := ⟨n - 1, by omega⟩
    rw [hm2] at hst ⊢
    simp [Builtin.clear_, run_underlying Tryd.underlying22, hz, hst]
  · have key : ∀ (vs : List Value) (o : Nat) (W : World), Below base w W → Below base w (W.setCells g o vs) := by
      intro vs
      induction vs with
      | nil => exact fun o W h => h
      | cons v vs ih => exact fun o W h => ih _ _ (h.setCell (p := ⟨g, o, none⟩) hb v)
    exact key _ _ w (Below.refl _ _)
  · exact World.cell?_setCells_out g _ _ _ _ (fun _ _ => .inl hi)
/-- The cells of a list of sounds. -/
theorem wd_of_cells {w : World} {g n cap : Nat} {ss : List Snd} (hn : n = ss.length) (hc : n ≤ cap) (hm : cap ≤ maxLen) (hg : g < w.heap.size) (h : ∀ t (ht : t < ss.length), w.cell? ⟨g, t * 2, none⟩ = some (.int .u32 (ss[t].1.toNat : Int)) ∧ w.cell? ⟨g, t * 2 + 1, none⟩ = some (.int .u32 (ss[t].2.toNat : Int))) : Wd w (.slice (some ⟨g, 0, none⟩) n cap) ss := by
  subst hn
  exact .inr ⟨g, 0, cap, rfl, hc, hm, hg, fun i hi => by simp only [Nat.zero_add]; exact h i hi⟩
set_option maxRecDepth 100000 in
set_option maxHeartbeats 8000000 in
theorem delete_any (l : List Snd) (c : Snd) (g cap D base : Nat) (cur : Array Value) (w : World) (hg : base ≤ g) (hD : w.cell? ⟨D, 0, none⟩ = some (.int .u32 (c.1.toNat : Int)) ∧ w.cell? ⟨D, 1, none⟩ = some (.int .u32 (c.2.toNat : Int))) (lD : D < base) (lb : base ≤ w.heap.size)
    (hh : w.heap[g]? = some (.cells cur 27)) (hcur : ∀ t (h : t < l.length), SnAt cur t l[t]) (hcs : l.length * 2 ≤ cur.size) (hcap : l.length ≤ cap) (hm : cap ≤ maxLen) (hv : ∀ x ∈ l, vld x.1 x.2 = true) (hcv : vld c.1 c.2 = true) :
    Calls Tryd.prog 83 #[.slice (some ⟨g, 0, none⟩) l.length cap, .func (.func 85) #[] #[.pointer (some ⟨D, 0, none⟩)]] w fun e w' => ∃ v', e = .returned v' ∧ Wd w' v' (othL l c) ∧ Below base w w' := by
  have hgs : g < w.heap.size := (Array.getElem?_eq_some_iff.1 hh).1
  have hwd : Wd w (.slice (some ⟨g, 0, none⟩) l.length cap) l := wd_of_cells rfl hcap hm hgs (fun t ht => ⟨cell_block hh (hcur t ht).1, cell_block hh (hcur t ht).2⟩)
  have hix := index_s1 l c _ D w hwd hD (by omega) hv hcv
  have hs1 := fun x (hx : x ∈ l) (W : World) (hW : Below base w W) => s1_in l c x hx D W ⟨(hW.cell (p := ⟨D, 0, none⟩) lD).trans hD.1, (hW.cell (p := ⟨D, 1, none⟩) lD).trans hD.2⟩ (Nat.lt_of_lt_of_le (Nat.lt_of_lt_of_le lD lb) hW.size) (hv x hx) hcv
  obtain ⟨N, hN⟩ : ∃ N, l.length = N := ⟨_, rfl⟩
  have l1 : N ≤ 9223372036854775807 := by unfold maxLen at hm; omega
  have HIX := Lib.hid hix; have HS1 := Lib.hid hs1; have HN := Lib.hid hN; have HH := Lib.hid hh; have HCU := Lib.hid hcur; have HWD := Lib.hid hwd; have HM := Lib.hid hm; have HCS := Lib.hid hcs
  rw [hN] at hcap HIX HWD HCS ⊢
  clear hix hs1 hN hh hcur hwd hm hD hv hcv hcs
  rcases outN_is (othL l c) l 0 with ⟨h1, h2⟩ | ⟨k0, hk0, h1, h2, h3⟩
  · rw [h1] at HIX
    have he := othL_all h2
    have HE := Lib.hid he
    clear h1 h2 he HS1 HCU HH HCS
    go_enter Tryd.func83, Tryd.ntmps83
    go_wp2_with fail
    go_at_call 101
    refine Gives.then HIX.out ?_
    intro w1 hb1
    go_wp2_with fail
    go_returns
    exact ⟨_, rfl, by rw [HE.out]; exact HWD.out.below hb1, hb1.mono lb⟩
  · rw [h1, Nat.zero_add] at HIX
    have hk1 : (k0 : Int) ≠ -1 := by omega
    have hk2 : ((k0 : Int) == -1) = false := by simp
    have ht0 : othL (l.take k0) c = l.take k0 := by
      unfold othL
      rw [List.filter_eq_self]
      intro x hx
      obtain ⟨j, hj, rfl⟩ := List.getElem_of_mem hx
      rw [List.length_take] at hj
      have hjl : j < l.length := by omega
      have hin := h3 j hjl (by omega)
      rw [List.getElem_take]
      exact (List.mem_filter.1 hin).2
    have hs0 : sat l[k0] c = true := by
      have hd := oth_mem (List.getElem_mem hk0) (c := c)
      rw [decide_eq_false h2] at hd
      cases hs : sat l[k0] c
      · rw [hs] at hd; cases hd
      · rfl
    have ht1 : othL (l.take (k0 + 1)) c = l.take k0 := by
      rw [List.take_succ_eq_append_getElem hk0, othL_snoc, hs0, if_pos rfl, List.append_nil, ht0]
    have HT1 := Lib.hid ht1
    have hkN : k0 < N := by rw [← HN.out]; exact hk0
    clear h1 h2 h3 ht0 hs0 ht1 hk1 HWD
    go_enter Tryd.func83, Tryd.ntmps83
    go_wp2_with fail
    go_at_call 101
    refine Gives.then HIX.out ?_
    intro w1 hb1
    have hh1 := (hb1.block g hgs).trans HH.out
    have HH1 := Lib.hid hh1; have HW1 := Lib.hid (hb1.mono lb)
    clear hb1 hh1 HIX
    go_wp2_with fail
    go_loopw [5, 6] (fun s5 s6 wr => ∃ j a : Nat, j ≤ N ∧ a + 1 ≤ j ∧ s5 = .int .i64 (a : Int) ∧ s6 = .int .i64 (j : Int) ∧ (othL (l.take j) c).length = a ∧ (∃ cu, wr.heap[g]? = some (.cells cu 27) ∧ cu.size = cur.size ∧ (∀ t (h : t < (othL (l.take j) c).length), SnAt cu t (othL (l.take j) c)[t]) ∧ (∀ t (h : t < l.length), j ≤ t → SnAt cu t l[t])) ∧ Below base w wr) (fun _ s6 _ => N - (intOf s6).toNat)
    case atStart =>
      refine ⟨k0 + 1, k0, by omega, Nat.le_refl _, rfl, by go_num, by rw [HT1.out, List.length_take]; omega, ⟨cur, HH1.out, rfl, fun t ht => ?_, fun t ht _ => HCU.out t ht⟩, HW1.out⟩
      have e : (othL (l.take (k0 + 1)) c)[t] = l[t]'(by rw [HT1.out, List.length_take] at ht; omega) := by
        simp only [HT1.out, List.getElem_take]
      rw [e]
      exact HCU.out t _
    case round =>
      obtain ⟨j, a, hj, haj, rfl, rfl, hla, ⟨cu, hcu, hcz, hlo, hhi⟩, hw⟩ := hrel
      by_cases hlt : j < N
      · have hjl : j < l.length := by rw [HN.out]; exact hlt
        have hni := HS1.out l[j] (List.getElem_mem hjl)
        have hsn := othL_snoc (l.take j) l[j] c
        rw [← List.take_succ_eq_append_getElem hjl] at hsn
        have hom := oth_mem (List.getElem_mem hjl) (c := c)
        have hd := hhi j hjl (Nat.le_refl _)
        have HHI := Lib.hid hhi; have HLO := Lib.hid hlo
        have haN : a < N := by omega
        clear hhi hlo
        generalize hx : l[j] = x at *
        obtain ⟨p, m⟩ := x
        have d0 : wr.cell? ⟨g, j * 2, none⟩ = some (.int .u32 (p.toNat : Int)) := cell_block hcu hd.1
        have d1 : wr.cell? ⟨g, j * 2 + 1, none⟩ = some (.int .u32 (m.toNat : Int)) := cell_block hcu hd.2
        simp only at hni
        have k8 := World.alloc_heap_new wr (.cells #[.int .u32 (p.toNat : Int), .int .u32 (m.toNat : Int)] 27)
        have hgw : g < wr.heap.size := (Array.getElem?_eq_some_iff.1 hcu).1
        have hw8 := hw.alloc (Nat.le_trans lb hw.size) (.cells #[.int .u32 (p.toNat : Int), .int .u32 (m.toNat : Int)] 27)
        have hg8 := (Below.heap_alloc wr (.cells #[.int .u32 (p.toNat : Int), .int .u32 (m.toNat : Int)] 27) g hgw).trans hcu
        have hz8 : wr.heap.size < (wr.alloc (.cells #[.int .u32 (p.toNat : Int), .int .u32 (m.toNat : Int)] 27)).heap.size := by rw [World.size_alloc]; omega
        have hni := hni _ hw8
        rw [hom] at hni
        have HW8 := Lib.hid hw8; have HG8 := Lib.hid hg8; have HZ8 := Lib.hid hz8; have HGW := Lib.hid hgw; have HX := Lib.hid hx; have HSN := Lib.hid hsn; have HLA := Lib.hid hla; have HCZ := Lib.hid hcz; have HK8 := Lib.hid k8
        rw [Bool.not_not] at hni
        have hcs := HCS.out
        obtain ⟨v0, hv0⟩ : ∃ v0, cu[a * 2]? = some v0 := ⟨_, Array.getElem?_eq_getElem (by omega)⟩
        obtain ⟨v1, hv1⟩ : ∃ v1, cu[a * 2 + 1]? = some v1 := ⟨_, Array.getElem?_eq_getElem (by omega)⟩
        have HV0 := Lib.hid hv0; have HV1 := Lib.hid hv1
        clear hv0 hv1 hcs
        cases hsat : sat (p, m) c
        · rw [hsat] at hni HSN
          have HNI := Lib.hid hni
          clear hni hsn hom hd hw8 hg8 hz8 hgw hx hla hcz k8 hsat hw hcu HCU HS1 HH HH1 HT1
          go_wp2_with (go_at_call 85; (with_reducible refine Gives.then HNI.out ?_); intro w9 hb9; have HB9 := Lib.hid hb9; have hg9 := (hb9.block g (Nat.lt_trans HGW.out HZ8.out)).trans HG8.out; have b9 := (hb9.block _ HZ8.out).trans HK8.out; have b90 : w9.cell? ⟨wr.heap.size, 0, none⟩ = some (.int .u32 (p.toNat : Int)) := cell_block b9 rfl; have b91 : w9.cell? ⟨wr.heap.size, 1, none⟩ = some (.int .u32 (m.toNat : Int)) := cell_block b9 rfl; have g0 := cell_block hg9 HV0.out; have g1 := cell_block hg9 HV1.out; have f0 := frozen_block hg9 (o := a * 2); have f1 := frozen_block hg9 (o := a * 2 + 1); have HG9 := Lib.hid hg9; clear hb9 hg9 b9)
          go_roundw
          case rel =>
            have hon : othL (l.take (j + 1)) c = othL (l.take j) c ++ [(p, m)] := by rw [HSN.out]; rfl
            have hcs := HCS.out
            have hcz := HCZ.out
            refine ⟨j + 1, a + 1, by omega, by omega, by go_num, by go_num, by rw [hon, List.length_append, HLA.out]; rfl, ⟨_, block_set (block_set HG9.out), by simp [HCZ.out], fun t ht => ?_, fun t ht hjt => ?_⟩, ?_⟩
            · refine SnAt.set (y := (p, m)) (by omega) (fun hne => ?_) (fun he => ?_)
              · have hta : t < (othL (l.take j) c).length := by rw [hon, List.length_append, HLA.out] at ht; rw [HLA.out]; simp at ht; omega
                have e : (othL (l.take (j + 1)) c)[t] = (othL (l.take j) c)[t] := by
                  simp only [hon]
                  rw [List.getElem_append_left hta]
                rw [e]
                exact HLO.out t hta
              · subst he
                simp only [hon]
                rw [List.getElem_append_right (by rw [HLA.out]; exact Nat.le_refl _)]
                simp
            · refine SnAt.set (y := (p, m)) (by omega) (fun _ => HHI.out t ht (by omega)) (fun he => by omega)
            · exact ((HW8.out.trans (HB9.out.mono (Nat.le_trans lb HW8.out.size))).setCell (p := ⟨g, _, none⟩) hg _).setCell (p := ⟨g, _, none⟩) hg _
          case measure => simp [intOf]; omega
        · rw [hsat] at hni HSN
          have HNI := Lib.hid hni
          clear hni hsn hom hd hw8 hg8 hz8 hgw hx hla hcz k8 hsat hw hcu HCU HS1 HH HH1 HT1
          go_wp2_with (go_at_call 85; (with_reducible refine Gives.then HNI.out ?_); intro w9 hb9; have HB9 := Lib.hid hb9; have hg9 := (hb9.block g (Nat.lt_trans HGW.out HZ8.out)).trans HG8.out; have HG9 := Lib.hid hg9; clear hb9 hg9)
          go_roundw
          case rel =>
            have hon : othL (l.take (j + 1)) c = othL (l.take j) c := by rw [HSN.out]; exact List.append_nil _
            refine ⟨j + 1, a, by omega, by omega, by go_num, by go_num, by rw [hon, HLA.out], ⟨_, HG9.out, HCZ.out, fun t ht => ?_, fun t ht hjt => HHI.out t ht (by omega)⟩, ?_⟩
            · simp only [hon]
              exact HLO.out t (by rw [hon] at ht; exact ht)
            · exact HW8.out.trans (HB9.out.mono (Nat.le_trans lb HW8.out.size))
          case measure => simp [intOf]; omega
      · obtain rfl : j = N := by omega
        have hfl : l.take j = l := by rw [← HN.out, List.take_length]
        rw [hfl] at hla hlo
        have hcs := HCS.out
        obtain ⟨w9, hclr, hb9, hc9⟩ := run_clear_two (o := a * 2) (n := j - a) (k := cap - a) hcu (by omega) (by omega)
        have HB9 := Lib.hid (hb9 base hg); have HC9 := Lib.hid hc9; have HLO := Lib.hid hlo; have HLA := Lib.hid hla; have HCU2 := Lib.hid hcu; have HW := Lib.hid hw
        have haN : a < j := by omega
        have hac : a ≤ cap := by omega
        have hac2 : a < cap := by omega
        have hcj : ¬ cap = a := by omega
        clear hb9 hc9 hlo hla hcu hw hhi hlt hfl hcs HCU HS1 HH HH1 HT1
        go_wp2_with fail
        go_returns
        have hwb := HW.out.trans (HB9.out.mono (Nat.le_refl _))
        refine ⟨_, rfl, ?_, hwb⟩
        have hgw : g < wr.heap.size := (Array.getElem?_eq_some_iff.1 HCU2.out).1
        refine wd_of_cells HLA.out.symm hac HM.out (Nat.lt_of_lt_of_le hgw HB9.out.size) (fun t ht => ?_)
        have hta : t < a := by rw [← HLA.out]; exact ht
        exact ⟨(HC9.out _ (by omega)).trans (cell_block HCU2.out (HLO.out t ht).1), (HC9.out _ (by omega)).trans (cell_block HCU2.out (HLO.out t ht).2)⟩
end Go.Proofs.YtpnmapfabjdfjaaDoor

/-
  slices.SortFunc of sounds.
-/
namespace Go.Proofs.YtpnmapfabjdfjaaDoor
open Go.RowKit Go.Shelf Go.Lib Go.Sort Go.Proofs
def encS (x : Snd) : List Value := [.int .u32 (x.1.toNat : Int), .int .u32 (x.2.toNat : Int)]
theorem cmpN_lt (x y : Nat) : (cmpN x y < 0 ↔ x < y) ∧ (cmpN x y = 0 ↔ x = y) := by
  unfold cmpN
  by_cases h1 : x < y
  · rw [if_pos h1]; omega
  · rw [if_neg h1]
    by_cases h2 : y < x
    · rw [if_pos h2]; omega
    · rw [if_neg h2]; omega
/-- The order of sounds, as numbers. -/
def ltS (x y : Snd) : Prop := x.1.toNat < y.1.toNat ∨ (x.1.toNat = y.1.toNat ∧ x.2.toNat < y.2.toNat)
theorem ordS_lt (x y : Snd) : ordS x y < 0 ↔ ltS x y := by
  have h1 := cmpN_lt x.1.toNat y.1.toNat
  have h2 := cmpN_lt x.2.toNat y.2.toNat
  unfold ordS ordN ltS
  by_cases h : cmpN x.1.toNat y.1.toNat = 0
  · rw [if_pos h]
    have e := h1.2.1 h
    rw [h2.1]
    omega
  · rw [if_neg h]
    have e : ¬ x.1.toNat = y.1.toNat := fun e => h (h1.2.2 e)
    rw [h1.1]
    omega
theorem ltOf_ordS (x y : Snd) : ltOf ordS x y = decide (ordS x y < 0) := by
  unfold ltOf
  rfl
theorem swoS : SWO (ltOf ordS) where
  irrefl x := by rw [ltOf_ordS, decide_eq_false_iff_not, ordS_lt]; unfold ltS; omega
  trans x y z h1 h2 := by
    rw [ltOf_ordS, decide_eq_true_iff, ordS_lt] at *
    unfold ltS at *
    omega
  ntrans x y z h1 h2 := by
    rw [ltOf_ordS, decide_eq_false_iff_not, ordS_lt] at *
    unfold ltS at *
    omega
theorem ltS_total {x y : Snd} (h : x ≠ y) : ltS x y ∨ ltS y x := by
  unfold ltS
  have hn : ¬ (x.1.toNat = y.1.toNat ∧ x.2.toNat = y.2.toNat) := fun e => h (Prod.ext (BitVec.eq_of_toNat_eq e.1) (BitVec.eq_of_toNat_eq e.2))
  omega
theorem cmpS_lays (blk off size : Nat) (w : World) : CmpLays Tryd.prog 41 #[] encS 2 ordS blk off size w := by
  intro m os dk hdk x y
  refine Calls.mono (Dn.orderF_d x.1 x.2 y.1 y.2 _) ?_
  rintro e w' ⟨rfl, hbd⟩
  refine ⟨rfl, ?_⟩
  obtain ⟨p, hp⟩ := Dn.regrownD_of hbd
  refine ⟨p.1.d - (sortWorldK encS 2 w blk off m dk os).drawn, p.1.os, hp.trans ?_⟩
  have hd := p.2
  have : redrawn (sortWorldK encS 2 w blk off m dk os) p.1.d = (sortWorldK encS 2 w blk off m dk os).drewN (p.1.d - (sortWorldK encS 2 w blk off m dk os).drawn) := by
    unfold redrawn World.drewN
    congr 1
    omega
  rw [this]
/-- Sounds in their order, each once or more. -/
def SortedS (X : List Snd) : Prop := ∀ i j (hi : i < j) (hj : j < X.length), ¬ ltS X[j] (X[i]'(by omega))
theorem encS_len (x : Snd) : (encS x).length = 2 := rfl
theorem encS_one (x : Snd) : ∀ v ∈ encS x, v.oneCell' = true := fun v hv => by simp [encS] at hv; rcases hv with rfl | rfl <;> rfl
theorem flat_at (d : Array Snd) (i : Nat) (h : i < d.size) : (flatK encS 2 d)[i * 2]! = .int .u32 (d[i].1.toNat : Int) ∧ (flatK encS 2 d)[i * 2 + 1]! = .int .u32 (d[i].2.toNat : Int) := by
  rw [get_flatK encS 2 d _ (by omega), get_flatK encS 2 d _ (by omega), show i * 2 / 2 = i from by omega, show (i * 2 + 1) / 2 = i from by omega, show i * 2 % 2 = 0 from by omega, show (i * 2 + 1) % 2 = 1 from by omega, getElem!_pos d i h]
  exact ⟨rfl, rfl⟩
theorem sortS_any (X : List Snd) (g cap : Nat) (cur : Array Value) (w : World) (hh : w.heap[g]? = some (.cells cur 27)) (hcur : ∀ t (h : t < X.length), SnAt cur t X[t]) (hc : X.length ≤ cap) (hm : cap ≤ maxLen) (hl : X.length ≤ 1000000000) :
    Calls Tryd.prog 95 #[.slice (some ⟨g, 0, none⟩) X.length cap, .func (.func 41) #[] #[]] w fun e w' => e = .returned (.tuple #[]) ∧ ∃ Y : List Snd, Y.Perm X ∧ SortedS Y ∧ Wd w' (.slice (some ⟨g, 0, none⟩) X.length cap) Y ∧ Below g w w' := by
  have eg : ∀ args w, (callFunc 41 args).run Tryd.prog w = .ok (.enter 41 args) w := enters_of Tryd.func41 (by kernel_rfl) rfl
  have hg : g < w.heap.size := (Array.getElem?_eq_some_iff.1 hh).1
  have hH : HoldsK encS 2 w g 0 X.toArray := fun j hj => by
    rw [size_flatK] at hj
    have hj' : j / 2 < X.length := by simp at hj; omega
    obtain ⟨c1, c2⟩ := hcur (j / 2) hj'
    obtain ⟨e1, e2⟩ := flat_at X.toArray (j / 2) (by simpa using hj')
    rw [Nat.zero_add]
    refine ⟨?_, frozen_block hh⟩
    rcases Nat.mod_two_eq_zero_or_one j with e | e
    · have e3 : j / 2 * 2 = j := by omega
      rw [e3] at c1 e1
      rw [cell_block hh c1, e1]
      simp
    · have e3 : j / 2 * 2 + 1 = j := by omega
      rw [e3] at c2 e2
      rw [cell_block hh c2, e2]
      simp
  have hcon := AnyQ.slices_SortFunc TrySortQ 2 Tryd.isAgg27 Tryd.sizeOf27 encS encS_len encS_one ordS swoS 41 #[] g 0 cap X.toArray w eg (cmpS_lays g 0 X.toArray.size w) hH hg (by simp; omega)
  change Calls Tryd.prog 95 _ _ _ at hcon
  rw [List.size_toArray] at hcon
  refine hcon.mono ?_
  rintro e w' ⟨rfl, d', n, os, hp, hs, rfl⟩
  have hsz : d'.size = X.length := by have := hp.1; simpa using this
  have hperm : d'.toList.Perm X := by
    have := hp.2.2
    rw [Array.extract_eq_self_of_le (by omega), Array.extract_eq_self_of_le (by simp)] at this
    simpa using this
  have hSW : SWK encS 2 w g 0 d' (sortWorldK encS 2 w g 0 n d' os) := ⟨n, os, rfl⟩
  have hHd := hSW.holds hg hH (by rw [hsz]; simp)
  have hbel : Below g w (sortWorldK encS 2 w g 0 n d' os) := by
    refine ⟨rfl, rfl, rfl, by simp [sortWorldK, putRowK, grow], fun k hk => ?_⟩
    show ((putRow id (Sort.ahead w n) g 0 (flatK encS 2 d')).heap ++ os)[k]? = w.heap[k]?
    rw [Array.getElem?_append_left (by rw [size_putRow]; show k < w.heap.size; omega)]
    show (w.heap.modify g _)[k]? = w.heap[k]?
    rw [Array.getElem?_modify, if_neg (by omega)]
  refine ⟨rfl, d'.toList, hperm, ?_, ?_, hbel⟩
  · intro i j hij hj
    have hj' : j < d'.size := by simpa using hj
    have := hs i j (Nat.zero_le _) hij (by omega)
    rw [ltOf_ordS, decide_eq_false_iff_not, ordS_lt] at this
    rw [getElem!_pos d' j hj', getElem!_pos d' i (by omega)] at this
    simpa using this
  · refine wd_of_cells (by simp [hsz]) hc hm (Nat.lt_of_lt_of_le hg hbel.size) (fun t ht => ?_)
    have ht' : t < d'.size := by simpa using ht
    obtain ⟨e1, e2⟩ := flat_at d' t ht'
    have h1 := (hHd (t * 2) (by rw [size_flatK]; omega)).1
    have h2 := (hHd (t * 2 + 1) (by rw [size_flatK]; omega)).1
    rw [Nat.zero_add] at h1 h2
    rw [h1, h2, e1, e2]
    simp
end Go.Proofs.YtpnmapfabjdfjaaDoor

/-
  slices.Collect and slices.SortedFunc over the keys of a set of sounds.
-/
namespace Go.Proofs.YtpnmapfabjdfjaaDoor
open Go.RowKit Go.Sort Go.Shelf Go.Proofs
theorem collect_any (ks : List Snd) (hks : ks.Nodup) (b Bm : Nat) (hl : ks.length ≤ 1000000000) (w : World) (hBm : w.cell? ⟨Bm, 0, none⟩ = some (.map (some b))) (hm : KMap snv w b ks) :
    Calls Tryd.prog 94 #[.func (.func 96) #[] #[.pointer (some ⟨Bm, 0, none⟩)]] w fun e w' => ∃ v ys, e = .returned v ∧ ys.Nodup ∧ (∀ k, k ∈ ys ↔ k ∈ ks) ∧ Own w' w.heap.size v ys ∧ Below w.heap.size w w' := by
  have h := Lib.hid (appendSeq_any ks hks b Bm hl w hBm hm)
  clear hBm hm
  go_enter Tryd.func94, Tryd.ntmps94
  go_wp2_with fail
  go_at_call 105
  refine h.out.mono ?_
  rintro e w1 ⟨v, ys, rfl, hn, hmem, ho, hb⟩
  obtain ⟨vo, vc, rfl⟩ := ownsRow_slice ho
  have HM := Lib.hid hmem; have HO := Lib.hid ho
  clear hmem ho
  go_wp2_with fail
  go_returns
  exact ⟨_, ys, rfl, hn, HM.out, HO.out, hb⟩
/-- The keys, each once, in the order of sounds. -/
def IncS (X : List Snd) : Prop := ∀ i j (hi : i < j) (hj : j < X.length), ltS (X[i]'(by omega)) X[j]
theorem inc_of {X : List Snd} (hn : X.Nodup) (hs : SortedS X) : IncS X := fun i j hi hj => by
  have hne : X[i]'(by omega) ≠ X[j] := fun e => by
    have := nodup_at hn (by omega) hj e
    omega
  rcases ltS_total hne with h | h
  · exact h
  · exact absurd h (hs i j hi hj)
set_option maxHeartbeats 1000000 in
theorem sortedFunc_any (ks : List Snd) (hks : ks.Nodup) (b Bm : Nat) (hl : ks.length ≤ 1000000000) (w : World) (hBm : w.cell? ⟨Bm, 0, none⟩ = some (.map (some b))) (hm : KMap snv w b ks) :
    Calls Tryd.prog 63 #[.func (.func 96) #[] #[.pointer (some ⟨Bm, 0, none⟩)], .func (.func 41) #[] #[]] w fun e w' => ∃ v Y, e = .returned v ∧ IncS Y ∧ (∀ k, k ∈ Y ↔ k ∈ ks) ∧ Wd w' v Y ∧ Below w.heap.size w w' := by
  have HC := Lib.hid (collect_any ks hks b Bm hl w hBm hm)
  clear hBm hm
  go_enter Tryd.func63, Tryd.ntmps63
  go_wp2_with fail
  go_at_call 94
  refine HC.out.mono ?_
  rintro e w1 ⟨v, ys, rfl, hn, hmem, ho, hb⟩
  have HM := Lib.hid hmem; have HN := Lib.hid hn
  have hlen : ys.length ≤ 1000000000 := Nat.le_trans (List.Nodup.length_le_of_subset hn (fun x hx => (hmem x).1 hx)) hl
  clear hmem hn HC
  obtain ⟨hl2, ⟨rfl, h0⟩ | ⟨g, cap, cur, rfl, hg, hh, hnc, hmx, hs, ht⟩⟩ := ho
  · have hy : ys = [] := List.eq_nil_of_length_eq_zero h0
    subst hy
    clear hl2 h0 hlen
    go_wp2_with fail
    go_at_call 95
    have hcon := AnyF.slices_SortFunc_none (P := Tryd.prog) TrySortQ none 0 (.func (.func 41) #[] #[]) w1
    change Calls Tryd.prog 95 _ _ _ at hcon
    refine hcon.mono ?_
    rintro e w2 ⟨rfl, rfl⟩
    go_wp2_with fail
    go_returns
    exact ⟨_, [], rfl, fun i j hi hj => by simp at hj, HM.out, Wd.nil _, hb⟩
  · have hcur : ∀ t (h : t < ys.length), SnAt cur t ys[t] := fun t h => by
      have e : ∀ o, o < ys.length * 2 → cur[o]? = (flat ys)[o]? := fun o ho => by
        rw [← ht, List.getElem?_take_of_lt ho, Array.getElem?_toList]
      exact ⟨(e _ (by omega)).trans (flat_get0 ys t h), (e _ (by omega)).trans (flat_get1 ys t h)⟩
    have hcon := sortS_any ys g cap cur w1 hh hcur hnc hmx hlen
    have HCON := Lib.hid hcon
    have HMX := Lib.hid hmx; have HG := Lib.hid hg
    have hm' : cap ≤ 9223372036854775807 := hmx
    clear hcon hcur ht hs hh hl2 hlen hmx hg
    go_wp2_with fail
    go_at_call 95
    refine HCON.out.mono ?_
    rintro e w2 ⟨rfl, Y, hp, hs, hwY, hbY⟩
    have HP := Lib.hid hp; have HS := Lib.hid hs; have HWY := Lib.hid hwY
    clear hp hs hwY
    go_wp2_with fail
    go_returns
    exact ⟨_, Y, rfl, inc_of (HP.out.nodup_iff.2 HN.out) HS.out, fun k => HP.out.mem_iff.trans (HM.out k), HWY.out, hb.trans (hbY.mono HG.out)⟩
end Go.Proofs.YtpnmapfabjdfjaaDoor

/-
  natural.Gaps.
-/
namespace Go.Proofs.YtpnmapfabjdfjaaDoor
open Go.RowKit Go.Sort
/-- With at a feature and a value that exist. -/
theorem with_any (z : Snd) (k : Nat) (v : Int) (hv : vld z.1 z.2 = true) (hk : k < 24) (h3 : v = 1 ∨ v = 0 ∨ v = -1) (w : World) : Gives 38 #[.agg #[.int .u32 (z.1.toNat : Int), .int .u32 (z.2.toNat : Int)], .int .i64 (k : Int), .int .i64 v] w (.tuple #[.agg #[.int .u32 ((withP z.1 k v).toNat : Int), .int .u32 ((withM z.2 k v).toNat : Int)], .int .i64 0]) := by
  have h := with_ok z.1 z.2 k v hv hk w
  unfold withV at h
  rw [if_pos h3] at h
  exact h
/-- The sound that an exchange gives. -/
def gapS (z : Snd) (x : Sw) : Snd := (withP z.1 x.1.toNat x.2.2, withM z.2 x.1.toNat x.2.2)
/-- Whether an exchange of a sound gives one that is missing. -/
def isG (l : List Snd) (x : Sw) (z : Snd) : Bool := decide (getV z.1 z.2 x.1.toNat = x.2.1) && !decide (gapS z x ∈ l)
/-- The gaps that one exchange gives, among the first sounds. -/
def gpX (l : List Snd) (x : Sw) (zs : List Snd) (ks : List Snd) : List Snd := zs.foldl (fun ks z => if isG l x z then addK ks (gapS z x) else ks) ks
def gpL (l : List Snd) (xs : List Sw) : List Snd := xs.foldl (fun ks x => gpX l x l ks) []
theorem gpX_snoc (l : List Snd) (x : Sw) (zs : List Snd) (z : Snd) (ks : List Snd) : gpX l x (zs ++ [z]) ks = if isG l x z then addK (gpX l x zs ks) (gapS z x) else gpX l x zs ks := by unfold gpX; rw [List.foldl_append]; rfl
theorem gpL_snoc (l : List Snd) (xs : List Sw) (x : Sw) : gpL l (xs ++ [x]) = gpX l x l (gpL l xs) := by unfold gpL; rw [List.foldl_append]; rfl
theorem gpX_mem (l : List Snd) (x : Sw) (ks : List Snd) (g : Snd) : ∀ zs : List Snd, g ∈ gpX l x zs ks ↔ g ∈ ks ∨ ∃ z ∈ zs, isG l x z = true ∧ g = gapS z x := by
  intro zs
  rw [← List.reverse_reverse zs]
  induction zs.reverse with
  | nil => simp [gpX]
  | cons z zs ih =>
    rw [List.reverse_cons, gpX_snoc]
    cases h : isG l x z
    · rw [if_neg (by decide), ih]
      constructor
      · rintro (h1 | ⟨y, hy, h2⟩)
        · exact .inl h1
        · exact .inr ⟨y, List.mem_append_left _ hy, h2⟩
      · rintro (h1 | ⟨y, hy, h2, h3⟩)
        · exact .inl h1
        · rcases List.mem_append.1 hy with hy | hy
          · exact .inr ⟨y, hy, h2, h3⟩
          · rw [List.mem_singleton] at hy; subst hy; rw [h] at h2; cases h2
    · rw [if_pos rfl, addK_mem, ih]
      constructor
      · rintro ((h1 | ⟨y, hy, h2⟩) | h1)
        · exact .inl h1
        · exact .inr ⟨y, List.mem_append_left _ hy, h2⟩
        · exact .inr ⟨z, by simp, h, h1⟩
      · rintro (h1 | ⟨y, hy, h2, h3⟩)
        · exact .inl (.inl h1)
        · rcases List.mem_append.1 hy with hy | hy
          · exact .inl (.inr ⟨y, hy, h2, h3⟩)
          · rw [List.mem_singleton] at hy; subst hy; exact .inr h3
theorem gpL_mem (l : List Snd) (g : Snd) : ∀ xs : List Sw, g ∈ gpL l xs ↔ ∃ x ∈ xs, ∃ z ∈ l, isG l x z = true ∧ g = gapS z x := by
  intro xs
  rw [← List.reverse_reverse xs]
  induction xs.reverse with
  | nil => simp [gpL]
  | cons x xs ih =>
    rw [List.reverse_cons, gpL_snoc, gpX_mem, ih]
    constructor
    · rintro (⟨y, hy, h2⟩ | h1)
      · exact ⟨y, List.mem_append_left _ hy, h2⟩
      · exact ⟨x, by simp, h1⟩
    · rintro ⟨y, hy, h2⟩
      rcases List.mem_append.1 hy with hy | hy
      · exact .inl ⟨y, hy, h2⟩
      · rw [List.mem_singleton] at hy; subst hy; exact .inr h2
theorem gpX_nodup (l : List Snd) (x : Sw) : ∀ (zs ks : List Snd), ks.Nodup → (gpX l x zs ks).Nodup
  | [], ks, h => h
  | z :: zs, ks, h => by
    show (gpX l x zs (if isG l x z then addK ks (gapS z x) else ks)).Nodup
    refine gpX_nodup l x zs _ ?_
    split
    · exact addK_nodup h
    · exact h
theorem gpL_nodup (l : List Snd) (xs : List Sw) : (gpL l xs).Nodup := by
  unfold gpL
  have : ∀ (xs : List Sw) (ks : List Snd), ks.Nodup → (xs.foldl (fun ks x => gpX l x l ks) ks).Nodup := by
    intro xs
    induction xs with
    | nil => exact fun ks h => h
    | cons x xs ih => exact fun ks h => ih _ (gpX_nodup l x l ks h)
  exact this xs [] List.nodup_nil
theorem gpX_len (l : List Snd) (x : Sw) : ∀ (zs ks : List Snd), (gpX l x zs ks).length ≤ ks.length + zs.length
  | [], ks => Nat.le_refl _
  | z :: zs, ks => by
    show (gpX l x zs (if isG l x z then addK ks (gapS z x) else ks)).length ≤ _
    refine Nat.le_trans (gpX_len l x zs _) ?_
    split
    · have := addK_len ks (gapS z x); simp; omega
    · simp
theorem gpL_len (l : List Snd) (xs : List Sw) : (gpL l xs).length ≤ xs.length * l.length := by
  unfold gpL
  have : ∀ (xs : List Sw) (ks : List Snd), (xs.foldl (fun ks x => gpX l x l ks) ks).length ≤ ks.length + xs.length * l.length := by
    intro xs
    induction xs with
    | nil => intro ks; simp
    | cons x xs ih =>
      intro ks
      refine Nat.le_trans (ih _) ?_
      have := gpX_len l x l ks
      simp only [List.length_cons]
      rw [Nat.add_mul]
      omega
  have h := this xs []
  simpa using h
theorem swS_len (l : List Snd) : ∀ ps : List (Nat × Nat), (swS l ps).length ≤ ps.length * 2 := by
  intro ps
  rw [← List.reverse_reverse ps]
  induction ps.reverse with
  | nil => simp [swS]
  | cons p qs ih =>
    rw [List.reverse_cons, swS_snoc]
    refine Nat.le_trans (addK_len _ _) ?_
    have := addK_len (swS l qs.reverse) (swp (l.getD p.1 zs) (l.getD p.2 zs))
    simp only [List.length_append, List.length_cons, List.length_nil]
    omega
end Go.Proofs.YtpnmapfabjdfjaaDoor
