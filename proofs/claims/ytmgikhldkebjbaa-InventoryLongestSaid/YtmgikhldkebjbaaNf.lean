/-
  The specification's Bundle: the walk.
-/
import Derived.Test.YtmgikhldkebjbaaNe
namespace Go.Proofs.Ytmgikhldkebjbaa
open Go.RowKit Go.Shelf Go.Sort
theorem gb_below {W0 W W' : World} {b : Option Nat} (h : W0.grownBy W b) (hb : Below W.heap.size W W') : W0.grownBy W' b :=
  ⟨hb.os.trans h.os, hb.tape.trans h.tape, hb.output.trans h.output, Nat.le_trans h.size hb.size, fun k hk hne => (hb.block k (Nat.lt_of_lt_of_le hk h.size)).trans (h.block k hk hne)⟩
theorem gb_set {W0 W : World} {b o : Nat} {v : Value} (h : W0.grownBy W (some b)) : W0.grownBy (W.setCell ⟨b, o, none⟩ v) (some b) := by
  have g := set_grown W b o v
  exact ⟨g.os.trans h.os, g.tape.trans h.tape, g.output.trans h.output, Nat.le_trans h.size g.size, fun k hk hne => (g.block k (Nat.lt_of_lt_of_le hk h.size) hne).trans (h.block k hk hne)⟩
theorem block_set {W : World} {b o : Nat} {v : Value} {cs : Array Value} {T : Nat} {fz : Nat × Nat} (h : W.heap[b]? = some (.cells cs T fz)) : (W.setCell ⟨b, o, none⟩ v).heap[b]? = some (.cells (cs.setIfInBounds o v) T fz) := by
  simp only [World.setCell]
  rw [Array.getElem?_modify, if_pos rfl, h]
  simp [Array.setIfInBounds_def]
theorem gb_cell {W0 W : World} {b B o : Nat} {v : Value} (h : W0.grownBy W (some b)) (hB : B < W0.heap.size) (hne : B ≠ b) (hc : W0.cell? ⟨B, o, none⟩ = some v) : W.cell? ⟨B, o, none⟩ = some v :=
  (World.cell?_of_block (h.block B hB (by simpa using hne))).trans hc
theorem gb_row {W0 W : World} {base n b : Nat} {e : TypeId} {size : Nat} {v : Value} {xs : List Value} (h : W0.ownsRow base e size v n xs) (hg : W0.grownBy W (some b)) (hb : v.ownBlock ≠ some b) : W.ownsRow base e size v n xs := by
  obtain ⟨hl, h0 | ⟨g, cap, cur, hv, hg2, hh, hr⟩⟩ := h
  · exact ⟨hl, .inl h0⟩
  · refine ⟨hl, .inr ⟨g, cap, cur, hv, hg2, (hg.block g (Array.getElem?_eq_some_iff.1 hh).1 (fun e => hb ?_)).trans hh, hr⟩⟩
    rw [hv, ← e]; rfl
theorem row_lt {W : World} {base n : Nat} {e : TypeId} {size : Nat} {v : Value} {xs : List Value} {k b : Nat} (h : W.ownsRow base e size v n xs) (hb : W.heap.size ≤ b) : v.ownBlock ≠ some b := fun e => by have := own_lt h e; omega
theorem rbundle_nil (t : ByteArray) (w : World) : Gives 30 #[.pointer none, .string t] w (.tuple #[.agg #[.int .u32 0, .int .u32 0], .int .i64 1]) := by
  unfold Gives
  go_enter Try.func30, Try.ntmps30
  go_wp2_with fail
  go_at_call 45
  refine Gives.then (rmade_nil _) ?_
  intro w1 hb
  have hb0 := (Below.refl w.heap.size w).alloc (Nat.le_refl _) (.cells #[.int .u32 0, .int .u32 0] 39)
  have hw := hb0.trans (hb.mono hb0.size)
  have r0 := (hb.cell (p := ⟨w.heap.size, 0, none⟩) (by simp)).trans (cell_block (World.alloc_heap_new w _) rfl)
  have r1 := (hb.cell (p := ⟨w.heap.size, 1, none⟩) (by simp)).trans (cell_block (World.alloc_heap_new w _) rfl)
  have f0 := (hb.frozen (p := ⟨w.heap.size, 0, none⟩) (by simp)).trans (frozen_block (World.alloc_heap_new w _))
  have f1 := (hb.frozen (p := ⟨w.heap.size, 1, none⟩) (by simp)).trans (frozen_block (World.alloc_heap_new w _))
  clear hb hb0
  go_wp2_with fail
  refine bodyPost_ret (v := .tuple #[.agg #[.int .u32 0, .int .u32 0], .int .i64 1]) ?_ rfl ⟨rfl, by go_grown⟩
  have e0 : ((w1.setCell ⟨w.heap.size, 0, none⟩ (.int .u32 0)).setCell ⟨w.heap.size, 1, none⟩ (.int .u32 0)).cell? ⟨w.heap.size, 0, none⟩ = some (.int .u32 0) := by go_cell
  have e1 : ((w1.setCell ⟨w.heap.size, 0, none⟩ (.int .u32 0)).setCell ⟨w.heap.size, 1, none⟩ (.int .u32 0)).cell? ⟨w.heap.size, 1, none⟩ = some (.int .u32 0) := by go_cell
  simp [results, Try.results30, go_sem, e0, e1]
theorem itemsF_le : ∀ (n : Nat) (r : ByteArray) (m : Bool), ∀ x ∈ itemsF n r m, x.size ≤ r.size
  | 0, _, _, x, h => by cases h
  | n + 1, r, false, x, h => by cases h
  | n + 1, r, true, x, h => by
    have h : x ∈ cutA r :: itemsF n (cutB r) (cutC r) := h
    rcases List.mem_cons.1 h with rfl | h
    · exact cutA_le r
    · exact Nat.le_trans (itemsF_le n _ _ x h) (cutB_le r)
theorem feat_none {l : List ByteArray} {k : ByteArray} (h : featO l k = none) : featN l k = .int .i64 0 ∧ featB l k = false := by
  rcases feat_is l k with ⟨j, _, _, _, _, e⟩ | ⟨_, e1, e2, _⟩
  · rw [h] at e; cases e
  · exact ⟨e1, e2⟩
theorem feat_some {l : List ByteArray} {k : ByteArray} {j : Nat} (h : featO l k = some j) : featN l k = .int .i64 (j : Int) ∧ featB l k = true := by
  rcases feat_is l k with ⟨i, _, _, e1, e2, e⟩ | ⟨_, _, _, e⟩
  · rw [h] at e; cases e; exact ⟨e1, e2⟩
  · rw [h] at e; cases e
/-- Where the loop over the items is. -/
def BuR (l : List ByteArray) (L : List ByteArray) (W0 : World) (b6 : Nat) (i : Value) (wr : World) : Prop :=
  ∃ (k : Nat) (r : Snd), k ≤ L.length ∧ i = .int .i64 (k : Int) ∧ bunL l (0#32, 0#32) (L.take k) = some r ∧ vld r.1 r.2 = true ∧ wr.heap[b6]? = some (.cells #[.int .u32 (r.1.toNat : Int), .int .u32 (r.2.toNat : Int)] 39 (0, 0)) ∧ W0.grownBy wr (some b6)
theorem bunL_at {l L : List ByteArray} {k : Nat} {r : Snd} (hk : k < L.length) (h : bunL l (0#32, 0#32) (L.take k) = some r) : bunL l (0#32, 0#32) (L.take (k + 1)) = stepB l r L[k] := by
  rw [List.take_succ_eq_append_getElem hk]
  exact bunL_snoc _ _ _ h
theorem bunL_fail {l L : List ByteArray} {k : Nat} {r : Snd} (hk : k < L.length) (h : bunL l (0#32, 0#32) (L.take k) = some r) (hs : stepB l r L[k] = none) : bunL l (0#32, 0#32) L = none := by
  have h1 := bunL_at hk h
  rw [hs] at h1
  have := bunL_stop (L.take (k + 1)) (L.drop (k + 1)) _ h1
  rwa [List.take_append_drop] at this
set_option maxRecDepth 100000 in
set_option maxHeartbeats 8000000 in
theorem rbundle_any {w : World} {base R : Nat} {l : List ByteArray} {a : List (ByteArray × Snd)} {nv av : Value} (h : RInv w base R l a nv av) (hd : ¬ Dup l l.length) (hl : l.length ≤ 24) (t : ByteArray) (ht : t.size ≤ 1000000000) : Gives 30 #[.pointer (some ⟨R, 0, none⟩), .string t] w (bunV (bunS l t)) := by
  unfold Gives
  have hmd := fun (W : World) (hb : Below w.heap.size w W) => rmade_yes R W (h.below hb).cells.1
  have hR := h.lt
  have HI := Lib.hid h; have HMD := Lib.hid hmd; have HD := Lib.hid hd
  obtain ⟨V, hV⟩ : ∃ V, bunV (bunS l t) = V := ⟨_, rfl⟩
  rw [hV]
  have HV := Lib.hid hV
  clear h hmd hd hV
  have hb0 := (Below.refl w.heap.size w).alloc (Nat.le_refl _) (.cells #[.int .u32 0, .int .u32 0] 39)
  by_cases h0 : t.size = 0
  · have e0 : t.toList.isEmpty = true := by rw [empty_toList]; exact decide_eq_true h0
    have hVV : V = .tuple #[.agg #[.int .u32 0, .int .u32 0], .int .i64 0] := by
      rw [← HV.out]
      have : bunS l t = some (0#32, 0#32) := by unfold bunS itemsS; rw [e0]; rfl
      rw [this]; rfl
    have HVV := Lib.hid hVV
    clear hVV
    go_enter Try.func30, Try.ntmps30
    go_wp2_with fail
    go_at_call 45
    refine Gives.then (HMD.out _ hb0) ?_
    intro w1 hb
    have hw := hb0.trans (hb.mono hb0.size)
    have r0 := (hb.cell (p := ⟨w.heap.size, 0, none⟩) (by simp)).trans (cell_block (World.alloc_heap_new w _) rfl)
    have r1 := (hb.cell (p := ⟨w.heap.size, 1, none⟩) (by simp)).trans (cell_block (World.alloc_heap_new w _) rfl)
    have f0 := (hb.frozen (p := ⟨w.heap.size, 0, none⟩) (by simp)).trans (frozen_block (World.alloc_heap_new w _))
    have f1 := (hb.frozen (p := ⟨w.heap.size, 1, none⟩) (by simp)).trans (frozen_block (World.alloc_heap_new w _))
    have lw : w.heap.size < w1.heap.size := by have := hb.size; rw [World.size_alloc] at this; omega
    clear hb hb0
    go_wp2_with fail
    refine bodyPost_ret (v := V) ?_ rfl ⟨rfl, by go_grown⟩
    have e0 : (((w1.setCell ⟨w.heap.size, 0, none⟩ (.int .u32 0)).setCell ⟨w.heap.size, 1, none⟩ (.int .u32 0)).alloc (.cells #[.int .u32 0, .int .u32 0] 39)).cell? ⟨w.heap.size, 0, none⟩ = some (.int .u32 0) := by go_cell
    have e1 : (((w1.setCell ⟨w.heap.size, 0, none⟩ (.int .u32 0)).setCell ⟨w.heap.size, 1, none⟩ (.int .u32 0)).alloc (.cells #[.int .u32 0, .int .u32 0] 39)).cell? ⟨w.heap.size, 1, none⟩ = some (.int .u32 0) := by go_cell
    rw [HVV.out]
    simp [results, Try.results30, go_sem, e0, e1]
  · have e0 : t.toList.isEmpty = false := by rw [empty_toList]; exact decide_eq_false h0
    have hVV : V = bunV (bunL l (0#32, 0#32) (todo t true)) := by
      rw [← HV.out]
      unfold bunS itemsS; rw [e0]; rfl
    have hit := ritems_any t ht
    have hsz : ∀ x ∈ todo t true, x.size ≤ 1000000000 := fun x hx => Nat.le_trans (itemsF_le _ _ _ x hx) ht
    have HSZ := Lib.hid hsz
    clear hsz
    generalize todo t true = L at *
    have HVV := Lib.hid hVV; have HIT := Lib.hid hit
    clear hVV hit HV
    go_enter Try.func30, Try.ntmps30
    go_wp2_with fail
    go_at_call 45
    refine Gives.then (HMD.out _ hb0) ?_
    intro w1 hb
    have hw := hb0.trans (hb.mono hb0.size)
    have r0 := (hb.cell (p := ⟨w.heap.size, 0, none⟩) (by simp)).trans (cell_block (World.alloc_heap_new w _) rfl)
    have r1 := (hb.cell (p := ⟨w.heap.size, 1, none⟩) (by simp)).trans (cell_block (World.alloc_heap_new w _) rfl)
    have f0 := (hb.frozen (p := ⟨w.heap.size, 0, none⟩) (by simp)).trans (frozen_block (World.alloc_heap_new w _))
    have f1 := (hb.frozen (p := ⟨w.heap.size, 1, none⟩) (by simp)).trans (frozen_block (World.alloc_heap_new w _))
    have lw : w.heap.size < w1.heap.size := by have := hb.size; rw [World.size_alloc] at this; omega
    clear hb hb0 HMD
    go_wp2_with fail
    go_at_call 58
    have hwA : Below w.heap.size w (w1.alloc (.cells #[.int .u32 0, .int .u32 0] 39)) := hw.alloc hw.size _
    refine (HIT.out _).mono ?_
    rintro e w2 ⟨vL, rfl, hoL, hb2⟩
    obtain ⟨aL, cL, hvL, hcL, hmL, hLc⟩ := hoL.ss.open
    subst hvL
    unfold maxLen at hmL
    have hL1 : L.length ≤ 9223372036854775807 := by omega
    have hw2 := hwA.trans (hb2.mono hwA.size)
    have lw2 : w1.heap.size < w2.heap.size := by have := hb2.size; rw [World.size_alloc] at this; omega
    have bk : w2.heap[w1.heap.size]? = some (.cells #[.int .u32 0, .int .u32 0] 39 (0, 0)) := (hb2.block w1.heap.size (by rw [World.size_alloc]; omega)).trans (World.alloc_heap_new w1 _)
    have r0 := (hb2.cell (p := ⟨w.heap.size, 0, none⟩) (by simp only [World.size_alloc]; omega)).trans (cell_past lw r0)
    have r1 := (hb2.cell (p := ⟨w.heap.size, 1, none⟩) (by simp only [World.size_alloc]; omega)).trans (cell_past lw r1)
    have f0 := (hb2.frozen (p := ⟨w.heap.size, 0, none⟩) (by simp only [World.size_alloc]; omega)).trans ((((Below.refl w1.heap.size w1).alloc (Nat.le_refl _) (.cells #[.int .u32 0, .int .u32 0] 39)).frozen (p := ⟨w.heap.size, 0, none⟩) lw).trans f0)
    have f1 := (hb2.frozen (p := ⟨w.heap.size, 1, none⟩) (by simp only [World.size_alloc]; omega)).trans ((((Below.refl w1.heap.size w1).alloc (Nat.le_refl _) (.cells #[.int .u32 0, .int .u32 0] 39)).frozen (p := ⟨w.heap.size, 1, none⟩) lw).trans f1)
    have hI2 := HI.out.below hw2
    have hn2 : nv.ownBlock ≠ some w1.heap.size := fun e => by have := own_lt HI.out.names e; have := hw.size; omega
    have ha2 : av.ownBlock ≠ some w1.heap.size := fun e => by have := own_lt HI.out.added e; have := hw.size; omega
    have hR6 : R ≠ w1.heap.size := by have := hw.size; omega
    have hL6 : ∀ i (h : i < L.length), ∃ b off, aL = some ⟨b, off, none⟩ ∧ b < w2.heap.size ∧ b ≠ w1.heap.size ∧ w2.cell? ⟨b, off + i, none⟩ = some (.string L[i]) := fun i hi => by
      obtain ⟨b, off, e, lb, d⟩ := hLc i hi
      refine ⟨b, off, e, lb, ?_, d⟩
      obtain ⟨_, ⟨hv, _⟩ | ⟨g, cap, cur, hv, hg, _⟩⟩ := hoL
      · rw [e] at hv; cases hv
      · rw [e] at hv
        simp only [Value.slice.injEq, Option.some.injEq, Addr.mk.injEq] at hv
        rw [World.size_alloc] at hg
        omega
    have lr : w.heap.size < w2.heap.size := by omega
    have HI2 := Lib.hid hI2; have HN2 := Lib.hid hn2; have HA2 := Lib.hid ha2; have HL6 := Lib.hid hL6; have HW2 := Lib.hid hw2
    have lb6 : w.heap.size ≤ w1.heap.size := by omega
    have hne6 : w.heap.size ≠ w1.heap.size := by omega
    clear hb2 hoL hLc hwA hw hI2 hn2 ha2 hL6 hcL hmL hw2 HIT
    generalize w1.heap.size = b6 at *
    go_wp2_with fail
    go_loopw [8] (fun i wr => BuR l L w2 b6 i wr) (fun i _ => L.length - (intOf i).toNat)
    case atStart => exact ⟨0, (0#32, 0#32), Nat.zero_le _, rfl, rfl, by decide, bk, ⟨rfl, rfl, rfl, Nat.le_refl _, fun _ _ _ => rfl⟩⟩
    case round =>
      obtain ⟨k, r, hk, rfl, hbl, hvr, bkr, hg⟩ := hrel
      obtain ⟨p, m⟩ := r
      simp only at bkr hvr
      have q0 := gb_cell hg lr hne6 r0
      have q1 := gb_cell hg lr hne6 r1
      have x0 := (World.frozen?_of_block (hg.block w.heap.size lr (by simpa using hne6))).trans f0
      have x1 := (World.frozen?_of_block (hg.block w.heap.size lr (by simpa using hne6))).trans f1
      have hIr : RInv wr base R l a nv av := ⟨(hg.block R (HI2.out.lt) (by simpa using hR6)).trans HI2.out.blk, gb_row HI2.out.names hg HN2.out, gb_row HI2.out.added hg HA2.out, HI2.out.hR⟩
      have hwr : Below w.heap.size w wr := HW2.out.grown hg (by omega) (fun k e => by cases e; exact lb6)
      have HBL := Lib.hid hbl; have HIR := Lib.hid hIr; have HVR := Lib.hid hvr; have HG := Lib.hid hg; have HWR := Lib.hid hwr
      have lb6r : b6 < wr.heap.size := Nat.lt_of_lt_of_le lw2 hg.size
      have lrr : w.heap.size < wr.heap.size := Nat.lt_of_lt_of_le lr hg.size
      clear hbl hIr hvr hg r0 r1 f0 f1 bk hwr
      by_cases hlt : k < L.length
      · obtain ⟨b, off, hao, lb, hb6, d0⟩ := HL6.out k hlt
        have d0 := gb_cell HG.out lb hb6 d0
        have lbr : b < wr.heap.size := Nat.lt_of_lt_of_le lb HG.out.size
        subst hao
        have hfail := fun h => bunL_fail hlt HBL.out h
        have hmore := bunL_at hlt HBL.out
        have hst := stepB_is l hl (p, m) HVR.out L[k]
        have hxl := HSZ.out L[k] (List.getElem_mem hlt)
        have HFAIL := Lib.hid hfail; have HMORE := Lib.hid hmore
        clear hfail hmore HL6
        generalize L[k] = x at *
        clear hR
        rcases hst with ⟨hx0, hs⟩ | ⟨hx0, c, hc, hst⟩
        · have g1 : decide ((x.size : Int) < 1) = true := decide_eq_true (by omega)
          have g2 : decide (x.size < 1) = true := decide_eq_true (by omega)
          clear HMORE
          have hV0 : V = .tuple #[.agg #[.int .u32 0, .int .u32 0], .int .i64 10] := by rw [HVV.out, HFAIL.out hs]; rfl
          have HV0 := Lib.hid hV0
          have hwf := HWR.out
          clear hV0
          go_wp2_with fail
          have z0 : ((wr.setCell ⟨w.heap.size, 0, none⟩ (.int .u32 0)).setCell ⟨w.heap.size, 1, none⟩ (.int .u32 0)).cell? ⟨w.heap.size, 0, none⟩ = some (.int .u32 0) := by go_cell
          have z1 : ((wr.setCell ⟨w.heap.size, 0, none⟩ (.int .u32 0)).setCell ⟨w.heap.size, 1, none⟩ (.int .u32 0)).cell? ⟨w.heap.size, 1, none⟩ = some (.int .u32 0) := by go_cell
          refine bodyPost_ret (v := V) ?_ rfl ⟨rfl, (hwf.setCell (p := ⟨w.heap.size, 0, none⟩) (Nat.le_refl _) _).setCell (p := ⟨w.heap.size, 1, none⟩) (Nat.le_refl _) _⟩
          rw [HV0.out]
          simp [results, Try.results30, go_sem, z0, z1]
        · have g1 : decide ((x.size : Int) < 1) = false := decide_eq_false (by omega)
          have g2 : decide (x.size < 1) = false := decide_eq_false (by omega)
          have hxl0 : 0 < x.data.toList.length := by rw [len_list]; exact hx0
          have hcx : x.data.toList[0] = c := by rw [← hc, List.getD_eq_getElem?_getD, List.getElem?_eq_getElem hxl0]; rfl
          have hb : ∀ h, x[0]'h = c := by intro h; exact hcx
          have hx1 : 1 ≤ x.size := hx0
          clear hc hcx hxl0
          obtain ⟨y, hy⟩ : ∃ y, x.extract 1 x.size = y := ⟨_, rfl⟩
          have hfeat := rfeat_any HIR.out HD.out hl (x.extract 1 x.size)
          rcases hst with ⟨h43, h45, hs⟩ | ⟨hc, hst⟩
          · have n1 : ((c.toNat : Int) == 43) = false := by
              rw [Bool.eq_false_iff]; intro e
              have := beq_iff_eq.1 e
              exact h43 (UInt8.toNat_inj.1 (by have e2 : (43 : UInt8).toNat = 43 := rfl; omega))
            have n2 : ((c.toNat : Int) == 45) = false := by
              rw [Bool.eq_false_iff]; intro e
              have := beq_iff_eq.1 e
              exact h45 (UInt8.toNat_inj.1 (by have e2 : (45 : UInt8).toNat = 45 := rfl; omega))
            have n3 : ((c.toNat : Int) != 43) = true := by unfold bne; rw [n1]; rfl
            have n4 : ((c.toNat : Int) != 45) = true := by unfold bne; rw [n2]; rfl
            clear HMORE hfeat h43 h45
            have hV0 : V = .tuple #[.agg #[.int .u32 0, .int .u32 0], .int .i64 10] := by rw [HVV.out, HFAIL.out hs]; rfl
            have HV0 := Lib.hid hV0
            have hwf := HWR.out
            clear hV0
            go_wp2_with fail
            have z0 : ((wr.setCell ⟨w.heap.size, 0, none⟩ (.int .u32 0)).setCell ⟨w.heap.size, 1, none⟩ (.int .u32 0)).cell? ⟨w.heap.size, 0, none⟩ = some (.int .u32 0) := by go_cell
            have z1 : ((wr.setCell ⟨w.heap.size, 0, none⟩ (.int .u32 0)).setCell ⟨w.heap.size, 1, none⟩ (.int .u32 0)).cell? ⟨w.heap.size, 1, none⟩ = some (.int .u32 0) := by go_cell
            refine bodyPost_ret (v := V) ?_ rfl ⟨rfl, (hwf.setCell (p := ⟨w.heap.size, 0, none⟩) (Nat.le_refl _) _).setCell (p := ⟨w.heap.size, 1, none⟩) (Nat.le_refl _) _⟩
            rw [HV0.out]
            simp [results, Try.results30, go_sem, z0, z1]
          · rcases hst with ⟨hf, hs⟩ | ⟨j, hj, hf, hst⟩
            · obtain ⟨e1, e2⟩ := feat_none hf
              rw [e1, e2] at hfeat
              have HFE := Lib.hid hfeat; have HS := Lib.hid hs
              clear hfeat e1 e2 hf hs HMORE hy
              rcases hc with rfl | rfl
              all_goals (
                go_wp2_with fail
                go_at_call 19
                refine Gives.then HFE.out ?_
                intro w3 hb3
                have q0 := (hb3.cell (p := ⟨w.heap.size, 0, none⟩) lrr).trans q0
                have q1 := (hb3.cell (p := ⟨w.heap.size, 1, none⟩) lrr).trans q1
                have x0 := (hb3.frozen (p := ⟨w.heap.size, 0, none⟩) lrr).trans x0
                have x1 := (hb3.frozen (p := ⟨w.heap.size, 1, none⟩) lrr).trans x1
                have bkr := (hb3.block b6 lb6r).trans bkr
                have d0 := (hb3.cell (p := ⟨b, off + k, none⟩) lbr).trans d0
                have lrr := Nat.lt_of_lt_of_le lrr hb3.size
                have lb6r := Nat.lt_of_lt_of_le lb6r hb3.size
                have lbr := Nat.lt_of_lt_of_le lbr hb3.size
                have HG := Lib.hid (gb_below HG.out hb3)
                have HWR := Lib.hid (HWR.out.trans (hb3.mono HWR.out.size))
                clear hb3
                clear HFE
                have hV0 : V = .tuple #[.agg #[.int .u32 0, .int .u32 0], .int .i64 10] := by rw [HVV.out, HFAIL.out HS.out]; rfl
                have HV0 := Lib.hid hV0
                have hwf := HWR.out
                clear hV0
                go_wp2_with fail
                have z0 : ((w3.setCell ⟨w.heap.size, 0, none⟩ (.int .u32 0)).setCell ⟨w.heap.size, 1, none⟩ (.int .u32 0)).cell? ⟨w.heap.size, 0, none⟩ = some (.int .u32 0) := by go_cell
                have z1 : ((w3.setCell ⟨w.heap.size, 0, none⟩ (.int .u32 0)).setCell ⟨w.heap.size, 1, none⟩ (.int .u32 0)).cell? ⟨w.heap.size, 1, none⟩ = some (.int .u32 0) := by go_cell
                refine bodyPost_ret (v := V) ?_ rfl ⟨rfl, (hwf.setCell (p := ⟨w.heap.size, 0, none⟩) (Nat.le_refl _) _).setCell (p := ⟨w.heap.size, 1, none⟩) (Nat.le_refl _) _⟩
                rw [HV0.out]
                simp [results, Try.results30, go_sem, z0, z1])
            · obtain ⟨e1, e2⟩ := feat_some hf
              rw [e1, e2] at hfeat
              have hget := fun W => rget_ok p m j HVR.out hj W
              rcases hst with ⟨hg0, hs⟩ | ⟨hg0, v, hv, hs, hv2⟩
              · have hz1 : (getV p m j == 0) = false := by rw [Bool.eq_false_iff]; intro e; exact hg0 (beq_iff_eq.1 e)
                have HFE := Lib.hid hfeat; have HS := Lib.hid hs; have HGT := Lib.hid hget
                clear hfeat e1 e2 hf hs HMORE hy hget hg0
                generalize getV p m j = gg at *
                have hz2 : (gg != 0) = true := by unfold bne; rw [hz1]; rfl
                rcases hc with rfl | rfl
                all_goals (
                  go_wp2_with fail
                  go_at_call 19
                  refine Gives.then HFE.out ?_
                  intro w3 hb3
                  have q0 := (hb3.cell (p := ⟨w.heap.size, 0, none⟩) lrr).trans q0
                  have q1 := (hb3.cell (p := ⟨w.heap.size, 1, none⟩) lrr).trans q1
                  have x0 := (hb3.frozen (p := ⟨w.heap.size, 0, none⟩) lrr).trans x0
                  have x1 := (hb3.frozen (p := ⟨w.heap.size, 1, none⟩) lrr).trans x1
                  have bkr := (hb3.block b6 lb6r).trans bkr
                  have d0 := (hb3.cell (p := ⟨b, off + k, none⟩) lbr).trans d0
                  have lrr := Nat.lt_of_lt_of_le lrr hb3.size
                  have lb6r := Nat.lt_of_lt_of_le lb6r hb3.size
                  have lbr := Nat.lt_of_lt_of_le lbr hb3.size
                  have HG := Lib.hid (gb_below HG.out hb3)
                  have HWR := Lib.hid (HWR.out.trans (hb3.mono HWR.out.size))
                  clear hb3
                  have y0 : w3.cell? ⟨b6, 0, none⟩ = some (.int .u32 (p.toNat : Int)) := cell_block bkr rfl
                  have y1 : w3.cell? ⟨b6, 1, none⟩ = some (.int .u32 (m.toNat : Int)) := cell_block bkr rfl
                  clear HFE
                  go_wp2_with fail
                  go_at_call 59
                  refine Gives.then (HGT.out _) ?_
                  intro w4 hb4
                  have q0 := (hb4.cell (p := ⟨w.heap.size, 0, none⟩) lrr).trans q0
                  have q1 := (hb4.cell (p := ⟨w.heap.size, 1, none⟩) lrr).trans q1
                  have x0 := (hb4.frozen (p := ⟨w.heap.size, 0, none⟩) lrr).trans x0
                  have x1 := (hb4.frozen (p := ⟨w.heap.size, 1, none⟩) lrr).trans x1
                  have bkr := (hb4.block b6 lb6r).trans bkr
                  have d0 := (hb4.cell (p := ⟨b, off + k, none⟩) lbr).trans d0
                  have lrr := Nat.lt_of_lt_of_le lrr hb4.size
                  have lb6r := Nat.lt_of_lt_of_le lb6r hb4.size
                  have lbr := Nat.lt_of_lt_of_le lbr hb4.size
                  have HG := Lib.hid (gb_below HG.out hb4)
                  have HWR := Lib.hid (HWR.out.trans (hb4.mono HWR.out.size))
                  clear hb4
                  clear HGT y0 y1
                  have hV0 : V = .tuple #[.agg #[.int .u32 0, .int .u32 0], .int .i64 10] := by rw [HVV.out, HFAIL.out HS.out]; rfl
                  have HV0 := Lib.hid hV0
                  have hwf := HWR.out
                  clear hV0
                  go_wp2_with fail
                  have z0 : ((w4.setCell ⟨w.heap.size, 0, none⟩ (.int .u32 0)).setCell ⟨w.heap.size, 1, none⟩ (.int .u32 0)).cell? ⟨w.heap.size, 0, none⟩ = some (.int .u32 0) := by go_cell
                  have z1 : ((w4.setCell ⟨w.heap.size, 0, none⟩ (.int .u32 0)).setCell ⟨w.heap.size, 1, none⟩ (.int .u32 0)).cell? ⟨w.heap.size, 1, none⟩ = some (.int .u32 0) := by go_cell
                  refine bodyPost_ret (v := V) ?_ rfl ⟨rfl, (hwf.setCell (p := ⟨w.heap.size, 0, none⟩) (Nat.le_refl _) _).setCell (p := ⟨w.heap.size, 1, none⟩) (Nat.le_refl _) _⟩
                  rw [HV0.out]
                  simp [results, Try.results30, go_sem, z0, z1])
              · have hv3 : v = 1 ∨ v = 0 ∨ v = -1 := by
                  rw [hv]; split
                  · exact .inl rfl
                  · exact .inr (.inr rfl)
                have hwith := fun (W : World) => rwith_any p m (j : Int) v W
                rw [if_pos HVR.out, if_pos (by omega : (0 : Int) ≤ (j : Int) ∧ (j : Int) < 24), Int.toNat_natCast] at hwith
                unfold withV at hwith
                rw [if_pos hv3] at hwith
                simp only at hg0 hs hv2
                rw [hg0] at hget
                rw [hs] at HMORE
                generalize withP p j v = P at *
                generalize withM m j v = M at *
                have HFE := Lib.hid hfeat; have HGT := Lib.hid hget; have HWI := Lib.hid hwith; have HV2 := Lib.hid hv2
                clear hfeat e1 e2 hf hs hy hget hg0 hwith hv2 HFAIL HVV q0 q1 x0 x1 hv3
                rcases hc with rfl | rfl
                all_goals (
                  first
                    | (rw [if_pos rfl] at hv; subst hv)
                    | (rw [if_neg (by decide)] at hv; subst hv)
                  go_wp2_with fail
                  go_at_call 19
                  refine Gives.then HFE.out ?_
                  intro w3 hb3
                  have bkr := (hb3.block b6 lb6r).trans bkr
                  have d0 := (hb3.cell (p := ⟨b, off + k, none⟩) lbr).trans d0
                  have lb6r := Nat.lt_of_lt_of_le lb6r hb3.size
                  have lbr := Nat.lt_of_lt_of_le lbr hb3.size
                  have HG := Lib.hid (gb_below HG.out hb3)
                  have HWR3 := Lib.hid (HWR.out.trans (hb3.mono HWR.out.size))
                  clear hb3
                  have y0 : w3.cell? ⟨b6, 0, none⟩ = some (.int .u32 (p.toNat : Int)) := cell_block bkr rfl
                  have y1 : w3.cell? ⟨b6, 1, none⟩ = some (.int .u32 (m.toNat : Int)) := cell_block bkr rfl
                  clear HFE
                  go_wp2_with fail
                  go_at_call 59
                  refine Gives.then (HGT.out _) ?_
                  intro w4 hb4
                  have bkr := (hb4.block b6 lb6r).trans bkr
                  have d0 := (hb4.cell (p := ⟨b, off + k, none⟩) lbr).trans d0
                  have lb6r := Nat.lt_of_lt_of_le lb6r hb4.size
                  have lbr := Nat.lt_of_lt_of_le lbr hb4.size
                  have HG := Lib.hid (gb_below HG.out hb4)
                  clear hb4
                  have y0 : w4.cell? ⟨b6, 0, none⟩ = some (.int .u32 (p.toNat : Int)) := cell_block bkr rfl
                  have y1 : w4.cell? ⟨b6, 1, none⟩ = some (.int .u32 (m.toNat : Int)) := cell_block bkr rfl
                  clear HGT
                  go_wp2_with fail
                  go_at_call 60
                  refine Gives.then (HWI.out _) ?_
                  intro w5 hb5
                  have bkr := (hb5.block b6 lb6r).trans bkr
                  have d0 := (hb5.cell (p := ⟨b, off + k, none⟩) lbr).trans d0
                  have lb6r := Nat.lt_of_lt_of_le lb6r hb5.size
                  have lbr := Nat.lt_of_lt_of_le lbr hb5.size
                  have HG := Lib.hid (gb_below HG.out hb5)
                  clear hb5
                  have y0 : w5.cell? ⟨b6, 0, none⟩ = some (.int .u32 (p.toNat : Int)) := cell_block bkr rfl
                  have y1 : w5.cell? ⟨b6, 1, none⟩ = some (.int .u32 (m.toNat : Int)) := cell_block bkr rfl
                  have u0 : w5.frozen? ⟨b6, 0, none⟩ = false := frozen_block bkr
                  have u1 : w5.frozen? ⟨b6, 1, none⟩ = false := frozen_block bkr
                  have HBK := Lib.hid (block_set (o := 1) (v := .int .u32 (M.toNat : Int)) (block_set (o := 0) (v := .int .u32 (P.toNat : Int)) bkr))
                  clear HWI bkr
                  go_wp2_with fail
                  go_roundw
                  case rel => exact ⟨k + 1, (P, M), by omega, by go_num, HMORE.out, HV2.out, HBK.out, gb_set (gb_set HG.out)⟩
                  case measure => simp [intOf]; omega)
      · obtain rfl : k = L.length := by omega
        rw [List.take_length] at HBL
        have hV0 : V = .tuple #[.agg #[.int .u32 (p.toNat : Int), .int .u32 (m.toNat : Int)], .int .i64 0] := by rw [HVV.out, HBL.out]; rfl
        have HV0 := Lib.hid hV0
        have y0 : wr.cell? ⟨b6, 0, none⟩ = some (.int .u32 (p.toNat : Int)) := cell_block bkr rfl
        have y1 : wr.cell? ⟨b6, 1, none⟩ = some (.int .u32 (m.toNat : Int)) := cell_block bkr rfl
        clear hV0
        go_wp2_with fail
        have z0 : ((wr.setCell ⟨w.heap.size, 0, none⟩ (.int .u32 (p.toNat : Int))).setCell ⟨w.heap.size, 1, none⟩ (.int .u32 (m.toNat : Int))).cell? ⟨w.heap.size, 0, none⟩ = some (.int .u32 (p.toNat : Int)) := by go_cell
        have z1 : ((wr.setCell ⟨w.heap.size, 0, none⟩ (.int .u32 (p.toNat : Int))).setCell ⟨w.heap.size, 1, none⟩ (.int .u32 (m.toNat : Int))).cell? ⟨w.heap.size, 1, none⟩ = some (.int .u32 (m.toNat : Int)) := by go_cell
        refine bodyPost_ret (v := V) ?_ rfl ⟨rfl, (HWR.out.setCell (p := ⟨w.heap.size, 0, none⟩) (Nat.le_refl _) _).setCell (p := ⟨w.heap.size, 1, none⟩) (Nat.le_refl _) _⟩
        rw [HV0.out]
        simp [results, Try.results30, go_sem, z0, z1]
end Go.Proofs.Ytmgikhldkebjbaa
