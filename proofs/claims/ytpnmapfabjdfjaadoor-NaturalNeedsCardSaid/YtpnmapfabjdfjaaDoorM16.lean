/-
  Lemmas that the theorem of this claim rests on: 1 texts, one behind the other.
-/
import Derived.Test.YtpnmapfabjdfjaaDoorM14
set_option linter.unusedSimpArgs false
set_option linter.unusedVariables false

/-
  The search of natural.shortest.
-/
namespace Go.Proofs.YtpnmapfabjdfjaaDoor
open Go.RowKit Go.Sort
/-- A crowd stands in a block at a place. -/
def CrAt (W : World) (g t : Nat) (c : Cr) : Prop := W.cell? ⟨g, t * 4, none⟩ = some (.int .u64 (c.1.toNat : Int)) ∧ W.cell? ⟨g, t * 4 + 1, none⟩ = some (.int .u64 (c.2.1.toNat : Int)) ∧ W.cell? ⟨g, t * 4 + 2, none⟩ = some (.int .u64 (c.2.2.1.toNat : Int)) ∧ W.cell? ⟨g, t * 4 + 3, none⟩ = some (.int .u64 (c.2.2.2.toNat : Int))
/-- What the search reads. -/
structure Env (o vs : List Snd) (Vb Bb Sb Tb gv off cv gb gt : Nat) (W : World) : Prop where
  v : W.cell? ⟨Vb, 0, none⟩ = some (.slice (some ⟨gv, off, none⟩) vs.length cv)
  b : W.cell? ⟨Bb, 0, none⟩ = some (.slice (some ⟨gb, 0, none⟩) (vs.length + 1) (vs.length + 1))
  t : W.cell? ⟨Tb, 0, none⟩ = some (.slice (some ⟨gt, 0, none⟩) vs.length vs.length)
  s : W.cell? ⟨Sb, 0, none⟩ = some (.func (.func 89) #[] #[.pointer (some ⟨Vb, 0, none⟩), .pointer (some ⟨Bb, 0, none⟩), .pointer (some ⟨Sb, 0, none⟩), .pointer (some ⟨Tb, 0, none⟩)])
  vals : ∀ i (h : i < vs.length), W.cell? ⟨gv, off + i * 2, none⟩ = some (.int .u32 (vs[i].1.toNat : Int)) ∧ W.cell? ⟨gv, off + i * 2 + 1, none⟩ = some (.int .u32 (vs[i].2.toNat : Int))
  beh : ∀ i, i ≤ vs.length → CrAt W gb i (bhd o (vs.drop i))
  thr : ∀ i (h : i < vs.length), CrAt W gt i (thr o vs[i])
theorem uni_any (a b c : Snd) (ha : sub a c) (hb : sub b c) (hc : vld c.1 c.2 = true) (w : World) : Gives 91 #[.agg #[.int .u32 (a.1.toNat : Int), .int .u32 (a.2.toNat : Int)], .agg #[.int .u32 (b.1.toNat : Int), .int .u32 (b.2.toNat : Int)]] w (.tuple #[.agg #[.int .u32 ((uniS a b).1.toNat : Int), .int .u32 ((uniS a b).2.toNat : Int)], .bool true]) :=
  unify_ok a.1 a.2 b.1 b.2 (sub_vld (r := uniS a b) (uni_sub ha hb) hc) w
/-- What a step of the search gives. -/
def goS (x : Snd) (rest : Option Snd) : Option Snd → Option Snd
  | some r => some (uniS x r)
  | none => rest
theorem srL_step (o : List Snd) (v : Snd) (vs : List Snd) (m : Nat) (left : Cr) : srL o (v :: vs) m left = if meC left (bhd o (v :: vs)) = zC then goS v (srL o vs m left) (srch o vs (m - 1) (meC left (thr o v))) else none := by
  rw [srL_cons]
  cases srch o vs (m - 1) (meC left (thr o v)) <;> rfl
theorem two_cells {W : World} {b : Nat} {x y : Value} {T : TypeId} {fz : Nat × Nat} (h : W.heap[b]? = some (.cells #[x, y] T fz)) (p q : Value) : ((W.setCell ⟨b, 0, none⟩ p).setCell ⟨b, 1, none⟩ q).cell? ⟨b, 0, none⟩ = some p ∧ ((W.setCell ⟨b, 0, none⟩ p).setCell ⟨b, 1, none⟩ q).cell? ⟨b, 1, none⟩ = some q :=
  ⟨cell_block (two_set h) rfl, cell_block (two_set h) rfl⟩
theorem _root_.Go.RowKit.Below.setCell2 {B b : Nat} {a w : World} (h : Below B a w) (hB : B ≤ b) (x y : Value) : Below B a ((w.setCell ⟨b, 0, none⟩ x).setCell ⟨b, 1, none⟩ y) := (h.setCell (p := ⟨b, 0, none⟩) hB x).setCell (p := ⟨b, 1, none⟩) hB y
theorem belowN {B : Nat} {a w : World} (h : Below B a w) (n : Nat) : Below B a (w.drewN n) := ⟨h.os, h.tape, h.output, h.size, h.block⟩
/-- What the search returns. -/
def resS (r : Option Snd) : Value := .tuple #[.agg #[.int .u32 ((r.getD (0#32, 0#32)).1.toNat : Int), .int .u32 ((r.getD (0#32, 0#32)).2.toNat : Int)], .bool r.isSome]
set_option maxRecDepth 100000 in
set_option maxHeartbeats 16000000 in
theorem search_any (o vs : List Snd) (c : Snd) (hc : vld c.1 c.2 = true) (hvs : ∀ v ∈ vs, sub v c) (hlen : vs.length ≤ 24) (Vb Bb Sb Tb gv off cv gb gt B0 : Nat) (w0 : World) (hcv : vs.length ≤ cv) (hB : B0 ≤ w0.heap.size)
    (hE : ∀ W, Below B0 w0 W → Env o vs Vb Bb Sb Tb gv off cv gb gt W) (hbl : Vb < B0 ∧ Bb < B0 ∧ Sb < B0 ∧ Tb < B0 ∧ gv < B0 ∧ gb < B0 ∧ gt < B0) :
    ∀ (m fr : Nat) (left : Cr) (w : World), m ≤ 1000 → fr ≤ vs.length → Below B0 w0 w →
    Gives 89 #[.int .i64 (fr : Int), .int .i64 (m : Int), crv left, .pointer (some ⟨Vb, 0, none⟩), .pointer (some ⟨Bb, 0, none⟩), .pointer (some ⟨Sb, 0, none⟩), .pointer (some ⟨Tb, 0, none⟩)] w (resS (srch o (vs.drop fr) m left)) := by
  obtain ⟨N, hN⟩ : ∃ N, vs.length = N := ⟨_, rfl⟩
  have HE := Lib.hid hE; have HN := Lib.hid hN; have HVS := Lib.hid hvs; have HBL := Lib.hid hbl; have HB := Lib.hid hB
  rw [hN] at hcv hlen
  clear hE hN hvs hbl hB
  intro m
  induction m using Nat.strongRecOn with
  | _ m ih =>
  intro fr left w hm hfr hw
  unfold Gives
  have hem := empty_any left
  have hme := fun d W => cmeet_any left d W
  have hsr : srch o (vs.drop fr) m left = if left = zC then some (0#32, 0#32) else if m = 0 then none else srL o (vs.drop fr) m left := rfl
  have hE := HE.out
  have hz0 : ∀ i, i < vs.length → vs.drop i = vs[i]! :: vs.drop (i + 1) := fun i hi => by
    rw [getElem!_pos vs i hi]
    exact List.drop_eq_getElem_cons hi
  clear hz0
  rw [hsr]
  have HIH := Lib.hid ih; have HME := Lib.hid hme; have HW := Lib.hid hw
  clear hsr ih hme hE hw
  obtain ⟨l0, l1, l2, l3⟩ := left
  unfold crv at hem
  simp only at hem
  have HEM := Lib.hid hem
  have q0 : ((w.alloc (.cells #[.int .u64 (l0.toNat : Int), .int .u64 (l1.toNat : Int), .int .u64 (l2.toNat : Int), .int .u64 (l3.toNat : Int)] 96)).alloc (.cells #[.int .u32 0, .int .u32 0] 27)).heap[w.heap.size]? = some (.cells #[.int .u64 (l0.toNat : Int), .int .u64 (l1.toNat : Int), .int .u64 (l2.toNat : Int), .int .u64 (l3.toNat : Int)] 96) := (((Below.refl _ (w.alloc (.cells #[.int .u64 (l0.toNat : Int), .int .u64 (l1.toNat : Int), .int .u64 (l2.toNat : Int), .int .u64 (l3.toNat : Int)] 96))).alloc (Nat.le_refl _) (.cells #[.int .u32 0, .int .u32 0] 27)).block w.heap.size (by rw [World.size_alloc]; omega)).trans (World.alloc_heap_new w (.cells #[.int .u64 (l0.toNat : Int), .int .u64 (l1.toNat : Int), .int .u64 (l2.toNat : Int), .int .u64 (l3.toNat : Int)] 96))
  have q1 : ((w.alloc (.cells #[.int .u64 (l0.toNat : Int), .int .u64 (l1.toNat : Int), .int .u64 (l2.toNat : Int), .int .u64 (l3.toNat : Int)] 96)).alloc (.cells #[.int .u32 0, .int .u32 0] 27)).heap[w.heap.size + 1]? = some (.cells #[.int .u32 0, .int .u32 0] 27) := by
    have h := World.alloc_heap_new (w.alloc (.cells #[.int .u64 (l0.toNat : Int), .int .u64 (l1.toNat : Int), .int .u64 (l2.toNat : Int), .int .u64 (l3.toNat : Int)] 96)) (.cells #[.int .u32 0, .int .u32 0] 27)
    rw [World.size_alloc] at h
    exact h
  have hbb : Below w.heap.size w ((w.alloc (.cells #[.int .u64 (l0.toNat : Int), .int .u64 (l1.toNat : Int), .int .u64 (l2.toNat : Int), .int .u64 (l3.toNat : Int)] 96)).alloc (.cells #[.int .u32 0, .int .u32 0] 27)) := ((Below.refl w.heap.size w).alloc (Nat.le_refl _) (.cells #[.int .u64 (l0.toNat : Int), .int .u64 (l1.toNat : Int), .int .u64 (l2.toNat : Int), .int .u64 (l3.toNat : Int)] 96)).alloc (by rw [World.size_alloc]; omega) (.cells #[.int .u32 0, .int .u32 0] 27)
  have hzs : w.heap.size + 1 < ((w.alloc (.cells #[.int .u64 (l0.toNat : Int), .int .u64 (l1.toNat : Int), .int .u64 (l2.toNat : Int), .int .u64 (l3.toNat : Int)] 96)).alloc (.cells #[.int .u32 0, .int .u32 0] 27)).heap.size := (Array.getElem?_eq_some_iff.1 q1).1
  have Q0 := Lib.hid q0; have Q1 := Lib.hid q1; have HBB := Lib.hid hbb; have HZS := Lib.hid hzs
  clear hem q0 q1 hbb hzs
  unfold crv
  simp only
  by_cases hz : ((l0, l1, l2, l3) : Cr) = zC
  · rw [if_pos hz]
    have HEM := Lib.hid (by have := HEM.out; rw [show ((0#64, 0#64, 0#64, 0#64) : Cr) = zC from rfl, decide_eq_true hz] at this; exact this)
    clear hz HME HIH HE HVS HBL
    go_enter Tryd.func89, Tryd.ntmps89
    go_wp2_with fail
    go_at_call 90
    refine Gives.then (HEM.out _) ?_
    intro w2 hb2
    have k1 := (hb2.block _ HZS.out).trans Q1.out
    have r0 := cell_block k1 (o := 0) rfl
    have r1 := cell_block k1 (o := 1) rfl
    have f0 := frozen_block k1 (o := 0)
    have f1 := frozen_block k1 (o := 1)
    have HB2 := Lib.hid (HBB.out.trans (hb2.mono HBB.out.size))
    have J := Lib.hid (two_cells k1 (.int .u32 0) (.int .u32 0))
    clear hb2 k1 HBB HZS HEM Q0 Q1
    go_wp2_with fail
    refine bodyPost_ret (v := resS (some (0#32, 0#32))) (by simp [results, Tryd.results89, go_sem, J.out.1, J.out.2, resS]) rfl ⟨rfl, (HB2.out.setCell (p := ⟨_, _, none⟩) (by simp only []; omega) _).setCell (p := ⟨_, _, none⟩) (by simp only []; omega) _⟩
  · rw [if_neg hz]
    have HEM := Lib.hid (by have := HEM.out; rw [show ((0#64, 0#64, 0#64, 0#64) : Cr) = zC from rfl, decide_eq_false hz] at this; exact this)
    clear hz
    by_cases hm0 : m = 0
    · rw [if_pos hm0]
      subst hm0
      clear HME HIH HE HVS HBL
      go_enter Tryd.func89, Tryd.ntmps89
      go_wp2_with fail
      go_at_call 90
      refine Gives.then (HEM.out _) ?_
      intro w2 hb2
      have k1 := (hb2.block _ HZS.out).trans Q1.out
      have r0 := cell_block k1 (o := 0) rfl
      have r1 := cell_block k1 (o := 1) rfl
      have f0 := frozen_block k1 (o := 0)
      have f1 := frozen_block k1 (o := 1)
      have HB2 := Lib.hid (HBB.out.trans (hb2.mono HBB.out.size))
      have J := Lib.hid (two_cells k1 (.int .u32 0) (.int .u32 0))
      clear hb2 k1 HBB HZS HEM Q0 Q1
      go_wp2_with fail
      refine bodyPost_ret (v := resS none) (by simp [results, Tryd.results89, go_sem, J.out.1, J.out.2, resS]) rfl ⟨rfl, (HB2.out.setCell (p := ⟨_, _, none⟩) (by simp only []; omega) _).setCell (p := ⟨_, _, none⟩) (by simp only []; omega) _⟩
    · rw [if_neg hm0]
      have hm1 : ((m : Int) == 0) = false := by simp; omega
      have HM0 := Lib.hid hm0
      clear hm0
      go_enter Tryd.func89, Tryd.ntmps89
      go_wp2_with fail
      go_at_call 90
      refine Gives.then (HEM.out _) ?_
      intro w2 hb2
      have k1 := (hb2.block _ HZS.out).trans Q1.out
      have k0 := (hb2.block _ (Nat.lt_of_succ_lt HZS.out)).trans Q0.out
      have K0 := Lib.hid k0; have K1 := Lib.hid k1; have HB2 := Lib.hid (HBB.out.trans (hb2.mono HBB.out.size))
      clear hb2 k1 k0 HBB HZS HEM Q0 Q1
      go_wp2_with fail
      go_loopw [12] (fun i wr => ∃ k : Nat, fr ≤ k ∧ k ≤ N ∧ i = .int .i64 (k : Int) ∧ srL o (vs.drop fr) m (l0, l1, l2, l3) = srL o (vs.drop k) m (l0, l1, l2, l3) ∧ wr.heap[w.heap.size]? = some (.cells #[.int .u64 (l0.toNat : Int), .int .u64 (l1.toNat : Int), .int .u64 (l2.toNat : Int), .int .u64 (l3.toNat : Int)] 96) ∧ wr.heap[w.heap.size + 1]? = some (.cells #[.int .u32 0, .int .u32 0] 27) ∧ Below w.heap.size w wr) (fun i _ => N - (intOf i).toNat)
      case atStart => exact ⟨fr, Nat.le_refl _, by rw [← HN.out]; exact hfr, rfl, rfl, K0.out, K1.out, HB2.out⟩
      case round =>
        obtain ⟨k, hk1, hk2, rfl, hsrk, g0, g1, hw⟩ := hrel
        have hwB : Below B0 w0 wr := HW.out.trans (hw.mono (Nat.le_trans HB.out HW.out.size))
        have hEv := HE.out wr hwB
        have hvc := hEv.v
        rw [HN.out] at hvc
        by_cases hlt : k < N
        · have hkl : k < vs.length := by rw [HN.out]; exact hlt
          have hdc : vs.drop k = vs[k] :: vs.drop (k + 1) := List.drop_eq_getElem_cons hkl
          have hcons := srL_step o vs[k] (vs.drop (k + 1)) m (l0, l1, l2, l3)
          rw [← hdc] at hcons
          have hkB : k ≤ vs.length := Nat.le_of_lt hkl
          have hbh := hEv.beh k hkB
          have hem2 := fun W => empty_any (meC (l0, l1, l2, l3) (bhd o (vs.drop k))) W
          have hme2 := HME.out (bhd o (vs.drop k))
          have htt := hEv.thr k hkl
          have hxx := hEv.vals k hkl
          have hxs := HVS.out vs[k] (List.getElem_mem hkl)
          have hme3 := HME.out (thr o vs[k])
          have hih := fun (left2 : Cr) (W : World) (hWB : Below B0 w0 W) => HIH.out (m - 1) (by have := HM0.out; omega) (k + 1) left2 W (by omega) (by omega) hWB
          have hkc : ((k + 1 : Nat) : Int) = (k : Int) + 1 := by omega
          have hmc : ((m - 1 : Nat) : Int) = (m : Int) - 1 := by have := HM0.out; omega
          rw [hkc, hmc] at hih
          clear hkc hmc
          generalize vs[k] = x at *
          obtain ⟨xp, xm⟩ := x
          generalize thr o (xp, xm) = th at *
          obtain ⟨t0, t1, t2, t3⟩ := th
          generalize meC (l0, l1, l2, l3) (t0, t1, t2, t3) = nn at *
          obtain ⟨n0, n1, n2, n3⟩ := nn
          have hih := hih (n0, n1, n2, n3)
          generalize hres : srch o (vs.drop (k + 1)) (m - 1) (n0, n1, n2, n3) = res at *
          unfold crv at hme3 hih
          simp only at hme3 hih
          have HM3 := Lib.hid hme3; have HIH2 := Lib.hid hih; have HRES := Lib.hid hres
          clear hme3 hih hres
          have HC := Lib.hid (hsrk.trans hcons); have HTT := Lib.hid htt; have HXX := Lib.hid hxx; have HXS := Lib.hid hxs; have HG0 := Lib.hid g0; have HG1 := Lib.hid g1; have HW2 := Lib.hid hw; have HWB := Lib.hid hwB; have HDC := Lib.hid hdc
          clear hcons hsrk htt hxx hxs hdc
          have hbc := hEv.b
          rw [HN.out] at hbc
          generalize hbd : bhd o (vs.drop k) = bd at *
          obtain ⟨b0, b1, b2, b3⟩ := bd
          generalize hmm : meC (l0, l1, l2, l3) (b0, b1, b2, b3) = me at *
          obtain ⟨e0, e1, e2, e3⟩ := me
          unfold crv at hem2 hme2
          simp only at hem2 hme2
          obtain ⟨c0, c1, c2, c3⟩ := hbh
          simp only at c0 c1 c2 c3
          have KK : Hid (∀ W : World, Below wr.heap.size wr W → (W.cell? ⟨w.heap.size, 0, none⟩ = some (.int .u64 (l0.toNat : Int)) ∧ W.cell? ⟨w.heap.size, 1, none⟩ = some (.int .u64 (l1.toNat : Int)) ∧ W.cell? ⟨w.heap.size, 2, none⟩ = some (.int .u64 (l2.toNat : Int)) ∧ W.cell? ⟨w.heap.size, 3, none⟩ = some (.int .u64 (l3.toNat : Int))) ∧ W.cell? ⟨Vb, 0, none⟩ = some (.slice (some ⟨gv, off, none⟩) N cv) ∧ W.cell? ⟨Bb, 0, none⟩ = some (.slice (some ⟨gb, 0, none⟩) (N + 1) (N + 1)) ∧ W.cell? ⟨gb, k * 4, none⟩ = some (.int .u64 (b0.toNat : Int)) ∧ W.cell? ⟨gb, k * 4 + 1, none⟩ = some (.int .u64 (b1.toNat : Int)) ∧ W.cell? ⟨gb, k * 4 + 2, none⟩ = some (.int .u64 (b2.toNat : Int)) ∧ W.cell? ⟨gb, k * 4 + 3, none⟩ = some (.int .u64 (b3.toNat : Int))) := Lib.hid (fun W hW => by
            have hWw := hw.size
            have lw : w.heap.size < wr.heap.size := (Array.getElem?_eq_some_iff.1 g0).1
            have q0 := (hW.block w.heap.size lw).trans g0
            have hle : B0 ≤ wr.heap.size := Nat.le_trans (Nat.le_trans HB.out HW.out.size) hWw
            obtain ⟨z1, z2, z3, z4, z5, z6, z7⟩ := HBL.out
            refine ⟨⟨cell_block q0 rfl, cell_block q0 rfl, cell_block q0 rfl, cell_block q0 rfl⟩, ?_, ?_, ?_, ?_, ?_, ?_⟩
            · exact (hW.cell (p := ⟨Vb, _, none⟩) (by simp only []; omega)).trans hvc
            · exact (hW.cell (p := ⟨Bb, _, none⟩) (by simp only []; omega)).trans hbc
            · exact (hW.cell (p := ⟨gb, _, none⟩) (by simp only []; omega)).trans c0
            · exact (hW.cell (p := ⟨gb, _, none⟩) (by simp only []; omega)).trans c1
            · exact (hW.cell (p := ⟨gb, _, none⟩) (by simp only []; omega)).trans c2
            · exact (hW.cell (p := ⟨gb, _, none⟩) (by simp only []; omega)).trans c3)
          have hk3 : (k : Int) < (N : Int) + 1 := by omega
          have hk4 : k < N + 1 := by omega
          have hB0 : Below wr.heap.size wr wr.drew := Below.drew (Below.refl _ _)
          have HVC := Lib.hid hvc; have HEV := Lib.hid hEv; have HBD := Lib.hid hbd; have HMM := Lib.hid hmm
          clear c0 c1 c2 c3 hvc hbc g0 g1 hw hwB hEv hbd hmm hkB
          obtain ⟨E2, hE2⟩ : ∃ E2, decide (((e0, e1, e2, e3) : Cr) = (0#64, 0#64, 0#64, 0#64)) = E2 := ⟨_, rfl⟩
          rw [hE2] at hem2
          have HE2 := Lib.hid hE2; have HM2 := Lib.hid hme2; have HEM2 := Lib.hid hem2
          clear hE2 hme2 hem2
          go_wp2_with fail
          go_region_held3 (fun W => (W.cell? ⟨w.heap.size, 0, none⟩ = some (.int .u64 (l0.toNat : Int)) ∧ W.cell? ⟨w.heap.size, 1, none⟩ = some (.int .u64 (l1.toNat : Int)) ∧ W.cell? ⟨w.heap.size, 2, none⟩ = some (.int .u64 (l2.toNat : Int)) ∧ W.cell? ⟨w.heap.size, 3, none⟩ = some (.int .u64 (l3.toNat : Int))) ∧ W.cell? ⟨Vb, 0, none⟩ = some (.slice (some ⟨gv, off, none⟩) N cv) ∧ W.cell? ⟨Bb, 0, none⟩ = some (.slice (some ⟨gb, 0, none⟩) (N + 1) (N + 1)) ∧ W.cell? ⟨gb, k * 4, none⟩ = some (.int .u64 (b0.toNat : Int)) ∧ W.cell? ⟨gb, k * 4 + 1, none⟩ = some (.int .u64 (b1.toNat : Int)) ∧ W.cell? ⟨gb, k * 4 + 2, none⟩ = some (.int .u64 (b2.toNat : Int)) ∧ W.cell? ⟨gb, k * 4 + 3, none⟩ = some (.int .u64 (b3.toNat : Int)))
            (first | exact KK.out _ hB2 | exact KK.out _ hB1 | exact KK.out _ hB0)
            (first
              | (go_at_call 88; (with_reducible refine Gives.then (HM2.out _) ?_); intro w9 hb9; have hB1 : Below wr.heap.size wr w9 := hB0.trans (hb9.mono hB0.size))
              | (go_at_call 90; (with_reducible refine Gives.then (HEM2.out _) ?_); intro w10 hb10; have hB2 : Below wr.heap.size wr w10 := hB1.trans (hb10.mono hB1.size)))
          clear hb9 hb10 hB0 hB1 KK
          have HB3 := Lib.hid hB2
          clear hB2
          generalize hw3 : w10 = w3 at *
          clear hw3
          rcases E2 with _ | _
          · have hnone : srL o (vs.drop fr) m (l0, l1, l2, l3) = none := by
              rw [HC.out, if_neg (by have h := HE2.out; exact fun e => by rw [show ((e0, e1, e2, e3) : Cr) = (0#64, 0#64, 0#64, 0#64) from e] at h; simp at h)]
            have k1 := (HB3.out.block _ (Array.getElem?_eq_some_iff.1 HG1.out).1).trans HG1.out
            have r0 := cell_block k1 (o := 0) rfl
            have r1 := cell_block k1 (o := 1) rfl
            have f0 := frozen_block k1 (o := 0)
            have f1 := frozen_block k1 (o := 1)
            have J := Lib.hid (two_cells k1 (.int .u32 0) (.int .u32 0))
            have HBE := Lib.hid (HW2.out.trans (HB3.out.mono HW2.out.size)); have HNO := Lib.hid hnone
            clear hnone k1 HB3 HW2 HG0 HG1 HC HTT HXX HXS HDC HM3 HIH2 HRES HM2 HEM2 HIH HME
            go_wp2_with fail
            refine bodyPost_ret (v := resS none) (by simp [results, Tryd.results89, go_sem, J.out.1, J.out.2, resS]) rfl ⟨by rw [HNO.out], (HBE.out.setCell (p := ⟨_, _, none⟩) (by simp only []; omega) _).setCell (p := ⟨_, _, none⟩) (by simp only []; omega) _⟩
          · have hyes : srL o (vs.drop fr) m (l0, l1, l2, l3) = goS (xp, xm) (srL o (vs.drop (k + 1)) m (l0, l1, l2, l3)) res := by
              rw [HC.out, if_pos (show ((e0, e1, e2, e3) : Cr) = zC from of_decide_eq_true HE2.out)]
            have HYES := Lib.hid hyes
            clear hyes HC HE2 HM2 HEM2 HIH HME
            have hEv3 := HE.out w3 (HWB.out.trans (HB3.out.mono (Nat.le_trans (Nat.le_trans HB.out HW.out.size) HW2.out.size)))
            have htc := hEv3.t
            have hsc := hEv3.s
            rw [HN.out] at htc
            have KK8 : Hid (∀ W : World, Below w3.heap.size w3 W → (W.cell? ⟨w.heap.size, 0, none⟩ = some (.int .u64 (l0.toNat : Int)) ∧ W.cell? ⟨w.heap.size, 1, none⟩ = some (.int .u64 (l1.toNat : Int)) ∧ W.cell? ⟨w.heap.size, 2, none⟩ = some (.int .u64 (l2.toNat : Int)) ∧ W.cell? ⟨w.heap.size, 3, none⟩ = some (.int .u64 (l3.toNat : Int))) ∧ W.cell? ⟨Sb, 0, none⟩ = some (.func (.func 89) #[] #[.pointer (some ⟨Vb, 0, none⟩), .pointer (some ⟨Bb, 0, none⟩), .pointer (some ⟨Sb, 0, none⟩), .pointer (some ⟨Tb, 0, none⟩)]) ∧ W.cell? ⟨Tb, 0, none⟩ = some (.slice (some ⟨gt, 0, none⟩) N N) ∧ W.cell? ⟨gt, k * 4, none⟩ = some (.int .u64 (t0.toNat : Int)) ∧ W.cell? ⟨gt, k * 4 + 1, none⟩ = some (.int .u64 (t1.toNat : Int)) ∧ W.cell? ⟨gt, k * 4 + 2, none⟩ = some (.int .u64 (t2.toNat : Int)) ∧ W.cell? ⟨gt, k * 4 + 3, none⟩ = some (.int .u64 (t3.toNat : Int))) := Lib.hid (fun W hW => by
              obtain ⟨z1, z2, z3, z4, z5, z6, z7⟩ := HBL.out
              have hle : B0 ≤ w3.heap.size := Nat.le_trans (Nat.le_trans (Nat.le_trans HB.out HW.out.size) HW2.out.size) HB3.out.size
              have lw : w.heap.size < wr.heap.size := (Array.getElem?_eq_some_iff.1 HG0.out).1
              have q0 := (hW.block w.heap.size (Nat.lt_of_lt_of_le lw HB3.out.size)).trans ((HB3.out.block w.heap.size lw).trans HG0.out)
              obtain ⟨y0, y1, y2, y3⟩ := HTT.out
              have hle2 : B0 ≤ wr.heap.size := Nat.le_trans (Nat.le_trans HB.out HW.out.size) HW2.out.size
              have e2 : ∀ p : Addr, p.block < B0 → w3.cell? p = wr.cell? p := fun p hp => HB3.out.cell (Nat.lt_of_lt_of_le hp hle2)
              have e1 : ∀ p : Addr, p.block < B0 → W.cell? p = w3.cell? p := fun p hp => hW.cell (Nat.lt_of_lt_of_le hp hle)
              exact ⟨⟨cell_block q0 rfl, cell_block q0 rfl, cell_block q0 rfl, cell_block q0 rfl⟩, (e1 ⟨Sb, _, none⟩ z3).trans hsc, (e1 ⟨Tb, _, none⟩ z4).trans htc, ((e1 ⟨gt, _, none⟩ z7).trans (e2 ⟨gt, _, none⟩ z7)).trans y0, ((e1 ⟨gt, _, none⟩ z7).trans (e2 ⟨gt, _, none⟩ z7)).trans y1, ((e1 ⟨gt, _, none⟩ z7).trans (e2 ⟨gt, _, none⟩ z7)).trans y2, ((e1 ⟨gt, _, none⟩ z7).trans (e2 ⟨gt, _, none⟩ z7)).trans y3⟩)
            have HIH3 : Hid (∀ W : World, Below w3.heap.size w3 W → Gives 89 #[.int .i64 ((k : Int) + 1), .int .i64 ((m : Int) - 1), .agg #[.int .u64 (n0.toNat : Int), .int .u64 (n1.toNat : Int), .int .u64 (n2.toNat : Int), .int .u64 (n3.toNat : Int)], .pointer (some ⟨Vb, 0, none⟩), .pointer (some ⟨Bb, 0, none⟩), .pointer (some ⟨Sb, 0, none⟩), .pointer (some ⟨Tb, 0, none⟩)] W (resS res)) := Lib.hid (fun W hW => by exact HIH2.out W (HWB.out.trans ((HB3.out.trans (hW.mono HB3.out.size)).mono (Nat.le_trans (Nat.le_trans HB.out HW.out.size) HW2.out.size))))
            have hX0 := HXX.out
            clear htc hsc hEv3 HIH2 HTT
            obtain ⟨rp, rm, rb, hrs, hr1, hr2⟩ : ∃ rp rm rb, resS res = .tuple #[.agg #[.int .u32 (BitVec.toNat rp : Int), .int .u32 (BitVec.toNat rm : Int)], .bool rb] ∧ ((rp, rm) : Snd) = res.getD (0#32, 0#32) ∧ rb = res.isSome := ⟨_, _, _, rfl, rfl, rfl⟩
            rw [hrs] at HIH3
            have HR1 := Lib.hid hr1; have HR2 := Lib.hid hr2
            have hkN : (k : Int) < (N : Int) := by omega
            have hm63 : (m : Int) ≤ 1000 := by omega
            clear hrs hr1 hr2 hX0
            go_wp2_with fail
            refine wp_region_late 14 16 [(15, .cells #[.int .u32 0, .int .u32 0] 27 (0, 0))] [0, 1, 2, 3, 4, 5, 6, 7, 8, 9, 10, 11, 12, 13, 14, 15] ?A8 _ (by simp [edged]; rfl) rfl rfl (by kernel_rfl) (by kernel_rfl) (by kernel_rfl) ?hrun8 (by simp [quiets, mkOf]; rfl) ?walk8 ?fin8
            case hrun8 =>
              intro x hx
              simp only [List.mem_cons, List.not_mem_nil, or_false] at hx
              rcases hx with rfl
              exact ⟨_, rfl, rfl, fun a w => by simp [go_sem, ptr]⟩
            case walk8 =>
              intro W2 hW2
              obtain ⟨⟨a0, a1, a2, a3⟩, a4, a5, a6, a7, a8, a9⟩ := KK8.out W2 hW2
              have p0 := cell_regrown a0
              have p1 := cell_regrown a1
              have p2 := cell_regrown a2
              have p3 := cell_regrown a3
              have p4 := cell_regrown a4
              have p5 := cell_regrown a5
              have p6 := cell_regrown a6
              have p7 := cell_regrown a7
              have p8 := cell_regrown a8
              have p9 := cell_regrown a9
              repeat (go_big_quiet_step (first
                | (go_at_call 88; with_reducible exact Calls.regrown_of (HM3.out _))
                | (go_at_call 89; with_reducible exact Calls.regrown_of (HIH3.out _ (hW2.trans ((below_regrown _ _ _).mono hW2.size))))))
              refine wpQuiet_nil ?_
              rfl
            intro bs w5 hb hF hN
            obtain ⟨hq, hqb⟩ := hF (15, .cells #[.int .u32 0, .int .u32 0] 27 (0, 0)) (by simp)
            simp only [List.map_cons, List.map_nil, List.foldr_cons, List.foldr_nil] at *
            generalize bs 15 = q at *
            have HB5 := Lib.hid (hb.setCell2 hq (.int .u32 (rp.toNat : Int)) (.int .u32 (rm.toNat : Int)))
            have R3 := Lib.hid (two_set (x' := .int .u32 (rp.toNat : Int)) (y' := .int .u32 (rm.toNat : Int)) hqb)
            have c0 := cell_block hqb (o := 0) rfl
            have c1 := cell_block hqb (o := 1) rfl
            have f0 := frozen_block hqb (o := 0)
            have f1 := frozen_block hqb (o := 1)
            clear bs hF hN hb hqb KK8 HM3 HIH3
            simp only [dstOf, ptr, Act.put, List.getElem?_toArray, List.getElem?_cons_succ, List.getElem?_cons_zero, Option.bind_some, List.setIfInBounds_toArray, List.set_cons_zero, List.set_cons_succ, List.drop_succ_cons, List.drop_zero]
            go_wp2_with fail
            refine ⟨rfl, ?_⟩
            generalize ((w5.setCell ⟨q, 0, none⟩ (.int .u32 (rp.toNat : Int))).setCell ⟨q, 1, none⟩ (.int .u32 (rm.toNat : Int))) = w6 at *
            have G1B := Lib.hid ((HB5.out.block _ (Nat.lt_of_lt_of_le (Array.getElem?_eq_some_iff.1 HG1.out).1 HB3.out.size)).trans ((HB3.out.block _ (Array.getElem?_eq_some_iff.1 HG1.out).1).trans HG1.out))
            have G0B := Lib.hid ((HB5.out.block _ (Nat.lt_of_lt_of_le (Array.getElem?_eq_some_iff.1 HG0.out).1 HB3.out.size)).trans ((HB3.out.block _ (Array.getElem?_eq_some_iff.1 HG0.out).1).trans HG0.out))
            have HBR := Lib.hid (HB3.out.trans (HB5.out.mono HB3.out.size))
            have HW6 := Lib.hid (HW2.out.trans ((HB3.out.trans (HB5.out.mono HB3.out.size)).mono HW2.out.size))
            clear c0 c1 f0 f1 HB5 HB3 HG0 HG1
            rcases res with _ | ⟨r1, r2⟩
            · have hrb := HR2.out
              simp only [Option.isSome_none] at hrb
              subst hrb
              clear HR1 HR2 R3 hq
              go_wp2_with fail
              go_roundw
              case rel => exact ⟨k + 1, by omega, by omega, by go_num, HYES.out, G0B.out, G1B.out, HW6.out⟩
              case measure => simp [intOf]; omega
            · have hrb := HR2.out
              have hrr := HR1.out
              simp only [Option.isSome_some] at hrb
              simp only [Option.getD_some, Prod.mk.injEq] at hrr
              obtain ⟨rfl, rfl⟩ := hrr
              subst hrb
              have hrsub : sub (rp, rm) c := srch_sub (fun v hv => HVS.out v (List.mem_of_mem_drop hv)) HRES.out
              have hun := uni_any (xp, xm) (rp, rm) c HXS.out hrsub hc
              have HYE2 : Hid (srL o (vs.drop fr) m (l0, l1, l2, l3) = some (uniS (xp, xm) (rp, rm))) := Lib.hid HYES.out
              obtain ⟨UU, hUU⟩ : ∃ UU, uniS (xp, xm) (rp, rm) = UU := ⟨_, rfl⟩
              rw [hUU] at hun HYE2
              obtain ⟨up, um⟩ := UU
              have HUN := Lib.hid hun
              have hwB6 : Below B0 w0 w6 := HW.out.trans (HW6.out.mono (Nat.le_trans HB.out HW.out.size))
              have hEv6 := HE.out w6 hwB6
              have hv6 := hEv6.v
              rw [HN.out] at hv6
              have hbl := HBL.out
              have hle6 : B0 ≤ w6.heap.size := Nat.le_trans HB.out hwB6.size
              have hx6 : w6.cell? ⟨gv, off + k * 2, none⟩ = some (.int .u32 (xp.toNat : Int)) ∧ w6.cell? ⟨gv, off + k * 2 + 1, none⟩ = some (.int .u32 (xm.toNat : Int)) := by
                have hle2 : B0 ≤ wr.heap.size := Nat.le_trans (Nat.le_trans HB.out HW.out.size) HW2.out.size
                have hw36 := HBR.out
                exact ⟨(hw36.cell (p := ⟨gv, _, none⟩) (Nat.lt_of_lt_of_le hbl.2.2.2.2.1 hle2)).trans HXX.out.1, (hw36.cell (p := ⟨gv, _, none⟩) (Nat.lt_of_lt_of_le hbl.2.2.2.2.1 hle2)).trans HXX.out.2⟩
              clear HR1 HR2 HYES hun hrsub hEv6 HXX
              have lq := (Array.getElem?_eq_some_iff.1 R3.out).1
              have KK10 : Hid (∀ W : World, Below w6.heap.size w6 W → W.cell? ⟨Vb, 0, none⟩ = some (.slice (some ⟨gv, off, none⟩) N cv) ∧ W.cell? ⟨gv, off + k * 2, none⟩ = some (.int .u32 (xp.toNat : Int)) ∧ W.cell? ⟨gv, off + k * 2 + 1, none⟩ = some (.int .u32 (xm.toNat : Int)) ∧ W.cell? ⟨q, 0, none⟩ = some (.int .u32 (rp.toNat : Int)) ∧ W.cell? ⟨q, 1, none⟩ = some (.int .u32 (rm.toNat : Int))) := Lib.hid (fun W hW => by
                obtain ⟨z1, z2, z3, z4, z5, z6, z7⟩ := hbl
                have rq := (hW.block q lq).trans R3.out
                exact ⟨(hW.cell (p := ⟨Vb, _, none⟩) (by simp only []; omega)).trans hv6, (hW.cell (p := ⟨gv, _, none⟩) (by simp only []; omega)).trans hx6.1, (hW.cell (p := ⟨gv, _, none⟩) (by simp only []; omega)).trans hx6.2, cell_block rq rfl, cell_block rq rfl⟩)
              clear hv6 hx6 R3 hq hwB6 hbl
              go_wp2_with fail
              refine wp_region_late 7 8 [] [0, 1, 2, 3, 4, 5, 6, 7] ?A10 _ (by simp [edged]; rfl) rfl rfl (by kernel_rfl) (by kernel_rfl) (by kernel_rfl) ?hrun10 (by simp [quiets, mkOf]; rfl) ?walk10 ?fin10
              case hrun10 =>
                intro x hx
                cases hx
              case walk10 =>
                intro W2 hW2
                obtain ⟨a4, a5, a6, a7, a8⟩ := KK10.out W2 hW2
                have p4 := cell_regrown a4
                have p5 := cell_regrown a5
                have p6 := cell_regrown a6
                have p7 := cell_regrown a7
                have p8 := cell_regrown a8
                repeat (go_big_quiet_step (first
                  | (go_at_call 91; with_reducible exact Calls.regrown_of (HUN.out _))))
                refine wpQuiet_nil ?_
                rfl
              intro bs w7 hb hF hN
              have k7 := (hb.block _ (Array.getElem?_eq_some_iff.1 G1B.out).1).trans G1B.out
              have J := Lib.hid (two_cells k7 (.int .u32 (up.toNat : Int)) (.int .u32 (um.toNat : Int)))
              have c0 := cell_block k7 (o := 0) rfl
              have c1 := cell_block k7 (o := 1) rfl
              have f0 := frozen_block k7 (o := 0)
              have f1 := frozen_block k7 (o := 1)
              have HBE := Lib.hid (HW6.out.trans (hb.mono HW6.out.size))
              simp only [List.map_nil, List.foldr_nil] at *
              clear bs hF hN hb k7 KK10 HUN HW6 G0B G1B
              simp only [dstOf, ptr, Act.put, List.getElem?_toArray, List.getElem?_cons_succ, List.getElem?_cons_zero, Option.bind_some, List.setIfInBounds_toArray, List.set_cons_zero, List.set_cons_succ, List.drop_succ_cons, List.drop_zero]
              go_wp2_with fail
              refine ⟨rfl, ?_⟩
              go_wp2_with fail
              refine bodyPost_ret (v := resS (some (up, um))) (by simp [results, Tryd.results89, go_sem, J.out.1, J.out.2, resS]) rfl ⟨by rw [HYE2.out], HBE.out.setCell2 (Nat.le_succ _) _ _⟩
        · obtain rfl : k = N := by omega
          have hnil : vs.drop k = [] := by rw [← HN.out]; exact List.drop_length
          rw [hnil] at hsrk
          have hnone : srL o (vs.drop fr) m (l0, l1, l2, l3) = none := hsrk
          have r0 := cell_block g1 (o := 0) rfl
          have r1 := cell_block g1 (o := 1) rfl
          have f0 := frozen_block g1 (o := 0)
          have f1 := frozen_block g1 (o := 1)
          have HG1 := Lib.hid g1
          have HNO := Lib.hid hnone; have HW2 := Lib.hid hw
          clear hnone hsrk hnil g0 hwB hEv hw g1
          go_wp2_with fail
          go_quiet (fail)
          have J := Lib.hid (two_cells (show (wr.drewN nq).heap[w.heap.size + 1]? = _ from HG1.out) (.int .u32 0) (.int .u32 0))
          have HBE : Hid (Below w.heap.size w (wr.drewN nq)) := Lib.hid (belowN HW2.out nq)
          go_wp2_with fail
          refine bodyPost_ret (v := resS none) (by simp [results, Tryd.results89, go_sem, J.out.1, J.out.2, resS]) rfl ⟨by rw [HNO.out], HBE.out.setCell2 (Nat.le_succ _) _ _⟩
end Go.Proofs.YtpnmapfabjdfjaaDoor
