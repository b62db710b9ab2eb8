/-
  WordCuts, walked.
-/
import Derived.Test.YthokpgnenlfnjaaHx
import Derived.Test.YthokpgnenlfnjaaCu
namespace Go.Proofs.Ythokpgnenlfnjaa
open Go.RowKit Go.Sort
theorem Wd.blt {w : World} {v : Value} {ss : List Snd} (h : Wd w v ss) (k : Nat) (hk : v.ownBlock = some k) : k < w.heap.size := by
  rcases h with ⟨rfl, _⟩ | ⟨b, off, cap, rfl, _, _, hb, _⟩
  · cases hk
  · cases hk; exact hb
theorem Wd.opened {w : World} {v : Value} {ss : List Snd} (h : Wd w v ss) : ∃ ao cap, v = .slice ao ss.length cap := by
  obtain ⟨ao, cap, hv, -, -, -⟩ := h.open; exact ⟨ao, cap, hv⟩
set_option maxRecDepth 100000 in
set_option maxHeartbeats 8000000 in
theorem cuts_any (xs ys : List Snd) (v u : Value) (a b : Int) (w0 : World) (ha : Wd w0 v xs) (hb : Wd w0 u ys) : Gives 3 #[v, u, .int .i64 a, .int .i64 b] w0 (.bool true) := by
  unfold Gives
  have DA := Lib.hid ha; have DB := Lib.hid hb
  obtain ⟨ao, ac, rfl, ka, ma, -⟩ := ha.open
  obtain ⟨bo, bc, rfl, kb, mb, -⟩ := hb.open
  have l1 := maxLen_lt (Nat.le_trans ka ma); have l2 := maxLen_lt (Nat.le_trans kb mb)
  clear ha hb ka ma kb mb
  have hw := Below.refl w0.heap.size w0
  by_cases h1 : xs.length ≤ 300
  · by_cases h2 : ys.length ≤ 300
    · have LA : Hid (xs.length ≤ 1000000000) := Lib.hid (by omega)
      have LB : Hid (ys.length ≤ 1000000000) := Lib.hid (by omega)
      have g1 := fun W (hb : Below w0.heap.size w0 W) => cut_any xs _ a b W (DA.out.below hb)
      have g2 := fun W (hb : Below w0.heap.size w0 W) => rcut_any xs _ a b W (DA.out.below hb)
      have g3 := fun W (hb : Below w0.heap.size w0 W) => splice_any xs ys _ _ a b W (DA.out.below hb) (DB.out.below hb)
      have g4 := fun W (hb : Below w0.heap.size w0 W) => rsplice_any xs ys _ _ a b W (DA.out.below hb) (DB.out.below hb)
      have g5 := fun W (hb : Below w0.heap.size w0 W) => reverse_from xs _ W (DA.out.below hb)
      have g6 := fun W (hb : Below w0.heap.size w0 W) => rreverse_from xs _ W (DA.out.below hb)
      have q1 := fun W v (h : Wd W v xs) => check_any xs v W h
      have q2 := fun W v (h : Wd W v xs) => rcheck_any xs v W h
      have q3 := fun W v (h : Wd W v ys) => check_any ys v W h
      have q4 := fun W v (h : Wd W v ys) => rcheck_any ys v W h
      generalize cutS xs a b = C at *
      generalize cutE xs a b = E1 at *
      generalize splS xs a b ys = SP at *
      generalize splE xs a b ys = E2 at *
      generalize revS xs = RV at *
      generalize chk xs = E3 at *
      generalize chk ys = E4 at *
      have G1 := Lib.hid g1; have G2 := Lib.hid g2; have G3 := Lib.hid g3; have G4 := Lib.hid g4; have G5 := Lib.hid g5; have G6 := Lib.hid g6
      have Q1 := Lib.hid q1; have Q2 := Lib.hid q2; have Q3 := Lib.hid q3; have Q4 := Lib.hid q4
      clear g1 g2 g3 g4 g5 g6 q1 q2 q3 q4
      go_enter Try.func3, Try.ntmps3
      go_wp2_with fail
      go_at_call 16
      with_reducible refine Makes.then (copy_any xs _ LA.out _ (DA.out.below hw)) ?_
      intro v_s w_s o_s hb
      have d_s := o_s.wd
      obtain ⟨a_s, c_s, hv⟩ := d_s.opened
      subst hv
      have hw := hw.trans (hb.mono hw.size)
      clear hb o_s
      go_wp2_with fail
      go_at_call 16
      with_reducible refine Makes.then (copy_any ys _ LB.out _ (DB.out.below hw)) ?_
      intro v_l w_l o_l hb
      have d_l := o_l.wd
      obtain ⟨a_l, c_l, hv⟩ := d_l.opened
      subst hv
      have d_s := d_s.below hb
      have hw := hw.trans (hb.mono hw.size)
      clear hb o_l
      have d_a := DA.out.below hw
      have d_b := DB.out.below hw
      have b_s := Wd.blt d_s; have b_l := Wd.blt d_l; have b_a := Wd.blt d_a; have b_b := Wd.blt d_b
      have hwl := hw
      go_wp2_with fail
      go_at_call 17
      with_reducible refine MakesE.then (G1.out _ hw) ?_
      intro v_c w_c o_c hb
      have d_c := o_c.wd
      have d_s := d_s.below hb
      have d_l := d_l.below hb
      have d_a := d_a.below hb
      have d_b := d_b.below hb
      have hw := hw.trans (hb.mono hw.size)
      obtain ⟨hcl, ⟨rfl, h0⟩ | ⟨g, cc, cur, rfl, hg, hh, hn, hm, hs, ht⟩⟩ := o_c
      · skip
        clear b_s b_l b_a b_b hwl d_c hb
        go_wp2_with fail
        go_at_call 18
        with_reducible refine MakesE.then (G2.out _ hw) ?_
        intro v_d w_d o_d hb
        have d_d := o_d.wd
        obtain ⟨a_d, c_d, hv⟩ := d_d.opened
        subst hv
        have d_s := d_s.below hb
        have d_l := d_l.below hb
        have d_a := d_a.below hb
        have d_b := d_b.below hb
        have hw := hw.trans (hb.mono hw.size)
        clear hb o_d
        go_wp2_with fail
        go_at_call 19
        with_reducible refine MakesE.then (G3.out _ hw) ?_
        intro v_x w_x o_x hb
        have d_x := o_x.wd
        obtain ⟨a_x, c_x, hv⟩ := d_x.opened
        subst hv
        have d_s := d_s.below hb
        have d_l := d_l.below hb
        have d_a := d_a.below hb
        have d_b := d_b.below hb
        have d_d := d_d.below hb
        have hw := hw.trans (hb.mono hw.size)
        clear hb o_x
        go_wp2_with fail
        go_at_call 20
        with_reducible refine MakesE.then (G4.out _ hw) ?_
        intro v_y w_y o_y hb
        have d_y := o_y.wd
        obtain ⟨a_y, c_y, hv⟩ := d_y.opened
        subst hv
        have d_s := d_s.below hb
        have d_l := d_l.below hb
        have d_a := d_a.below hb
        have d_b := d_b.below hb
        have d_d := d_d.below hb
        have d_x := d_x.below hb
        have hw := hw.trans (hb.mono hw.size)
        clear hb o_y
        go_wp2_with fail
        go_at_call 21
        refine Calls.mono (G5.out _ hw) ?_
        rintro e w_p ⟨v_p, rfl, d_p, r_p, hb⟩
        obtain ⟨a_p, c_p, hv⟩ := d_p.opened
        subst hv
        have d_s := d_s.below hb
        have d_l := d_l.below hb
        have d_a := d_a.below hb
        have d_b := d_b.below hb
        have d_d := d_d.below hb
        have d_x := d_x.below hb
        have d_y := d_y.below hb
        have hw := hw.trans (hb.mono hw.size)
        clear hb r_p
        go_wp2_with fail
        go_at_call 22
        refine Calls.mono (G6.out _ hw) ?_
        rintro e w_q ⟨v_q, rfl, d_q, r_q, hb⟩
        obtain ⟨a_q, c_q, hv⟩ := d_q.opened
        subst hv
        have d_s := d_s.below hb
        have d_l := d_l.below hb
        have d_a := d_a.below hb
        have d_b := d_b.below hb
        have d_d := d_d.below hb
        have d_x := d_x.below hb
        have d_y := d_y.below hb
        have d_p := d_p.below hb
        have hw := hw.trans (hb.mono hw.size)
        clear hb r_q
        obtain rfl : C = [] := List.eq_nil_of_length_eq_zero h0
        have HWL := Lib.hid hw
        have Hs := Lib.hid d_s
        have Hl := Lib.hid d_l
        have Ha := Lib.hid d_a
        have Hb := Lib.hid d_b
        have Hx := Lib.hid d_x
        have Hy := Lib.hid d_y
        have Hp := Lib.hid d_p
        have Hq := Lib.hid d_q
        clear d_s d_l d_a d_b d_d d_x d_y d_p d_q hcl h0
        go_wp2_with fail
        go_loopw [23] (fun i wr => i = .int .i64 0 ∧ wr = w_q) (fun _ _ => 0)
        case atStart => exact ⟨rfl, rfl⟩
        case round =>
          obtain ⟨rfl, rfl⟩ := hrel
          have hwr := HWL.out
          have Ds := Hs
          have Dl := Hl
          have Da := Ha
          have Db := Hb
          have Dx := Hx
          have Dy := Hy
          have Dp := Hp
          have Dq := Hq
          have h9 := Below.refl wr.heap.size wr
          go_wp2_with (first | (go_at_call 23; with_reducible refine Gives.then (Gives.eq (rEqual_any SP SP _ _ _ (Dx.out.below h9) (Dy.out.below h9)) rfl (v' := .bool true) (by simp)) ?_; intro w9 hb; have h9 := h9.trans (hb.mono h9.size); clear hb) | (go_at_call 23; with_reducible refine Gives.then (Gives.eq (rEqual_any RV RV _ _ _ (Dp.out.below h9) (Dq.out.below h9)) rfl (v' := .bool true) (by simp)) ?_; intro w9 hb; have h9 := h9.trans (hb.mono h9.size); clear hb) | (go_at_call 23; with_reducible refine Gives.then (Gives.eq (rEqual_any xs xs _ _ _ (Da.out.below h9) (Ds.out.below h9)) rfl (v' := .bool true) (by simp)) ?_; intro w9 hb; have h9 := h9.trans (hb.mono h9.size); clear hb) | (go_at_call 23; with_reducible refine Gives.then (Gives.eq (rEqual_any ys ys _ _ _ (Db.out.below h9) (Dl.out.below h9)) rfl (v' := .bool true) (by simp)) ?_; intro w9 hb; have h9 := h9.trans (hb.mono h9.size); clear hb) | (go_at_call 24; with_reducible refine Gives.then (Gives.eq (Q1.out _ _ (Da.out.below h9)) rfl (v' := .int .i64 E3) rfl) ?_; intro w9 hb; have h9 := h9.trans (hb.mono h9.size); clear hb) | (go_at_call 25; with_reducible refine Gives.then (Gives.eq (Q2.out _ _ (Da.out.below h9)) rfl (v' := .int .i64 E3) rfl) ?_; intro w9 hb; have h9 := h9.trans (hb.mono h9.size); clear hb) | (go_at_call 24; with_reducible refine Gives.then (Gives.eq (Q3.out _ _ (Db.out.below h9)) rfl (v' := .int .i64 E4) rfl) ?_; intro w9 hb; have h9 := h9.trans (hb.mono h9.size); clear hb) | (go_at_call 25; with_reducible refine Gives.then (Gives.eq (Q4.out _ _ (Db.out.below h9)) rfl (v' := .int .i64 E4) rfl) ?_; intro w9 hb; have h9 := h9.trans (hb.mono h9.size); clear hb) | (go_at_call 15; with_reducible refine Gives.then (works_any _) ?_; intro w9 hb; have h9 := h9.trans (hb.mono h9.size); clear hb))
          go_returns
          exact ⟨by first | rfl | (simp; done), hwr.trans (h9.mono hwr.size)⟩
      · skip
        have hgl : g < w_c.heap.size := (Array.getElem?_eq_some_iff.1 hh).1
        have hlg : w_l.heap.size ≤ g := hg
        have lc := maxLen_lt hm
        have hg0 : w0.heap.size ≤ g := by have := hwl.size; omega
        have n_s : (Value.slice a_s _ c_s).ownBlock ≠ some g := fun e => by have := b_s _ e; omega
        have n_l : (Value.slice a_l _ c_l).ownBlock ≠ some g := fun e => by have := b_l _ e; omega
        have n_a : (Value.slice ao _ ac).ownBlock ≠ some g := fun e => by have := b_a _ e; omega
        have n_b : (Value.slice bo _ bc).ownBlock ≠ some g := fun e => by have := b_b _ e; omega
        clear b_s b_l b_a b_b hwl d_c hb
        go_wp2_with fail
        go_at_call 18
        with_reducible refine MakesE.then (G2.out _ hw) ?_
        intro v_d w_d o_d hb
        have d_d := o_d.wd
        obtain ⟨a_d, c_d, hv⟩ := d_d.opened
        subst hv
        have d_s := d_s.below hb
        have d_l := d_l.below hb
        have d_a := d_a.below hb
        have d_b := d_b.below hb
        have hw := hw.trans (hb.mono hw.size)
        have hh := (hb.block g hgl).trans hh
        have hgl := Nat.lt_of_lt_of_le hgl hb.size
        clear hb o_d
        go_wp2_with fail
        go_at_call 19
        with_reducible refine MakesE.then (G3.out _ hw) ?_
        intro v_x w_x o_x hb
        have d_x := o_x.wd
        have r_x := Own.row o_x
        obtain ⟨a_x, c_x, hv⟩ := d_x.opened
        subst hv
        have d_s := d_s.below hb
        have d_l := d_l.below hb
        have d_a := d_a.below hb
        have d_b := d_b.below hb
        have d_d := d_d.below hb
        have n_x : (Value.slice a_x SP.length c_x).ownBlock ≠ some g := fun e => by have h9 := r_x g e; omega
        have hw := hw.trans (hb.mono hw.size)
        have hh := (hb.block g hgl).trans hh
        have hgl := Nat.lt_of_lt_of_le hgl hb.size
        clear hb o_x r_x
        go_wp2_with fail
        go_at_call 20
        with_reducible refine MakesE.then (G4.out _ hw) ?_
        intro v_y w_y o_y hb
        have d_y := o_y.wd
        have r_y := Own.row o_y
        obtain ⟨a_y, c_y, hv⟩ := d_y.opened
        subst hv
        have d_s := d_s.below hb
        have d_l := d_l.below hb
        have d_a := d_a.below hb
        have d_b := d_b.below hb
        have d_d := d_d.below hb
        have d_x := d_x.below hb
        have n_y : (Value.slice a_y SP.length c_y).ownBlock ≠ some g := fun e => by have h9 := r_y g e; omega
        have hw := hw.trans (hb.mono hw.size)
        have hh := (hb.block g hgl).trans hh
        have hgl := Nat.lt_of_lt_of_le hgl hb.size
        clear hb o_y r_y
        go_wp2_with fail
        go_at_call 21
        refine Calls.mono (G5.out _ hw) ?_
        rintro e w_p ⟨v_p, rfl, d_p, r_p, hb⟩
        obtain ⟨a_p, c_p, hv⟩ := d_p.opened
        subst hv
        have d_s := d_s.below hb
        have d_l := d_l.below hb
        have d_a := d_a.below hb
        have d_b := d_b.below hb
        have d_d := d_d.below hb
        have d_x := d_x.below hb
        have d_y := d_y.below hb
        have n_p : (Value.slice a_p RV.length c_p).ownBlock ≠ some g := fun e => by have h9 := r_p g e; omega
        have hw := hw.trans (hb.mono hw.size)
        have hh := (hb.block g hgl).trans hh
        have hgl := Nat.lt_of_lt_of_le hgl hb.size
        clear hb r_p
        go_wp2_with fail
        go_at_call 22
        refine Calls.mono (G6.out _ hw) ?_
        rintro e w_q ⟨v_q, rfl, d_q, r_q, hb⟩
        obtain ⟨a_q, c_q, hv⟩ := d_q.opened
        subst hv
        have d_s := d_s.below hb
        have d_l := d_l.below hb
        have d_a := d_a.below hb
        have d_b := d_b.below hb
        have d_d := d_d.below hb
        have d_x := d_x.below hb
        have d_y := d_y.below hb
        have d_p := d_p.below hb
        have n_q : (Value.slice a_q RV.length c_q).ownBlock ≠ some g := fun e => by have h9 := r_q g e; omega
        have hw := hw.trans (hb.mono hw.size)
        have hh := (hb.block g hgl).trans hh
        have hgl := Nat.lt_of_lt_of_le hgl hb.size
        clear hb r_q
        have HR : CRow w_q g (C.length * 2) := ⟨cur, hh, by have := Nat.mul_le_mul_right 2 hn; omega⟩
        have HWL := Lib.hid hw
        have Hs := Lib.hid d_s
        have Hl := Lib.hid d_l
        have Ha := Lib.hid d_a
        have Hb := Lib.hid d_b
        have Hx := Lib.hid d_x
        have Hy := Lib.hid d_y
        have Hp := Lib.hid d_p
        have Hq := Lib.hid d_q
        clear d_s d_l d_a d_b d_d d_x d_y d_p d_q hh hs ht hm hcl
        have HR0 := Lib.hid HR
        clear HR hw
        go_wp2_with fail
        go_loopw [23] (fun i wr => ∃ k : Nat, i = .int .i64 (k : Int) ∧ k ≤ C.length ∧ w_q.grownBy wr (some g) ∧ CRow wr g (C.length * 2)) (fun i _ => C.length - (intOf i).toNat)
        case atStart => exact ⟨0, rfl, by omega, ⟨rfl, rfl, rfl, Nat.le_refl _, fun _ _ _ => rfl⟩, HR0.out⟩
        case round =>
          obtain ⟨k, rfl, hk, hgr, hrow⟩ := hrel
          by_cases hlt : k < C.length
          · obtain ⟨⟨u0, c0⟩, f0⟩ := hrow.cell (o := k * 2) (by omega)
            obtain ⟨⟨u1, c1⟩, f1⟩ := hrow.cell (o := k * 2 + 1) (by omega)
            have HG := Lib.hid hgr; have HRW := Lib.hid hrow
            clear hgr hrow
            go_wp2_with fail
            go_roundw
            case rel => exact ⟨k + 1, by go_num, by omega, grown_set _ (grown_set _ HG.out), CRow.set _ (CRow.set _ HRW.out)⟩
            case measure => simp [intOf]; omega
          · have hwr := HWL.out.grown hgr (by have := HWL.out.size; omega) (fun k e => by cases e; omega)
            have Ds := Lib.hid (Hs.out.grown hgr n_s)
            have Dl := Lib.hid (Hl.out.grown hgr n_l)
            have Da := Lib.hid (Ha.out.grown hgr n_a)
            have Db := Lib.hid (Hb.out.grown hgr n_b)
            have Dx := Lib.hid (Hx.out.grown hgr n_x)
            have Dy := Lib.hid (Hy.out.grown hgr n_y)
            have Dp := Lib.hid (Hp.out.grown hgr n_p)
            have Dq := Lib.hid (Hq.out.grown hgr n_q)
            clear hgr hrow
            have h9 := Below.refl wr.heap.size wr
            go_wp2_with (first | (go_at_call 23; with_reducible refine Gives.then (Gives.eq (rEqual_any SP SP _ _ _ (Dx.out.below h9) (Dy.out.below h9)) rfl (v' := .bool true) (by simp)) ?_; intro w9 hb; have h9 := h9.trans (hb.mono h9.size); clear hb) | (go_at_call 23; with_reducible refine Gives.then (Gives.eq (rEqual_any RV RV _ _ _ (Dp.out.below h9) (Dq.out.below h9)) rfl (v' := .bool true) (by simp)) ?_; intro w9 hb; have h9 := h9.trans (hb.mono h9.size); clear hb) | (go_at_call 23; with_reducible refine Gives.then (Gives.eq (rEqual_any xs xs _ _ _ (Da.out.below h9) (Ds.out.below h9)) rfl (v' := .bool true) (by simp)) ?_; intro w9 hb; have h9 := h9.trans (hb.mono h9.size); clear hb) | (go_at_call 23; with_reducible refine Gives.then (Gives.eq (rEqual_any ys ys _ _ _ (Db.out.below h9) (Dl.out.below h9)) rfl (v' := .bool true) (by simp)) ?_; intro w9 hb; have h9 := h9.trans (hb.mono h9.size); clear hb) | (go_at_call 24; with_reducible refine Gives.then (Gives.eq (Q1.out _ _ (Da.out.below h9)) rfl (v' := .int .i64 E3) rfl) ?_; intro w9 hb; have h9 := h9.trans (hb.mono h9.size); clear hb) | (go_at_call 25; with_reducible refine Gives.then (Gives.eq (Q2.out _ _ (Da.out.below h9)) rfl (v' := .int .i64 E3) rfl) ?_; intro w9 hb; have h9 := h9.trans (hb.mono h9.size); clear hb) | (go_at_call 24; with_reducible refine Gives.then (Gives.eq (Q3.out _ _ (Db.out.below h9)) rfl (v' := .int .i64 E4) rfl) ?_; intro w9 hb; have h9 := h9.trans (hb.mono h9.size); clear hb) | (go_at_call 25; with_reducible refine Gives.then (Gives.eq (Q4.out _ _ (Db.out.below h9)) rfl (v' := .int .i64 E4) rfl) ?_; intro w9 hb; have h9 := h9.trans (hb.mono h9.size); clear hb) | (go_at_call 15; with_reducible refine Gives.then (works_any _) ?_; intro w9 hb; have h9 := h9.trans (hb.mono h9.size); clear hb))
            go_returns
            exact ⟨by first | rfl | (simp; done), hwr.trans (h9.mono hwr.size)⟩
    · go_enter Try.func3, Try.ntmps3
      go_wp2_with (go_at_call 15; with_reducible refine Gives.then (works_any _) ?_; intro w1 hb; have hw := hw.trans (hb.mono hw.size); clear hb)
      go_returns
      exact ⟨rfl, hw⟩
  · go_enter Try.func3, Try.ntmps3
    go_wp2_with (go_at_call 15; with_reducible refine Gives.then (works_any _) ?_; intro w1 hb; have hw := hw.trans (hb.mono hw.size); clear hb)
    go_returns
    exact ⟨rfl, hw⟩
end Go.Proofs.Ythokpgnenlfnjaa
