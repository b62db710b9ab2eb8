/-
  WordBack, walked.
-/
import Derived.Test.YthokpgnenlfnjaaHx
import Derived.Test.YthokpgnenlfnjaaRv
import Derived.BigQuiet
namespace Go.Proofs.Ythokpgnenlfnjaa
open Go.RowKit Go.Sort
attribute [local go_sem ↓] snd_eql snd_neq
theorem chk_all {xs : List Snd} (h : chk xs = 0) : xs.all vd = true := by
  unfold chk at h
  split at h
  · cases h
  · split at h
    · assumption
    · cases h
theorem chk_in {xs ys : List Snd} (h : chk xs = 0) (hl : ys.length ≤ 32) (hm : ∀ s ∈ ys, s ∈ xs) : chk ys = 0 := by
  have ha := chk_all h
  have hb : ys.all vd = true := by
    rw [List.all_eq_true] at *
    exact fun s hs => ha s (hm s hs)
  unfold chk; rw [if_neg (by omega), if_pos hb]
theorem cut_ok {xs : List Snd} {a b : Nat} (hc : chk xs = 0) (h1 : a ≤ b) (h2 : b ≤ xs.length) : cutE xs a b = 0 ∧ cutS xs a b = sub xs a b := by
  have hp : part xs.length a b = true := by simp [part, h1, h2]
  constructor
  · unfold cutE; rw [if_neg (by simpa using hc), if_pos hp]
  · unfold cutS; rw [if_neg (by simpa using hc), if_pos hp]; rfl
theorem spl_ok {xs ys : List Snd} {a b : Nat} (hc : chk xs = 0) (hd : chk ys = 0) (h1 : a ≤ b) (h2 : b ≤ xs.length) (hl : (spl xs a b ys).length ≤ 32) : splE xs a b ys = 0 ∧ splS xs a b ys = spl xs a b ys := by
  have hp : part xs.length a b = true := by simp [part, h1, h2]
  have hk : ck2 xs ys = 0 := by unfold ck2; rw [if_pos hc, if_pos hd]
  constructor
  · unfold splE; rw [if_neg (by simpa using hk), if_pos hp]; exact if_pos hl
  · unfold splS; rw [if_neg (by simpa using hk), if_pos hp]; exact if_pos hl
theorem parts_all {xs : List Snd} {a b : Nat} (h1 : a ≤ b) (h2 : b ≤ xs.length) : xs.take a ++ (sub xs a b ++ xs.drop b) = xs := by
  have e : xs.drop b = (xs.drop a).drop (b - a) := by rw [List.drop_drop]; congr 1; omega
  unfold sub
  rw [e, List.take_append_drop, List.take_append_drop]
theorem sub_mem {xs : List Snd} {a b : Nat} {s : Snd} (h : s ∈ sub xs a b) : s ∈ xs := List.mem_of_mem_drop (List.mem_of_mem_take h)
theorem revS_ok {xs : List Snd} (h : chk xs = 0) : revS xs = xs.reverse := if_pos h
set_option maxRecDepth 100000 in
set_option maxHeartbeats 8000000 in
theorem back_any (xs : List Snd) (v : Value) (p q : Nat) (hp : p < 256) (hq : q < 256) (w0 : World) (ha : Wd w0 v xs) : Gives 8 #[v, .int .u8 p, .int .u8 q] w0 (.bool true) := by
  unfold Gives
  have DA := Lib.hid ha
  have hCk := fun W (hb : Below w0.heap.size w0 W) => check_any xs v W (ha.below hb)
  obtain ⟨ao, ac, hva, ka, ma, HA⟩ := ha.open
  have l1 := maxLen_lt (Nat.le_trans ka ma)
  have HA := Lib.hid HA
  have hw := Below.refl w0.heap.size w0
  by_cases h1 : xs.length ≤ 100
  · by_cases hc : chk xs = 0
    · rw [hc] at hCk
      have HCk := Lib.hid hCk
      have hc0 := Lib.hid hc
      subst hva
      obtain ⟨A, hA⟩ : ∃ A : Nat, (p : Int) % ((xs.length : Int) + 1) = (A : Int) := ⟨p % (xs.length + 1), by simp⟩
      have hAl : A ≤ xs.length := by have := Int.emod_lt_of_pos (p : Int) (show (0 : Int) < (xs.length : Int) + 1 by omega); omega
      obtain ⟨B, hB⟩ : ∃ B : Nat, (q : Int) % ((xs.length : Int) + 1) = (B : Int) := ⟨q % (xs.length + 1), by simp⟩
      have hBl : B ≤ xs.length := by have := Int.emod_lt_of_pos (q : Int) (show (0 : Int) < (xs.length : Int) + 1 by omega); omega
      have z1 : ¬ ((xs.length : Int) + 1 = 0) := by omega
      have z2 : (((xs.length : Int) + 1) == 0) = false := by rw [Bool.eq_false_iff]; intro e; exact z1 (beq_iff_eq.1 e)
      clear hc hCk ha ka ma
      go_enter Try.func8, Try.ntmps8
      go_wp2_with (go_at_call 24; with_reducible refine Gives.then (HCk.out _ hw) ?_; intro w1 hb; have hw := hw.trans (hb.mono hw.size); clear hb)
      go_quiet (fail)
      have hw1 : Below w0.heap.size w0 (w1.drewN nq) := ⟨hw.os, hw.tape, hw.output, hw.size, hw.block⟩
      clear hw
      generalize w1.drewN nq = wd at *
      have hw := hw1
      clear hw1
      by_cases hab : B < A
      · have hab1 : decide ((B : Int) < (A : Int)) = true := decide_eq_true (by omega)
        have hlh : B ≤ A := by omega
        have hhl : A ≤ xs.length := by omega
        have e1 := cut_ok (a := 0) hc0.out (Nat.zero_le B) (by omega)
        have e2 := cut_ok hc0.out hlh hhl
        have e3 := cut_ok hc0.out hhl (Nat.le_refl _)
        have g1 := fun W (hb : Below w0.heap.size w0 W) => cut_any xs (.slice ao xs.length ac) ((0 : Nat) : Int) (B : Int) W (DA.out.below hb)
        have g2 := fun W (hb : Below w0.heap.size w0 W) => cut_any xs (.slice ao xs.length ac) (B : Int) (A : Int) W (DA.out.below hb)
        have g3 := fun W (hb : Below w0.heap.size w0 W) => cut_any xs (.slice ao xs.length ac) (A : Int) (xs.length : Int) W (DA.out.below hb)
        rw [e1.1, e1.2] at g1
        rw [e2.1, e2.2] at g2
        rw [e3.1, e3.2] at g3
        have n32 := chk_short hc0.out
        have lx : (sub xs 0 B).length = B := by rw [sub_length (by omega)]; omega
        have ly : (sub xs B A).length = A - B := sub_length hhl
        have lz : (sub xs A xs.length).length = xs.length - A := sub_length (Nat.le_refl _)
        have hx : sub xs 0 B = xs.take B := by simp [sub]
        have hz : sub xs A xs.length = xs.drop A := by unfold sub; rw [List.take_of_length_le (by simp)]
        have hall0 := parts_all hlh hhl
        have hall : [] ++ sub xs 0 B ++ sub xs B A ++ sub xs A xs.length = xs := by rw [hx, hz, List.nil_append, List.append_assoc]; exact hall0
        have ckY : chk (sub xs B A) = 0 := chk_in hc0.out (by omega) (fun s hs => sub_mem hs)
        have hG : (spl xs B A []).length = xs.length - (A - B) := by unfold spl; simp; omega
        have s1 := spl_ok (ys := []) hc0.out rfl hlh hhl (by omega)
        have ckG : chk (spl xs B A []) = 0 := chk_in hc0.out (by omega) (fun s hs => by
          unfold spl at hs
          rw [List.nil_append, List.mem_append] at hs
          exact hs.elim List.mem_of_mem_take List.mem_of_mem_drop)
        have hst : spl xs B A (sub xs B A) = xs := hall0
        have hag : spl (spl xs B A []) B B (sub xs B A) = xs := by
          have t1 : (spl xs B A []).take B = xs.take B := by
            unfold spl; rw [List.take_append_of_le_length (by rw [List.length_take]; omega), List.take_of_length_le (by rw [List.length_take]; exact Nat.min_le_left _ _)]
          have t2 : (spl xs B A []).drop B = xs.drop A := by
            unfold spl; rw [List.drop_append, List.drop_of_length_le (by rw [List.length_take]; exact Nat.min_le_left _ _), List.length_take, Nat.min_eq_left (by omega), Nat.sub_self]; simp
          show (spl xs B A []).take B ++ (sub xs B A ++ (spl xs B A []).drop B) = xs
          rw [t1, t2]; exact hall0
        have s2 := spl_ok (xs := spl xs B A []) (a := B) (b := B) ckG ckY (Nat.le_refl _) (by omega) (by rw [hag]; omega)
        have s3 := spl_ok hc0.out ckY hlh hhl (by rw [hst]; omega)
        rw [hag] at s2
        rw [hst] at s3
        have g4 := fun W (hb : Below w0.heap.size w0 W) => splice_any xs [] (.slice ao xs.length ac) (.slice none 0 0) (B : Int) (A : Int) W (DA.out.below hb) (Wd.nil W)
        rw [s1.1, s1.2] at g4
        have g5 := fun W g y (hg : Wd W g (spl xs B A [])) (hy : Wd W y (sub xs B A)) => splice_any (spl xs B A []) (sub xs B A) g y (B : Int) (B : Int) W hg hy
        rw [s2.1, s2.2] at g5
        have g6 := fun W y (hb : Below w0.heap.size w0 W) (hy : Wd W y (sub xs B A)) => splice_any xs (sub xs B A) (.slice ao xs.length ac) y (B : Int) (A : Int) W (DA.out.below hb) hy
        rw [s3.1, s3.2] at g6
        have ckR : chk xs.reverse = 0 := chk_in hc0.out (by rw [List.length_reverse]; omega) (fun s hs => List.mem_reverse.1 hs)
        have g7 := fun W (hb : Below w0.heap.size w0 W) => reverse_any xs (.slice ao xs.length ac) W (DA.out.below hb)
        rw [hc0.out, revS_ok hc0.out] at g7
        have g8 := fun W r (hr : Wd W r xs.reverse) => reverse_any xs.reverse r W hr
        rw [ckR, revS_ok ckR, List.reverse_reverse] at g8
        generalize sub xs 0 B = X at *
        generalize sub xs B A = Y at *
        generalize sub xs A xs.length = Z at *
        generalize spl xs B A [] = G at *
        have G1 := Lib.hid g1; have G2 := Lib.hid g2; have G3 := Lib.hid g3; have G4 := Lib.hid g4; have G5 := Lib.hid g5; have G6 := Lib.hid g6; have G7 := Lib.hid g7; have G8 := Lib.hid g8
        have HAL := Lib.hid hall
        obtain ⟨ny, hny⟩ : ∃ ny, Y.length = ny := ⟨_, rfl⟩
        obtain ⟨ng, hng⟩ : ∃ ng, G.length = ng := ⟨_, rfl⟩
        rw [hny] at ly
        rw [hng] at hG
        have LX := Lib.hid lx; have LY := Lib.hid hny; have LG := Lib.hid hng
        have LZ : Hid (Z.length ≤ 100) := Lib.hid (by omega)
        have LS : Hid (X.length ≤ 100 ∧ Y.length ≤ 100) := Lib.hid ⟨by omega, by omega⟩
        have q1 : ((ny : Int) != (A : Int) - (B : Int)) = false := by rw [Bool.eq_false_iff]; intro e; have := bne_iff_ne.1 e; omega
        have q2 : ((ng : Int) != (xs.length : Int) - (ny : Int)) = false := by rw [Bool.eq_false_iff]; intro e; have := bne_iff_ne.1 e; omega
        have q3 : ny ≤ xs.length := by omega
        clear e1 e2 e3 g1 g2 g3 g4 g5 g6 g7 g8 s1 s2 s3 hall hall0 hx hz lx ly lz hst hag ckY ckG ckR hG hny hng
        go_wp2_with fail
        go_at_call 17
        with_reducible refine MakesE.then (G1.out _ hw) ?_
        intro v_x w_x o_x hb
        have d_x := o_x.wd
        obtain ⟨a_x, c_x, hv, -, -, -⟩ := d_x.open
        rw [LX.out] at hv
        subst hv
        have hw := hw.trans (hb.mono hw.size)
        clear o_x hb
        go_wp2_with fail
        go_at_call 17
        with_reducible refine MakesE.then (G2.out _ hw) ?_
        intro v_y w_y o_y hb
        have d_y := o_y.wd
        obtain ⟨a_y, c_y, hv, -, -, -⟩ := d_y.open
        rw [LY.out] at hv
        subst hv
        have d_x := d_x.below hb
        have hw := hw.trans (hb.mono hw.size)
        clear o_y hb
        go_wp2_with fail
        go_at_call 17
        with_reducible refine MakesE.then (G3.out _ hw) ?_
        intro v_z w_z o_z hb
        have d_z := o_z.wd
        obtain ⟨a_z, c_z, hv, -, -, -⟩ := d_z.open
        subst hv
        have d_x := d_x.below hb
        have d_y := d_y.below hb
        have hw := hw.trans (hb.mono hw.size)
        clear o_z hb
        go_wp2_with (first | (at_builtin; refine wpList_app rfl (.tmp 98) (.tmp 99) 22 Try.underlying22 rfl w_z.heap.size _ _ [] X rfl rfl (Own.empty w_z) (d_x.below ((Below.refl _ w_z).alloc (Nat.le_refl _) _)) (by have h1 := LS.out.1; have h2 := LS.out.2; have h3 := LZ.out; simp only [List.length_append, List.length_nil]; omega) (by rw [World.size_alloc]; omega) ?_; intro v1 w1 ho1 hk1 hz1; have h0 := hk1 _ _ (Nat.le_refl _) ((Below.refl _ w_z).alloc (Nat.le_refl _) (.cells #[] 32)); obtain ⟨ao1, n1, ac1, hv1⟩ := ho1.wd.form; subst hv1; have HO1 := Lib.hid ho1; clear ho1 hk1 hz1) | (at_builtin; refine wpList_app rfl (.tmp 100) (.tmp 101) 22 Try.underlying22 rfl w_z.heap.size _ _ ([] ++ X) Y rfl rfl HO1.out (d_y.below h0) (by have h1 := LS.out.1; have h2 := LS.out.2; have h3 := LZ.out; simp only [List.length_append, List.length_nil]; omega) h0.size ?_; intro v2 w1 ho1 hk1 hz1; have h0 := hk1 _ _ (Nat.le_refl _) h0; obtain ⟨ao2, n2, ac2, hv2⟩ := ho1.wd.form; subst hv2; have HO2 := Lib.hid ho1; clear ho1 hk1 hz1) | (at_builtin; refine wpList_app rfl (.tmp 102) (.tmp 103) 22 Try.underlying22 rfl w_z.heap.size _ _ ([] ++ X ++ Y) Z rfl rfl HO2.out (d_z.below h0) (by have h1 := LS.out.1; have h2 := LS.out.2; have h3 := LZ.out; simp only [List.length_append, List.length_nil]; omega) h0.size ?_; intro v3 w_l ho1 hk1 hz1; have h0 := hk1 _ _ (Nat.le_refl _) h0; obtain ⟨a_l, n_l, c_l, hv3⟩ := ho1.wd.form; subst hv3; have d_l := ho1.wd; rw [HAL.out] at d_l; clear ho1 hk1 hz1))
        have hw := hw.trans (h0.mono hw.size)
        have d_y := d_y.below h0
        clear h0 HO1 HO2 d_x d_z
        go_at_call 19
        with_reducible refine MakesE.then (G4.out _ hw) ?_
        intro v_g w_g o_g hb
        have d_g := o_g.wd
        obtain ⟨a_g, c_g, hv, -, -, -⟩ := d_g.open
        rw [LG.out] at hv
        subst hv
        have d_y := d_y.below hb
        have d_l := d_l.below hb
        have hw := hw.trans (hb.mono hw.size)
        clear o_g hb
        go_wp2_with fail
        go_at_call 19
        with_reducible refine MakesE.then (G5.out _ _ _ d_g d_y) ?_
        intro v_n w_n o_n hb
        have d_n := o_n.wd
        obtain ⟨a_n, c_n, hv, -, -, -⟩ := d_n.open
        subst hv
        have d_y := d_y.below hb
        have d_l := d_l.below hb
        have d_g := d_g.below hb
        have hw := hw.trans (hb.mono hw.size)
        clear o_n hb
        go_wp2_with fail
        go_at_call 19
        with_reducible refine MakesE.then (G6.out _ _ hw d_y) ?_
        intro v_s w_s o_s hb
        have d_s := o_s.wd
        obtain ⟨a_s, c_s, hv, -, -, -⟩ := d_s.open
        subst hv
        have d_y := d_y.below hb
        have d_l := d_l.below hb
        have d_g := d_g.below hb
        have d_n := d_n.below hb
        have hw := hw.trans (hb.mono hw.size)
        clear o_s hb
        go_wp2_with fail
        go_at_call 21
        with_reducible refine GetsE.then (G7.out _ hw) ?_
        intro v_b w_b o_b hb
        have d_b := o_b
        obtain ⟨a_b, c_b, hv, -, -, -⟩ := d_b.open
        rw [List.length_reverse] at hv
        subst hv
        have d_y := d_y.below hb
        have d_l := d_l.below hb
        have d_g := d_g.below hb
        have d_n := d_n.below hb
        have d_s := d_s.below hb
        have hw := hw.trans (hb.mono hw.size)
        clear hb
        go_wp2_with fail
        go_at_call 21
        with_reducible refine GetsE.then (G8.out _ _ d_b) ?_
        intro v_t w o_t hb
        have d_t := o_t
        obtain ⟨a_t, c_t, hv, -, -, -⟩ := d_t.open
        subst hv
        have d_y := d_y.below hb
        have d_l := d_l.below hb
        have d_g := d_g.below hb
        have d_n := d_n.below hb
        have d_s := d_s.below hb
        have d_b := d_b.below hb
        have hw := hw.trans (hb.mono hw.size)
        clear hb
        have da := DA.out.below hw
        clear d_y d_g G1 G2 G3 G4 G5 G6 G7 G8
        obtain ⟨_, _, hvb, -, -, HB⟩ := d_b.open
        rw [List.length_reverse] at hvb
        cases hvb
        obtain ⟨_, _, hva2, -, -, HA2⟩ := da.open
        cases hva2
        have HB := Lib.hid HB; have HA2 := Lib.hid HA2; have hwl := Lib.hid hw
        have D1 := Lib.hid d_l; have D2 := Lib.hid d_n; have D3 := Lib.hid d_s; have D4 := Lib.hid d_t; have D5 := Lib.hid da
        clear d_l d_n d_s d_t d_b da hw HA
        go_wp2_with fail
        go_loopw [26] (fun i wr => ∃ k : Nat, i = .int .i64 (k : Int) ∧ k ≤ xs.length ∧ Below w.heap.size w wr ∧ w.heap.size ≤ wr.heap.size) (fun i _ => xs.length - (intOf i).toNat)
        case atStart => exact ⟨0, rfl, by omega, Below.refl _ _, Nat.le_refl _⟩
        case round =>
          obtain ⟨k, rfl, hk, hw, hsz⟩ := hrel
          by_cases hlt : k < xs.length
          · obtain ⟨b, off, hab, lb, d0, d1⟩ := HB.out k (by rw [List.length_reverse]; exact hlt)
            obtain ⟨b', off', haa, lb', f0, f1⟩ := HA2.out (xs.length - 1 - k) (by omega)
            have er : xs.reverse[k]'(by rw [List.length_reverse]; exact hlt) = xs[xs.length - 1 - k]'(by omega) := List.getElem_reverse _
            rw [er] at d0 d1
            have d0 := (hw.cell (p := ⟨b, off + k * 2, none⟩) lb).trans d0
            have d1 := (hw.cell (p := ⟨b, off + k * 2 + 1, none⟩) lb).trans d1
            have f0 := (hw.cell (p := ⟨b', off' + (xs.length - 1 - k) * 2, none⟩) lb').trans f0
            have f1 := (hw.cell (p := ⟨b', off' + (xs.length - 1 - k) * 2 + 1, none⟩) lb').trans f1
            generalize xs[xs.length - 1 - k]'(by omega) = x at d0 d1 f0 f1
            obtain ⟨x1, x2⟩ := x
            simp only at d0 d1 f0 f1
            have lbr : b < wr.heap.size := by omega
            have lbr' : b' < wr.heap.size := by omega
            cases hab; cases haa
            clear er HB HA2
            go_wp2_with fail
            refine wp_gen ?_
            intro W1 hW1
            have hw1 : Below w.heap.size w W1 := by rw [hW1]; go_grown
            have hz1 : wr.heap.size ≤ W1.heap.size := by rw [hW1]; go_size
            have c0 : W1.cell? ⟨b, off + k * 2, none⟩ = some (.int .u32 x1.toNat) := by rw [hW1]; first | assumption | go_cell | (go_simp; done) | exact cell_past (by first | assumption | omega) (by assumption)
            have c1 : W1.cell? ⟨b, off + k * 2 + 1, none⟩ = some (.int .u32 x2.toNat) := by rw [hW1]; first | assumption | go_cell | (go_simp; done) | exact cell_past (by first | assumption | omega) (by assumption)
            have c2 : W1.cell? ⟨b', off' + (xs.length - 1 - k) * 2, none⟩ = some (.int .u32 x1.toNat) := by rw [hW1]; first | assumption | go_cell | (go_simp; done) | exact cell_past (by first | assumption | omega) (by assumption)
            have c3 : W1.cell? ⟨b', off' + (xs.length - 1 - k) * 2 + 1, none⟩ = some (.int .u32 x2.toNat) := by rw [hW1]; first | assumption | go_cell | (go_simp; done) | exact cell_past (by first | assumption | omega) (by assumption)
            clear hW1
            have k0 := cell_regrown c0
            have k1 := cell_regrown c1
            have k2 := cell_regrown c2
            have k3 := cell_regrown c3
            refine wp_region_quiet_below (by kernel_rfl) (by kernel_rfl) ?_
            try simp only [List.append]
            repeat (go_big_quiet_step (first | exact Calls.regrown_of ()))
            refine wpQuiet_nil ?_
            intro w2 hw2
            have hb : Below W1.heap.size W1 w2 := by obtain ⟨q, rfl⟩ := hw2; exact below_regrown _ _ _
            clear hw2
            clear k0 k1 k2 k3
            have hw := chain hw1 (by omega) hb
            obtain ⟨hc, hf, hz⟩ := bcell hb
            clear hb
            try have r0 : w2.cell? ⟨b, off + k * 2, none⟩ = some (.int .u32 x1.toNat) := (hc _ _ (by omega)).trans c0
            try have r1 : w2.cell? ⟨b, off + k * 2 + 1, none⟩ = some (.int .u32 x2.toNat) := (hc _ _ (by omega)).trans c1
            try have r2 : w2.cell? ⟨b', off' + (xs.length - 1 - k) * 2, none⟩ = some (.int .u32 x1.toNat) := (hc _ _ (by omega)).trans c2
            try have r3 : w2.cell? ⟨b', off' + (xs.length - 1 - k) * 2 + 1, none⟩ = some (.int .u32 x2.toNat) := (hc _ _ (by omega)).trans c3
            go_wp2_with fail
            go_roundw
            case rel => exact ⟨k + 1, by go_num, by omega, hw, hw.size⟩
            case measure => simp [intOf]; omega
          · clear HB HA2
            have HWR := Lib.hid hw
            have h9 := Below.refl wr.heap.size wr
            go_wp2_with (first | (go_at_call 42; with_reducible refine Gives.then (Gives.eq (same_any xs xs _ _ _ ((D1.out.below HWR.out).below h9) ((D5.out.below HWR.out).below h9)) rfl (v' := .bool true) (by simp)) ?_; intro w9 hb; have h9 := h9.trans (hb.mono h9.size); clear hb) | (go_at_call 42; with_reducible refine Gives.then (Gives.eq (same_any xs xs _ _ _ ((D2.out.below HWR.out).below h9) ((D5.out.below HWR.out).below h9)) rfl (v' := .bool true) (by simp)) ?_; intro w9 hb; have h9 := h9.trans (hb.mono h9.size); clear hb) | (go_at_call 42; with_reducible refine Gives.then (Gives.eq (same_any xs xs _ _ _ ((D3.out.below HWR.out).below h9) ((D5.out.below HWR.out).below h9)) rfl (v' := .bool true) (by simp)) ?_; intro w9 hb; have h9 := h9.trans (hb.mono h9.size); clear hb) | (go_at_call 42; with_reducible refine Gives.then (Gives.eq (same_any xs xs _ _ _ ((D4.out.below HWR.out).below h9) ((D5.out.below HWR.out).below h9)) rfl (v' := .bool true) (by simp)) ?_; intro w9 hb; have h9 := h9.trans (hb.mono h9.size); clear hb) | (go_at_call 15; with_reducible refine Gives.then (works_any _) ?_; intro w9 hb; have h9 := h9.trans (hb.mono h9.size); clear hb))
            go_returns
            exact ⟨by first | rfl | (simp; done), hwl.out.trans ((HWR.out.trans (h9.mono HWR.out.size)).mono hwl.out.size)⟩
      · have hab1 : decide ((B : Int) < (A : Int)) = false := decide_eq_false (by omega)
        have hlh : A ≤ B := by omega
        have hhl : B ≤ xs.length := by omega
        have e1 := cut_ok (a := 0) hc0.out (Nat.zero_le A) (by omega)
        have e2 := cut_ok hc0.out hlh hhl
        have e3 := cut_ok hc0.out hhl (Nat.le_refl _)
        have g1 := fun W (hb : Below w0.heap.size w0 W) => cut_any xs (.slice ao xs.length ac) ((0 : Nat) : Int) (A : Int) W (DA.out.below hb)
        have g2 := fun W (hb : Below w0.heap.size w0 W) => cut_any xs (.slice ao xs.length ac) (A : Int) (B : Int) W (DA.out.below hb)
        have g3 := fun W (hb : Below w0.heap.size w0 W) => cut_any xs (.slice ao xs.length ac) (B : Int) (xs.length : Int) W (DA.out.below hb)
        rw [e1.1, e1.2] at g1
        rw [e2.1, e2.2] at g2
        rw [e3.1, e3.2] at g3
        have n32 := chk_short hc0.out
        have lx : (sub xs 0 A).length = A := by rw [sub_length (by omega)]; omega
        have ly : (sub xs A B).length = B - A := sub_length hhl
        have lz : (sub xs B xs.length).length = xs.length - B := sub_length (Nat.le_refl _)
        have hx : sub xs 0 A = xs.take A := by simp [sub]
        have hz : sub xs B xs.length = xs.drop B := by unfold sub; rw [List.take_of_length_le (by simp)]
        have hall0 := parts_all hlh hhl
        have hall : [] ++ sub xs 0 A ++ sub xs A B ++ sub xs B xs.length = xs := by rw [hx, hz, List.nil_append, List.append_assoc]; exact hall0
        have ckY : chk (sub xs A B) = 0 := chk_in hc0.out (by omega) (fun s hs => sub_mem hs)
        have hG : (spl xs A B []).length = xs.length - (B - A) := by unfold spl; simp; omega
        have s1 := spl_ok (ys := []) hc0.out rfl hlh hhl (by omega)
        have ckG : chk (spl xs A B []) = 0 := chk_in hc0.out (by omega) (fun s hs => by
          unfold spl at hs
          rw [List.nil_append, List.mem_append] at hs
          exact hs.elim List.mem_of_mem_take List.mem_of_mem_drop)
        have hst : spl xs A B (sub xs A B) = xs := hall0
        have hag : spl (spl xs A B []) A A (sub xs A B) = xs := by
          have t1 : (spl xs A B []).take A = xs.take A := by
            unfold spl; rw [List.take_append_of_le_length (by rw [List.length_take]; omega), List.take_of_length_le (by rw [List.length_take]; exact Nat.min_le_left _ _)]
          have t2 : (spl xs A B []).drop A = xs.drop B := by
            unfold spl; rw [List.drop_append, List.drop_of_length_le (by rw [List.length_take]; exact Nat.min_le_left _ _), List.length_take, Nat.min_eq_left (by omega), Nat.sub_self]; simp
          show (spl xs A B []).take A ++ (sub xs A B ++ (spl xs A B []).drop A) = xs
          rw [t1, t2]; exact hall0
        have s2 := spl_ok (xs := spl xs A B []) (a := A) (b := A) ckG ckY (Nat.le_refl _) (by omega) (by rw [hag]; omega)
        have s3 := spl_ok hc0.out ckY hlh hhl (by rw [hst]; omega)
        rw [hag] at s2
        rw [hst] at s3
        have g4 := fun W (hb : Below w0.heap.size w0 W) => splice_any xs [] (.slice ao xs.length ac) (.slice none 0 0) (A : Int) (B : Int) W (DA.out.below hb) (Wd.nil W)
        rw [s1.1, s1.2] at g4
        have g5 := fun W g y (hg : Wd W g (spl xs A B [])) (hy : Wd W y (sub xs A B)) => splice_any (spl xs A B []) (sub xs A B) g y (A : Int) (A : Int) W hg hy
        rw [s2.1, s2.2] at g5
        have g6 := fun W y (hb : Below w0.heap.size w0 W) (hy : Wd W y (sub xs A B)) => splice_any xs (sub xs A B) (.slice ao xs.length ac) y (A : Int) (B : Int) W (DA.out.below hb) hy
        rw [s3.1, s3.2] at g6
        have ckR : chk xs.reverse = 0 := chk_in hc0.out (by rw [List.length_reverse]; omega) (fun s hs => List.mem_reverse.1 hs)
        have g7 := fun W (hb : Below w0.heap.size w0 W) => reverse_any xs (.slice ao xs.length ac) W (DA.out.below hb)
        rw [hc0.out, revS_ok hc0.out] at g7
        have g8 := fun W r (hr : Wd W r xs.reverse) => reverse_any xs.reverse r W hr
        rw [ckR, revS_ok ckR, List.reverse_reverse] at g8
        generalize sub xs 0 A = X at *
        generalize sub xs A B = Y at *
        generalize sub xs B xs.length = Z at *
        generalize spl xs A B [] = G at *
        have G1 := Lib.hid g1; have G2 := Lib.hid g2; have G3 := Lib.hid g3; have G4 := Lib.hid g4; have G5 := Lib.hid g5; have G6 := Lib.hid g6; have G7 := Lib.hid g7; have G8 := Lib.hid g8
        have HAL := Lib.hid hall
        obtain ⟨ny, hny⟩ : ∃ ny, Y.length = ny := ⟨_, rfl⟩
        obtain ⟨ng, hng⟩ : ∃ ng, G.length = ng := ⟨_, rfl⟩
        rw [hny] at ly
        rw [hng] at hG
        have LX := Lib.hid lx; have LY := Lib.hid hny; have LG := Lib.hid hng
        have LZ : Hid (Z.length ≤ 100) := Lib.hid (by omega)
        have LS : Hid (X.length ≤ 100 ∧ Y.length ≤ 100) := Lib.hid ⟨by omega, by omega⟩
        have q1 : ((ny : Int) != (B : Int) - (A : Int)) = false := by rw [Bool.eq_false_iff]; intro e; have := bne_iff_ne.1 e; omega
        have q2 : ((ng : Int) != (xs.length : Int) - (ny : Int)) = false := by rw [Bool.eq_false_iff]; intro e; have := bne_iff_ne.1 e; omega
        have q3 : ny ≤ xs.length := by omega
        clear e1 e2 e3 g1 g2 g3 g4 g5 g6 g7 g8 s1 s2 s3 hall hall0 hx hz lx ly lz hst hag ckY ckG ckR hG hny hng
        go_wp2_with fail
        go_at_call 17
        with_reducible refine MakesE.then (G1.out _ hw) ?_
        intro v_x w_x o_x hb
        have d_x := o_x.wd
        obtain ⟨a_x, c_x, hv, -, -, -⟩ := d_x.open
        rw [LX.out] at hv
        subst hv
        have hw := hw.trans (hb.mono hw.size)
        clear o_x hb
        go_wp2_with fail
        go_at_call 17
        with_reducible refine MakesE.then (G2.out _ hw) ?_
        intro v_y w_y o_y hb
        have d_y := o_y.wd
        obtain ⟨a_y, c_y, hv, -, -, -⟩ := d_y.open
        rw [LY.out] at hv
        subst hv
        have d_x := d_x.below hb
        have hw := hw.trans (hb.mono hw.size)
        clear o_y hb
        go_wp2_with fail
        go_at_call 17
        with_reducible refine MakesE.then (G3.out _ hw) ?_
        intro v_z w_z o_z hb
        have d_z := o_z.wd
        obtain ⟨a_z, c_z, hv, -, -, -⟩ := d_z.open
        subst hv
        have d_x := d_x.below hb
        have d_y := d_y.below hb
        have hw := hw.trans (hb.mono hw.size)
        clear o_z hb
        go_wp2_with (first | (at_builtin; refine wpList_app rfl (.tmp 98) (.tmp 99) 22 Try.underlying22 rfl w_z.heap.size _ _ [] X rfl rfl (Own.empty w_z) (d_x.below ((Below.refl _ w_z).alloc (Nat.le_refl _) _)) (by have h1 := LS.out.1; have h2 := LS.out.2; have h3 := LZ.out; simp only [List.length_append, List.length_nil]; omega) (by rw [World.size_alloc]; omega) ?_; intro v1 w1 ho1 hk1 hz1; have h0 := hk1 _ _ (Nat.le_refl _) ((Below.refl _ w_z).alloc (Nat.le_refl _) (.cells #[] 32)); obtain ⟨ao1, n1, ac1, hv1⟩ := ho1.wd.form; subst hv1; have HO1 := Lib.hid ho1; clear ho1 hk1 hz1) | (at_builtin; refine wpList_app rfl (.tmp 100) (.tmp 101) 22 Try.underlying22 rfl w_z.heap.size _ _ ([] ++ X) Y rfl rfl HO1.out (d_y.below h0) (by have h1 := LS.out.1; have h2 := LS.out.2; have h3 := LZ.out; simp only [List.length_append, List.length_nil]; omega) h0.size ?_; intro v2 w1 ho1 hk1 hz1; have h0 := hk1 _ _ (Nat.le_refl _) h0; obtain ⟨ao2, n2, ac2, hv2⟩ := ho1.wd.form; subst hv2; have HO2 := Lib.hid ho1; clear ho1 hk1 hz1) | (at_builtin; refine wpList_app rfl (.tmp 102) (.tmp 103) 22 Try.underlying22 rfl w_z.heap.size _ _ ([] ++ X ++ Y) Z rfl rfl HO2.out (d_z.below h0) (by have h1 := LS.out.1; have h2 := LS.out.2; have h3 := LZ.out; simp only [List.length_append, List.length_nil]; omega) h0.size ?_; intro v3 w_l ho1 hk1 hz1; have h0 := hk1 _ _ (Nat.le_refl _) h0; obtain ⟨a_l, n_l, c_l, hv3⟩ := ho1.wd.form; subst hv3; have d_l := ho1.wd; rw [HAL.out] at d_l; clear ho1 hk1 hz1))
        have hw := hw.trans (h0.mono hw.size)
        have d_y := d_y.below h0
        clear h0 HO1 HO2 d_x d_z
        go_at_call 19
        with_reducible refine MakesE.then (G4.out _ hw) ?_
        intro v_g w_g o_g hb
        have d_g := o_g.wd
        obtain ⟨a_g, c_g, hv, -, -, -⟩ := d_g.open
        rw [LG.out] at hv
        subst hv
        have d_y := d_y.below hb
        have d_l := d_l.below hb
        have hw := hw.trans (hb.mono hw.size)
        clear o_g hb
        go_wp2_with fail
        go_at_call 19
        with_reducible refine MakesE.then (G5.out _ _ _ d_g d_y) ?_
        intro v_n w_n o_n hb
        have d_n := o_n.wd
        obtain ⟨a_n, c_n, hv, -, -, -⟩ := d_n.open
        subst hv
        have d_y := d_y.below hb
        have d_l := d_l.below hb
        have d_g := d_g.below hb
        have hw := hw.trans (hb.mono hw.size)
        clear o_n hb
        go_wp2_with fail
        go_at_call 19
        with_reducible refine MakesE.then (G6.out _ _ hw d_y) ?_
        intro v_s w_s o_s hb
        have d_s := o_s.wd
        obtain ⟨a_s, c_s, hv, -, -, -⟩ := d_s.open
        subst hv
        have d_y := d_y.below hb
        have d_l := d_l.below hb
        have d_g := d_g.below hb
        have d_n := d_n.below hb
        have hw := hw.trans (hb.mono hw.size)
        clear o_s hb
        go_wp2_with fail
        go_at_call 21
        with_reducible refine GetsE.then (G7.out _ hw) ?_
        intro v_b w_b o_b hb
        have d_b := o_b
        obtain ⟨a_b, c_b, hv, -, -, -⟩ := d_b.open
        rw [List.length_reverse] at hv
        subst hv
        have d_y := d_y.below hb
        have d_l := d_l.below hb
        have d_g := d_g.below hb
        have d_n := d_n.below hb
        have d_s := d_s.below hb
        have hw := hw.trans (hb.mono hw.size)
        clear hb
        go_wp2_with fail
        go_at_call 21
        with_reducible refine GetsE.then (G8.out _ _ d_b) ?_
        intro v_t w o_t hb
        have d_t := o_t
        obtain ⟨a_t, c_t, hv, -, -, -⟩ := d_t.open
        subst hv
        have d_y := d_y.below hb
        have d_l := d_l.below hb
        have d_g := d_g.below hb
        have d_n := d_n.below hb
        have d_s := d_s.below hb
        have d_b := d_b.below hb
        have hw := hw.trans (hb.mono hw.size)
        clear hb
        have da := DA.out.below hw
        clear d_y d_g G1 G2 G3 G4 G5 G6 G7 G8
        obtain ⟨_, _, hvb, -, -, HB⟩ := d_b.open
        rw [List.length_reverse] at hvb
        cases hvb
        obtain ⟨_, _, hva2, -, -, HA2⟩ := da.open
        cases hva2
        have HB := Lib.hid HB; have HA2 := Lib.hid HA2; have hwl := Lib.hid hw
        have D1 := Lib.hid d_l; have D2 := Lib.hid d_n; have D3 := Lib.hid d_s; have D4 := Lib.hid d_t; have D5 := Lib.hid da
        clear d_l d_n d_s d_t d_b da hw HA
        go_wp2_with fail
        go_loopw [26] (fun i wr => ∃ k : Nat, i = .int .i64 (k : Int) ∧ k ≤ xs.length ∧ Below w.heap.size w wr ∧ w.heap.size ≤ wr.heap.size) (fun i _ => xs.length - (intOf i).toNat)
        case atStart => exact ⟨0, rfl, by omega, Below.refl _ _, Nat.le_refl _⟩
        case round =>
          obtain ⟨k, rfl, hk, hw, hsz⟩ := hrel
          by_cases hlt : k < xs.length
          · obtain ⟨b, off, hab, lb, d0, d1⟩ := HB.out k (by rw [List.length_reverse]; exact hlt)
            obtain ⟨b', off', haa, lb', f0, f1⟩ := HA2.out (xs.length - 1 - k) (by omega)
            have er : xs.reverse[k]'(by rw [List.length_reverse]; exact hlt) = xs[xs.length - 1 - k]'(by omega) := List.getElem_reverse _
            rw [er] at d0 d1
            have d0 := (hw.cell (p := ⟨b, off + k * 2, none⟩) lb).trans d0
            have d1 := (hw.cell (p := ⟨b, off + k * 2 + 1, none⟩) lb).trans d1
            have f0 := (hw.cell (p := ⟨b', off' + (xs.length - 1 - k) * 2, none⟩) lb').trans f0
            have f1 := (hw.cell (p := ⟨b', off' + (xs.length - 1 - k) * 2 + 1, none⟩) lb').trans f1
            generalize xs[xs.length - 1 - k]'(by omega) = x at d0 d1 f0 f1
            obtain ⟨x1, x2⟩ := x
            simp only at d0 d1 f0 f1
            have lbr : b < wr.heap.size := by omega
            have lbr' : b' < wr.heap.size := by omega
            cases hab; cases haa
            clear er HB HA2
            go_wp2_with fail
            refine wp_gen ?_
            intro W1 hW1
            have hw1 : Below w.heap.size w W1 := by rw [hW1]; go_grown
            have hz1 : wr.heap.size ≤ W1.heap.size := by rw [hW1]; go_size
            have c0 : W1.cell? ⟨b, off + k * 2, none⟩ = some (.int .u32 x1.toNat) := by rw [hW1]; first | assumption | go_cell | (go_simp; done) | exact cell_past (by first | assumption | omega) (by assumption)
            have c1 : W1.cell? ⟨b, off + k * 2 + 1, none⟩ = some (.int .u32 x2.toNat) := by rw [hW1]; first | assumption | go_cell | (go_simp; done) | exact cell_past (by first | assumption | omega) (by assumption)
            have c2 : W1.cell? ⟨b', off' + (xs.length - 1 - k) * 2, none⟩ = some (.int .u32 x1.toNat) := by rw [hW1]; first | assumption | go_cell | (go_simp; done) | exact cell_past (by first | assumption | omega) (by assumption)
            have c3 : W1.cell? ⟨b', off' + (xs.length - 1 - k) * 2 + 1, none⟩ = some (.int .u32 x2.toNat) := by rw [hW1]; first | assumption | go_cell | (go_simp; done) | exact cell_past (by first | assumption | omega) (by assumption)
            clear hW1
            have k0 := cell_regrown c0
            have k1 := cell_regrown c1
            have k2 := cell_regrown c2
            have k3 := cell_regrown c3
            refine wp_region_quiet_below (by kernel_rfl) (by kernel_rfl) ?_
            try simp only [List.append]
            repeat (go_big_quiet_step (first | exact Calls.regrown_of ()))
            refine wpQuiet_nil ?_
            intro w2 hw2
            have hb : Below W1.heap.size W1 w2 := by obtain ⟨q, rfl⟩ := hw2; exact below_regrown _ _ _
            clear hw2
            clear k0 k1 k2 k3
            have hw := chain hw1 (by omega) hb
            obtain ⟨hc, hf, hz⟩ := bcell hb
            clear hb
            try have r0 : w2.cell? ⟨b, off + k * 2, none⟩ = some (.int .u32 x1.toNat) := (hc _ _ (by omega)).trans c0
            try have r1 : w2.cell? ⟨b, off + k * 2 + 1, none⟩ = some (.int .u32 x2.toNat) := (hc _ _ (by omega)).trans c1
            try have r2 : w2.cell? ⟨b', off' + (xs.length - 1 - k) * 2, none⟩ = some (.int .u32 x1.toNat) := (hc _ _ (by omega)).trans c2
            try have r3 : w2.cell? ⟨b', off' + (xs.length - 1 - k) * 2 + 1, none⟩ = some (.int .u32 x2.toNat) := (hc _ _ (by omega)).trans c3
            go_wp2_with fail
            go_roundw
            case rel => exact ⟨k + 1, by go_num, by omega, hw, hw.size⟩
            case measure => simp [intOf]; omega
          · clear HB HA2
            have HWR := Lib.hid hw
            have h9 := Below.refl wr.heap.size wr
            go_wp2_with (first | (go_at_call 42; with_reducible refine Gives.then (Gives.eq (same_any xs xs _ _ _ ((D1.out.below HWR.out).below h9) ((D5.out.below HWR.out).below h9)) rfl (v' := .bool true) (by simp)) ?_; intro w9 hb; have h9 := h9.trans (hb.mono h9.size); clear hb) | (go_at_call 42; with_reducible refine Gives.then (Gives.eq (same_any xs xs _ _ _ ((D2.out.below HWR.out).below h9) ((D5.out.below HWR.out).below h9)) rfl (v' := .bool true) (by simp)) ?_; intro w9 hb; have h9 := h9.trans (hb.mono h9.size); clear hb) | (go_at_call 42; with_reducible refine Gives.then (Gives.eq (same_any xs xs _ _ _ ((D3.out.below HWR.out).below h9) ((D5.out.below HWR.out).below h9)) rfl (v' := .bool true) (by simp)) ?_; intro w9 hb; have h9 := h9.trans (hb.mono h9.size); clear hb) | (go_at_call 42; with_reducible refine Gives.then (Gives.eq (same_any xs xs _ _ _ ((D4.out.below HWR.out).below h9) ((D5.out.below HWR.out).below h9)) rfl (v' := .bool true) (by simp)) ?_; intro w9 hb; have h9 := h9.trans (hb.mono h9.size); clear hb) | (go_at_call 15; with_reducible refine Gives.then (works_any _) ?_; intro w9 hb; have h9 := h9.trans (hb.mono h9.size); clear hb))
            go_returns
            exact ⟨by first | rfl | (simp; done), hwl.out.trans ((HWR.out.trans (h9.mono HWR.out.size)).mono hwl.out.size)⟩
    · generalize chk xs = c at *
      have hc1 : (c == 0) = false := by simpa using hc
      have hc2 : (c != 0) = true := by simpa using hc
      have HCk := Lib.hid hCk
      subst hva
      clear hCk hc ha ka ma HA
      go_enter Try.func8, Try.ntmps8
      go_wp2_with (first | (go_at_call 24; with_reducible refine Gives.then (HCk.out _ hw) ?_; intro w1 hb; have hw := hw.trans (hb.mono hw.size); clear hb) | (go_at_call 15; with_reducible refine Gives.then (works_any _) ?_; intro w1 hb; have hw := hw.trans (hb.mono hw.size); clear hb))
      go_returns
      exact ⟨rfl, hw⟩
  · subst hva
    clear ha ka ma HA hCk
    go_enter Try.func8, Try.ntmps8
    go_wp2_with (go_at_call 15; with_reducible refine Gives.then (works_any _) ?_; intro w1 hb; have hw := hw.trans (hb.mono hw.size); clear hb)
    go_returns
    exact ⟨rfl, hw⟩
end Go.Proofs.Ythokpgnenlfnjaa
