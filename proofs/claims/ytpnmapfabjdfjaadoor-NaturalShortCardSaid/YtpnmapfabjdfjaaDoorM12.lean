/-
  Lemmas that the theorem of this claim rests on: 1 texts, one behind the other.
-/
import Derived.Test.YtpnmapfabjdfjaaDoorM9
set_option linter.unusedSimpArgs false
set_option linter.unusedVariables false

/-
  swaps of package natural.
-/
namespace Go.Proofs.YtpnmapfabjdfjaaDoor
open Go.RowKit Go.Sort
/-- The feature in which two sounds differ. -/
def feN (x y : Snd) : Nat := (lonF (dif x y)).1
def swp (x y : Snd) : Sw := ((feN x y : Int), getV x.1 x.2 (feN x y), getV y.1 y.2 (feN x y))
def swq (x y : Snd) : Sw := ((feN x y : Int), getV y.1 y.2 (feN x y), getV x.1 x.2 (feN x y))
/-- The exchanges that some pairs show. -/
def swS (l : List Snd) (ps : List (Nat × Nat)) : List Sw := ps.foldl (fun ks p => addK (addK ks (swp (l.getD p.1 zs) (l.getD p.2 zs))) (swq (l.getD p.1 zs) (l.getD p.2 zs))) []
theorem swS_snoc (l : List Snd) (ps : List (Nat × Nat)) (p : Nat × Nat) : swS l (ps ++ [p]) = addK (addK (swS l ps) (swp (l.getD p.1 zs) (l.getD p.2 zs))) (swq (l.getD p.1 zs) (l.getD p.2 zs)) := by unfold swS; rw [List.foldl_append]; rfl
theorem addK_mem {K : Type} [DecidableEq K] {ks : List K} {k x : K} : x ∈ addK ks k ↔ x ∈ ks ∨ x = k := by
  unfold addK
  split
  · constructor
    · exact .inl
    · rintro (h | rfl)
      · exact h
      · assumption
  · simp
theorem addK_nodup {K : Type} [DecidableEq K] {ks : List K} {k : K} (h : ks.Nodup) : (addK ks k).Nodup := by
  unfold addK
  split
  · exact h
  · rename_i hk
    rw [List.nodup_append]
    exact ⟨h, by simp, fun x hx y hy => by rw [List.mem_singleton] at hy; subst hy; exact fun e => hk (e ▸ hx)⟩
theorem swS_nodup (l : List Snd) (ps : List (Nat × Nat)) : (swS l ps).Nodup := by
  unfold swS
  have : ∀ (ps : List (Nat × Nat)) (ks : List Sw), ks.Nodup → (ps.foldl (fun ks p => addK (addK ks (swp (l.getD p.1 zs) (l.getD p.2 zs))) (swq (l.getD p.1 zs) (l.getD p.2 zs))) ks).Nodup := by
    intro ps
    induction ps with
    | nil => exact fun ks h => h
    | cons p ps ih => exact fun ks h => ih _ (addK_nodup (addK_nodup h))
  exact this ps [] List.nodup_nil
theorem swS_mem (l : List Snd) (x : Sw) : ∀ (ps : List (Nat × Nat)), x ∈ swS l ps ↔ ∃ p ∈ ps, x = swp (l.getD p.1 zs) (l.getD p.2 zs) ∨ x = swq (l.getD p.1 zs) (l.getD p.2 zs) := by
  intro ps
  rw [← List.reverse_reverse ps]
  induction ps.reverse with
  | nil => simp [swS]
  | cons p qs ih =>
    rw [List.reverse_cons, swS_snoc, addK_mem, addK_mem, ih]
    simp only [List.mem_append, List.mem_singleton]
    constructor
    · rintro ((⟨q, hq, h⟩ | h) | h)
      · exact ⟨q, .inl hq, h⟩
      · exact ⟨p, .inr rfl, .inl h⟩
      · exact ⟨p, .inr rfl, .inr h⟩
    · rintro ⟨q, hq | rfl, h⟩
      · exact .inl (.inl ⟨q, hq, h⟩)
      · rcases h with h | h
        · exact .inl (.inr h)
        · exact .inr h
theorem prs_len (l : List Snd) : (prs l).length ≤ l.length * l.length := outP_len l l.length
theorem gv_get (x : Snd) (k : Nat) (h : vld x.1 x.2 = true) (hk : k < 24) (w : World) : Gives 37 #[.agg #[.int .u32 (x.1.toNat : Int), .int .u32 (x.2.toNat : Int)], .int .i64 (k : Int)] w (.int .i64 (getV x.1 x.2 k)) := get_ok x.1 x.2 k h hk w
theorem then_gen {K : Act → World → Prop} {S : Exit → Act → World → Prop} {e : Exit} {a : Act} {W : World} (h : ∀ W1, W1 = W → Exit.then K S e a W1) : Exit.then K S e a W := h W rfl
theorem two_boxes (w8 : World) (A B : Array Value) (T : TypeId) : (((w8.alloc (.cells A T)).alloc (.cells B T)).drew).heap[w8.heap.size]? = some (.cells A T) ∧ (((w8.alloc (.cells A T)).alloc (.cells B T)).drew).heap[w8.heap.size + 1]? = some (.cells B T) ∧ Below w8.heap.size w8 (((w8.alloc (.cells A T)).alloc (.cells B T)).drew) := by
  refine ⟨(((Below.refl _ (w8.alloc (.cells A T))).alloc (Nat.le_refl _) (.cells B T)).block w8.heap.size (by rw [World.size_alloc]; omega)).trans (World.alloc_heap_new w8 (.cells A T)), ?_, (((Below.refl w8.heap.size w8).alloc (Nat.le_refl _) _).alloc (by rw [World.size_alloc]; omega) _).drew⟩
  have h := World.alloc_heap_new (w8.alloc (.cells A T)) (.cells B T)
  rw [World.size_alloc] at h
  exact h
set_option maxRecDepth 100000 in
set_option maxHeartbeats 8000000 in
theorem swaps_any (l : List Snd) (v u : Value) (w : World) (h : Wd w v l) (hu : Ps w u (prs l)) (hv : ∀ s ∈ l, vld s.1 s.2 = true) (hl : l.length ≤ 256) (hT : Tab w) (lT : 0 < w.heap.size) :
    Calls Tryd.prog 62 #[v, u] w fun e w' => ∃ b, e = .returned (.map (some b)) ∧ KMap swv w' b (swS l (prs l)) ∧ Below w.heap.size w w' := by
  have hmm := @run_makeMap Tryd.prog
  obtain ⟨ao, cap, rfl, c1, m1, hc⟩ := h.open
  obtain ⟨po, pc, rfl, pc1, pm1, hp⟩ := hu.open
  have hin : ∀ x ∈ prs l, x.1 < l.length ∧ x.2 < l.length := fun x hx => prs_mem hx
  have hone : ∀ x ∈ prs l, one (l.getD x.1 zs) (l.getD x.2 zs) = true := fun x hx => prs_one hx
  have hML := prs_len l
  clear hu
  generalize prs l = PR at *
  obtain ⟨N, hN⟩ : ∃ N, l.length = N := ⟨_, rfl⟩
  obtain ⟨M, hM⟩ : ∃ M, PR.length = M := ⟨_, rfl⟩
  rw [hN] at c1 hML hl
  rw [hM] at pc1 hML
  have hM2 : M ≤ 65536 := Nat.le_trans hML (Nat.mul_le_mul hl hl)
  have HC := Lib.hid hc; have HP := Lib.hid hp; have HIN := Lib.hid hin; have HONE := Lib.hid hone; have HV := Lib.hid hv; have HT := Lib.hid hT; have HLT := Lib.hid lT; have HN := Lib.hid hN; have HM := Lib.hid hM
  clear hc hp hin hone hv hT lT hN hM h hML m1 pm1
  rw [HN.out, HM.out]
  have hK0 : KMap swv (w.alloc (.map #[] 0)) w.heap.size (swS l (PR.take 0)) := KMap.new w
  have HK0 := Lib.hid hK0
  have HB0 := Lib.hid ((Below.refl w.heap.size w).alloc (Nat.le_refl _) (.map #[] 0))
  clear hK0
  go_enter Tryd.func62, Tryd.ntmps62
  go_wp2_with fail
  generalize (w.alloc (.map #[] 0)) = w2 at *
  go_loopw [16] (fun i wr => ∃ k : Nat, k ≤ M ∧ i = .int .i64 (k : Int) ∧ KMap swv wr w.heap.size (swS l (PR.take k)) ∧ Below w.heap.size w wr) (fun i _ => M - (intOf i).toNat)
  case atStart => exact ⟨0, by omega, rfl, HK0.out, HB0.out⟩
  case round =>
    obtain ⟨k, hk, rfl, hkm, hw⟩ := hrel
    by_cases hlt : k < M
    · have hkl : k < PR.length := by rw [HM.out]; exact hlt
      obtain ⟨b, hao, lb, d0, d1⟩ := HP.out k hkl
      subst hao
      have d0 := (hw.cell (p := ⟨b, _, none⟩) lb).trans d0
      have d1 := (hw.cell (p := ⟨b, _, none⟩) lb).trans d1
      have hsn := swS_snoc l (PR.take k) PR[k]
      rw [← List.take_succ_eq_append_getElem hkl] at hsn
      obtain ⟨hi, hj⟩ := HIN.out PR[k] (List.getElem_mem hkl)
      have hon := HONE.out PR[k] (List.getElem_mem hkl)
      generalize PR[k] = x at *
      obtain ⟨i, j⟩ := x
      simp only at d0 d1 hsn hi hj hon
      have hid : l.getD i zs = l[i] := by simp [List.getD, List.getElem?_eq_getElem hi]
      have hjd : l.getD j zs = l[j] := by simp [List.getD, List.getElem?_eq_getElem hj]
      rw [hid, hjd] at hsn hon
      obtain ⟨b2, off, hao2, lb2, p0, p1⟩ := HC.out i hi
      subst hao2
      obtain ⟨b3, off3, hao3, _, q0, q1⟩ := HC.out j hj
      cases hao3
      have p0 := (hw.cell (p := ⟨b2, _, none⟩) lb2).trans p0
      have p1 := (hw.cell (p := ⟨b2, _, none⟩) lb2).trans p1
      have q0 := (hw.cell (p := ⟨b2, _, none⟩) lb2).trans q0
      have q1 := (hw.cell (p := ⟨b2, _, none⟩) lb2).trans q1
      have hxv := HV.out l[i] (List.getElem_mem hi)
      have hyv := HV.out l[j] (List.getElem_mem hj)
      have hdf := gv_dif l[i] l[j] hxv hyv
      obtain ⟨hk24, hsh⟩ := lon_val (dif_lt hxv hyv) (of_decide_eq_true hon)
      have hfe : feN l[i] l[j] = (lonF (dif l[i] l[j])).1 := rfl
      rw [← hfe] at hk24 hsh
      unfold swp swq at hsn
      rw [hsh] at hdf
      have htz := fun W (hW : Below w.heap.size w W) => tz_pow (feN l[i] l[j]) hk24 W (HT.out.below hW HLT.out)
      have hg1 := gv_get l[i] (feN l[i] l[j]) hxv hk24
      have hg2 := gv_get l[j] (feN l[i] l[j]) hyv hk24
      have lb5 := Nat.lt_of_lt_of_le lb2 hw.size
      generalize feN l[i] l[j] = fe at *
      generalize getV l[i].1 l[i].2 fe = ga at *
      generalize getV l[j].1 l[j].2 fe = gb at *
      clear hsh hon hfe hid hjd hxv hyv
      generalize l[i] = x at *
      generalize l[j] = y at *
      obtain ⟨xp, xm⟩ := x
      obtain ⟨yp, ym⟩ := y
      simp only at p0 p1 q0 q1 hdf hg1 hg2
      have hi3 : (i : Int) < (N : Int) := by rw [HN.out] at hi; omega
      have hj3 : (j : Int) < (N : Int) := by rw [HN.out] at hj; omega
      have hi4 : i < N := by omega
      have hj4 : j < N := by omega
      generalize (1#32 <<< fe).toNat = sh at *
      have k8 := World.alloc_heap_new wr (.cells #[.int .i64 (i : Int), .int .i64 (j : Int)] 44)
      have hw8 := hw.alloc hw.size (.cells #[.int .i64 (i : Int), .int .i64 (j : Int)] 44)
      have t0 := cell_block k8 (o := 0) rfl
      have t1 := cell_block k8 (o := 1) rfl
      have r0 := cell_past (X := (.cells #[.int .i64 (i : Int), .int .i64 (j : Int)] 44)) lb5 p0
      have r1 := cell_past (X := (.cells #[.int .i64 (i : Int), .int .i64 (j : Int)] 44)) lb5 p1
      have s0 := cell_past (X := (.cells #[.int .i64 (i : Int), .int .i64 (j : Int)] 44)) lb5 q0
      have s1 := cell_past (X := (.cells #[.int .i64 (i : Int), .int .i64 (j : Int)] 44)) lb5 q1
      have hkm8 := hkm.below ((Below.refl wr.heap.size wr).alloc (Nat.le_refl _) (.cells #[.int .i64 (i : Int), .int .i64 (j : Int)] 44))
      have zB : wr.heap.size < (wr.alloc (.cells #[.int .i64 (i : Int), .int .i64 (j : Int)] 44)).heap.size := by rw [World.size_alloc]; omega
      have lb6 : b2 < (wr.alloc (.cells #[.int .i64 (i : Int), .int .i64 (j : Int)] 44)).heap.size := by rw [World.size_alloc]; omega
      have HSN := Lib.hid hsn; have HDF := Lib.hid hdf; have HTZ := Lib.hid htz; have HG1 := Lib.hid hg1; have HG2 := Lib.hid hg2; have HW8 := Lib.hid hw8; have HK8 := Lib.hid hkm8
      generalize hSw : swS l (PR.take k) = ks at *
      clear hsn hdf htz hg1 hg2 hw8 hkm8 hkm hw k8 p0 p1 q0 q1 HC HK0 HB0 lb5
      go_wp2_with fail
      generalize wr.heap.size = B8 at *
      generalize (wr.alloc (.cells #[.int .i64 (i : Int), .int .i64 (j : Int)] 44)) = w8 at *
      have hz8 := HW8.out.size
      have t0a := cell_past (X := (.cells #[.int .u32 0, .int .u32 0] 27)) zB t0
      have t1a := cell_past (X := (.cells #[.int .u32 0, .int .u32 0] 27)) zB t1
      have r0a := cell_past (X := (.cells #[.int .u32 0, .int .u32 0] 27)) lb6 r0
      have r1a := cell_past (X := (.cells #[.int .u32 0, .int .u32 0] 27)) lb6 r1
      have s0a := cell_past (X := (.cells #[.int .u32 0, .int .u32 0] 27)) lb6 s0
      have s1a := cell_past (X := (.cells #[.int .u32 0, .int .u32 0] 27)) lb6 s1
      have zBa : B8 < (w8.alloc (.cells #[.int .u32 0, .int .u32 0] 27)).heap.size := by rw [World.size_alloc]; omega
      have lb6a : b2 < (w8.alloc (.cells #[.int .u32 0, .int .u32 0] 27)).heap.size := by rw [World.size_alloc]; omega
      have t0b := cell_past (X := (.cells #[.int .u32 0, .int .u32 0] 27)) zBa t0a
      have t1b := cell_past (X := (.cells #[.int .u32 0, .int .u32 0] 27)) zBa t1a
      have r0b := cell_past (X := (.cells #[.int .u32 0, .int .u32 0] 27)) lb6a r0a
      have r1b := cell_past (X := (.cells #[.int .u32 0, .int .u32 0] 27)) lb6a r1a
      have s0b := cell_past (X := (.cells #[.int .u32 0, .int .u32 0] 27)) lb6a s0a
      have s1b := cell_past (X := (.cells #[.int .u32 0, .int .u32 0] 27)) lb6a s1a
      have nB : B8 < w8.heap.size := zB
      have nb : b2 < w8.heap.size := lb6
      clear zBa lb6a
      go_region
      all_goals clear t0 t1 t0a t1a t0b t1b r0a r1a s0a s1a r0b r1b s0b s1b r0 r1 s0 s1 nB nb zB lb6 p0 p1 q0 q1 d0 d1
      all_goals (
        first
          | (refine then_gen (W := ((w8.alloc (.cells #[.int .u32 (xp.toNat : Int), .int .u32 (xm.toNat : Int)] 27)).alloc (.cells #[.int .u32 (yp.toNat : Int), .int .u32 (ym.toNat : Int)] 27)).drew) ?_; intro w9 hw9; obtain ⟨kx, ky, hb9⟩ := two_boxes w8 #[.int .u32 (xp.toNat : Int), .int .u32 (xm.toNat : Int)] #[.int .u32 (yp.toNat : Int), .int .u32 (ym.toNat : Int)] 27; rw [← hw9] at kx ky hb9; clear hw9; have HW9 := Lib.hid (HW8.out.trans (hb9.mono HW8.out.size)); have HK9 := Lib.hid (HK8.out.below hb9); clear hb9 HW8 HK8 hz8; generalize w8.heap.size + 1 = bz at *; generalize w8.heap.size = bx at *)
          | (refine then_gen (W := ((w8.alloc (.cells #[.int .u32 (yp.toNat : Int), .int .u32 (ym.toNat : Int)] 27)).alloc (.cells #[.int .u32 (xp.toNat : Int), .int .u32 (xm.toNat : Int)] 27)).drew) ?_; intro w9 hw9; obtain ⟨ky, kx, hb9⟩ := two_boxes w8 #[.int .u32 (yp.toNat : Int), .int .u32 (ym.toNat : Int)] #[.int .u32 (xp.toNat : Int), .int .u32 (xm.toNat : Int)] 27; rw [← hw9] at kx ky hb9; clear hw9; have HW9 := Lib.hid (HW8.out.trans (hb9.mono HW8.out.size)); have HK9 := Lib.hid (HK8.out.below hb9); clear hb9 HW8 HK8 hz8; generalize w8.heap.size + 1 = bx at *; generalize w8.heap.size = bz at *)

        have x0 : w9.cell? ⟨bx, 0, none⟩ = some (.int .u32 (xp.toNat : Int)) := cell_block kx rfl
        have x1 : w9.cell? ⟨bx, 1, none⟩ = some (.int .u32 (xm.toNat : Int)) := cell_block kx rfl
        have y0 : w9.cell? ⟨bz, 0, none⟩ = some (.int .u32 (yp.toNat : Int)) := cell_block ky rfl
        have y1 : w9.cell? ⟨bz, 1, none⟩ = some (.int .u32 (ym.toNat : Int)) := cell_block ky rfl
        have zx := (Array.getElem?_eq_some_iff.1 kx).1
        have zy := (Array.getElem?_eq_some_iff.1 ky).1
        clear kx ky
        go_wp2_with fail
        go_at_call 39
        refine Gives.then (HDF.out _) ?_
        intro w10 hb10
        have HW10 := Lib.hid (HW9.out.trans (hb10.mono HW9.out.size)); have HK10 := Lib.hid (HK9.out.below hb10)
        replace x0 := (hb10.cell (p := ⟨_, _, none⟩) zx).trans x0
        replace x1 := (hb10.cell (p := ⟨_, _, none⟩) zx).trans x1
        replace y0 := (hb10.cell (p := ⟨_, _, none⟩) zy).trans y0
        replace y1 := (hb10.cell (p := ⟨_, _, none⟩) zy).trans y1
        replace zx := Nat.lt_of_lt_of_le zx hb10.size
        replace zy := Nat.lt_of_lt_of_le zy hb10.size
        clear hb10 HW9 HK9 HDF
        go_wp2_with fail
        go_at_call 93
        refine Gives.then (HTZ.out _ HW10.out) ?_
        intro w11 hb11
        have HW11 := Lib.hid (HW10.out.trans (hb11.mono HW10.out.size)); have HK11 := Lib.hid (HK10.out.below hb11)
        replace x0 := (hb11.cell (p := ⟨_, _, none⟩) zx).trans x0
        replace x1 := (hb11.cell (p := ⟨_, _, none⟩) zx).trans x1
        replace y0 := (hb11.cell (p := ⟨_, _, none⟩) zy).trans y0
        replace y1 := (hb11.cell (p := ⟨_, _, none⟩) zy).trans y1
        replace zx := Nat.lt_of_lt_of_le zx hb11.size
        replace zy := Nat.lt_of_lt_of_le zy hb11.size
        clear hb11 HW10 HK10 HTZ
        go_wp2_with fail
        have hB0 : Below w11.heap.size w11 w11.drew := Below.drew (Below.refl _ _)
        have KK : Hid (∀ W : World, Below w11.heap.size w11 W → (W.cell? ⟨bx, 0, none⟩ = some (.int .u32 (xp.toNat : Int)) ∧ W.cell? ⟨bx, 1, none⟩ = some (.int .u32 (xm.toNat : Int))) ∧ W.cell? ⟨bz, 0, none⟩ = some (.int .u32 (yp.toNat : Int)) ∧ W.cell? ⟨bz, 1, none⟩ = some (.int .u32 (ym.toNat : Int))) := Lib.hid (fun W hW => ⟨⟨(hW.cell (p := ⟨bx, _, none⟩) zx).trans x0, (hW.cell (p := ⟨bx, _, none⟩) zx).trans x1⟩, (hW.cell (p := ⟨bz, _, none⟩) zy).trans y0, (hW.cell (p := ⟨bz, _, none⟩) zy).trans y1⟩)
        clear x0 x1 y0 y1
        go_region_held3 (fun W => (W.cell? ⟨bx, 0, none⟩ = some (.int .u32 (xp.toNat : Int)) ∧ W.cell? ⟨bx, 1, none⟩ = some (.int .u32 (xm.toNat : Int))) ∧ W.cell? ⟨bz, 0, none⟩ = some (.int .u32 (yp.toNat : Int)) ∧ W.cell? ⟨bz, 1, none⟩ = some (.int .u32 (ym.toNat : Int)))
          (first | exact KK.out _ hB2 | exact KK.out _ hB1 | exact KK.out _ hB0)
          (first
            | (go_at_call 37; (with_reducible refine Gives.then (HG1.out _) ?_); intro w12 hb12; first | (have hB1 : Below w11.heap.size w11 w12 := hB0.trans (hb12.mono hB0.size)) | (have hB2 : Below w11.heap.size w11 w12 := hB1.trans (hb12.mono hB1.size)))
            | (go_at_call 37; (with_reducible refine Gives.then (HG2.out _) ?_); intro w12 hb12; first | (have hB1 : Below w11.heap.size w11 w12 := hB0.trans (hb12.mono hB0.size)) | (have hB2 : Below w11.heap.size w11 w12 := hB1.trans (hb12.mono hB1.size))))
        all_goals (
          have HW13 := Lib.hid (HW11.out.trans (hB2.mono HW11.out.size)); have HK13 := Lib.hid (HK11.out.below hB2)
          clear hB0 hB1 hB2 KK HW11 HK11 HG1 HG2 hb12 zx zy
          obtain ⟨_, SK⟩ := swap_key
          go_wp2_with (first
            | (at_mapUpdate; refine wpList_update_k SK rfl (.tmp 40) (.tmp 44) (.const (.bool true)) 84 rfl Tryd.underlying84 w.heap.size ks ((fe : Int), ga, gb) rfl rfl rfl HK13.out ?_; intro w14 hk14 hg14; have HK14 := Lib.hid hk14; have HW14 := Lib.hid (HW13.out.grown hg14 HW13.out.size (fun q e => by cases e; exact Nat.le_refl _)); clear hk14 hg14)
            | (at_mapUpdate; refine wpList_update_k SK rfl (.tmp 45) (.tmp 49) (.const (.bool true)) 84 rfl Tryd.underlying84 w.heap.size _ ((fe : Int), gb, ga) rfl rfl rfl HK14.out ?_; intro w15 hk15 hg15; have HK15 := Lib.hid hk15; have HW15 := Lib.hid (HW14.out.grown hg15 HW14.out.size (fun q e => by cases e; exact Nat.le_refl _)); clear hk15 hg15))
          go_roundw
          case rel => exact ⟨k + 1, by omega, by go_num, by rw [HSN.out]; exact HK15.out, HW15.out⟩
          case measure => simp [intOf]; omega))
    · obtain rfl : k = M := by omega
      have HK := Lib.hid hkm; have HW := Lib.hid hw
      clear hkm hw hlt
      have he : PR.take k = PR := by rw [← HM.out, List.take_length]
      rw [he] at HK
      go_wp2_with fail
      go_returns
      exact ⟨_, rfl, HK.out, HW.out⟩
end Go.Proofs.YtpnmapfabjdfjaaDoor
