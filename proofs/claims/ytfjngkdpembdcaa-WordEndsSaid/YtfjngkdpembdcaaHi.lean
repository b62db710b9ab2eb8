/-
  The order of sounds and of words.
-/
import Derived.Test.YtfjngkdpembdcaaHe
import Derived.RangeFuncBox
namespace Go.Proofs.Ytfjngkdpembdcaa
open Go.RowKit Go.Sort
attribute [local go_sem] sv
/-- How two numbers compare. -/
def cmpN (x y : Nat) : Int := if x < y then -1 else if y < x then 1 else 0
set_option maxHeartbeats 400000 in
theorem isNaN_any (x : Int) (w : World) :
    Calls Try.prog 53 #[.int .u32 x] w fun e w' => e = .returned (.bool false) ∧ w = w' := by
  go_enter Try.func53, Try.ntmps53
  go_wp2
  go_returns
  exact ⟨by first | rfl | (simp; done), rfl⟩
set_option maxHeartbeats 400000 in
theorem compare_any (x y : BitVec 32) (w : World) :
    Calls Try.prog 47 #[.int .u32 (x.toNat : Int), .int .u32 (y.toNat : Int)] w fun e w' => e = .returned (.int .i64 (cmpN x.toNat y.toNat)) ∧ Below w.heap.size w w' := by
  generalize x.toNat = X
  generalize y.toNat = Y
  by_cases h : X < Y
  · have e : cmpN X Y = -1 := by simp [cmpN, h]
    rw [e]; clear e
    go_enter Try.func47, Try.ntmps47
    go_wp2_with (go_at_call 53; refine (isNaN_any _ _).mono ?_; rintro e w1 ⟨rfl, rfl⟩)
    go_returns
    exact ⟨rfl, Below.refl _ _⟩
  · by_cases h2 : Y < X
    · have e : cmpN X Y = 1 := by simp [cmpN, h, h2]
      rw [e]; clear e
      go_enter Try.func47, Try.ntmps47
      go_wp2_with (go_at_call 53; refine (isNaN_any _ _).mono ?_; rintro e w1 ⟨rfl, rfl⟩)
      go_returns
      exact ⟨rfl, Below.refl _ _⟩
    · have e : cmpN X Y = 0 := by simp [cmpN, h, h2]
      rw [e]; clear e
      go_enter Try.func47, Try.ntmps47
      go_wp2_with (go_at_call 53; refine (isNaN_any _ _).mono ?_; rintro e w1 ⟨rfl, rfl⟩)
      go_returns
      exact ⟨rfl, Below.refl _ _⟩
set_option maxHeartbeats 1000000 in
theorem or_any (x y : Int) (b : Nat) (w : World) (h0 : w.cell? ⟨b, 0, none⟩ = some (.int .i64 x)) (h1 : w.cell? ⟨b, 1, none⟩ = some (.int .i64 y)) :
    Calls Try.prog 46 #[.slice (some ⟨b, 0, none⟩) 2 2] w fun e w' => e = .returned (.int .i64 (if x = 0 then y else x)) ∧ Below w.heap.size w w' := by
  by_cases hx : x = 0
  · subst hx
    rw [if_pos rfl]
    by_cases hy : y = 0
    · subst hy
      go_enter Try.func46, Try.ntmps46
      go_wp2
      go_rounds 3
      go_returns
      exact ⟨rfl, by go_grown⟩
    · go_enter Try.func46, Try.ntmps46
      go_wp2
      go_rounds 3
      go_returns
      exact ⟨rfl, by go_grown⟩
  · rw [if_neg hx]
    go_enter Try.func46, Try.ntmps46
    go_wp2
    go_rounds 3
    go_returns
    exact ⟨rfl, by go_grown⟩
/-- How two sounds compare. -/
def ordS (x y : Snd) : Int := if cmpN x.1.toNat y.1.toNat = 0 then cmpN x.2.toNat y.2.toNat else cmpN x.1.toNat y.1.toNat
set_option maxHeartbeats 1000000 in
theorem ordS_any (p m q n : BitVec 32) (w : World) : Gives 34 #[sn p.toNat m.toNat, sn q.toNat n.toNat] w (.int .i64 (ordS (p, m) (q, n))) := by
  unfold Gives
  generalize ho : ordS (p, m) (q, n) = o
  have HO := Lib.hid ho; clear ho
  go_enter Try.func34, Try.ntmps34
  go_wp2_with fail
  refine wp_gen ?_
  intro W1 hW1
  have hw1 : Below w.heap.size w W1 := by rw [hW1]; go_grown
  have hz1 : w.heap.size + 1 + 1 ≤ W1.heap.size := by rw [hW1]; first | assumption | go_size
  have g0 : W1.cell? ⟨w.heap.size, 0, none⟩ = some (.int .u32 (p.toNat : Int)) := by rw [hW1]; first | assumption | go_cell | (go_simp; done) | (simp [hc, hf, hc0, hf0]; done) | (refine keep_set ?_ (by (try simp only []); omega); first | assumption | (refine keep_set ?_ (by (try simp only []); omega); assumption)) | (simp [*]; done)
  have g1 : W1.cell? ⟨w.heap.size, 1, none⟩ = some (.int .u32 (m.toNat : Int)) := by rw [hW1]; first | assumption | go_cell | (go_simp; done) | (simp [hc, hf, hc0, hf0]; done) | (refine keep_set ?_ (by (try simp only []); omega); first | assumption | (refine keep_set ?_ (by (try simp only []); omega); assumption)) | (simp [*]; done)
  have g2 : W1.cell? ⟨w.heap.size + 1, 0, none⟩ = some (.int .u32 (q.toNat : Int)) := by rw [hW1]; first | assumption | go_cell | (go_simp; done) | (simp [hc, hf, hc0, hf0]; done) | (refine keep_set ?_ (by (try simp only []); omega); first | assumption | (refine keep_set ?_ (by (try simp only []); omega); assumption)) | (simp [*]; done)
  have g3 : W1.cell? ⟨w.heap.size + 1, 1, none⟩ = some (.int .u32 (n.toNat : Int)) := by rw [hW1]; first | assumption | go_cell | (go_simp; done) | (simp [hc, hf, hc0, hf0]; done) | (refine keep_set ?_ (by (try simp only []); omega); first | assumption | (refine keep_set ?_ (by (try simp only []); omega); assumption)) | (simp [*]; done)
  clear hW1
  refine wp_region_makers 10 [] [0, 1, 2, 3, 4, 5, 6, 7, 8, 9] ?A1 _ (by kernel_rfl) (by kernel_rfl) ?hrun1 (by simp [quiets, mkOf]; rfl) ?walk1 ?fin1
  case hrun1 =>
    intro x hx
    cases hx
  case walk1 =>
    intro W2 hW2
    have e0 : W2.cell? ⟨w.heap.size, 0, none⟩ = some (.int .u32 (p.toNat : Int)) := (hW2.cell (p := ⟨w.heap.size, 0, none⟩) (by (try simp only []); omega)).trans g0
    have k0 := cell_regrown e0
    have e1 : W2.cell? ⟨w.heap.size, 1, none⟩ = some (.int .u32 (m.toNat : Int)) := (hW2.cell (p := ⟨w.heap.size, 1, none⟩) (by (try simp only []); omega)).trans g1
    have k1 := cell_regrown e1
    have e2 : W2.cell? ⟨w.heap.size + 1, 0, none⟩ = some (.int .u32 (q.toNat : Int)) := (hW2.cell (p := ⟨w.heap.size + 1, 0, none⟩) (by (try simp only []); omega)).trans g2
    have k2 := cell_regrown e2
    have e3 : W2.cell? ⟨w.heap.size + 1, 1, none⟩ = some (.int .u32 (n.toNat : Int)) := (hW2.cell (p := ⟨w.heap.size + 1, 1, none⟩) (by (try simp only []); omega)).trans g3
    have k3 := cell_regrown e3
    repeat (go_big_quiet_step (first | (go_at_call 47; exact Calls.regrown_of (compare_any _ _ _))))
    refine wpQuiet_nil ?_
    rfl
  intro bs w2 hb hF hN
  have hw := chain hw1 (by omega) hb
  obtain ⟨hc, hf, hz⟩ := bcell hb
  have r0 : w2.cell? ⟨w.heap.size, 0, none⟩ = some (.int .u32 (p.toNat : Int)) := (hc _ _ (by omega)).trans g0
  have r1 : w2.cell? ⟨w.heap.size, 1, none⟩ = some (.int .u32 (m.toNat : Int)) := (hc _ _ (by omega)).trans g1
  have r2 : w2.cell? ⟨w.heap.size + 1, 0, none⟩ = some (.int .u32 (q.toNat : Int)) := (hc _ _ (by omega)).trans g2
  have r3 : w2.cell? ⟨w.heap.size + 1, 1, none⟩ = some (.int .u32 (n.toNat : Int)) := (hc _ _ (by omega)).trans g3
  clear hb hF hN hw1 g0 g1 g2 g3
  simp only [List.map_cons, List.map_nil, List.foldr_cons, List.foldr_nil] at *
  clear bs
  simp only [dstOf, ptr, Act.put, List.getElem?_toArray, List.getElem?_cons_succ, List.getElem?_cons_zero, Option.bind_some, List.setIfInBounds_toArray, List.set_cons_zero, List.set_cons_succ, List.drop_succ_cons, List.drop_zero]
  go_wp2_with (go_at_call 46; refine (or_any (cmpN p.toNat q.toNat) (cmpN m.toNat n.toNat) _ _ (by first | go_cell | (go_simp; done) | (simp [World.cell?, World.alloc]; done)) (by first | go_cell | (go_simp; done) | (simp [World.cell?, World.alloc]; done))).mono ?_; rintro e w1 ⟨rfl, hb⟩; have hw := chain (B := w.heap.size) (a := w) (by go_grown) (by go_size) hb; (first | have h0 := chain (h0.trans (by go_grown)) (by go_size) hb | have h0 := hb); obtain ⟨hc, hf, hz⟩ := bcell hb; obtain ⟨hc0, hf0, hz0⟩ := bcell h0; clear hb; (try simp only [World.size_alloc, World.size_setCell, World.size_drew] at hc hf hz hc0 hf0 hz0))
  all_goals go_returns
  all_goals exact ⟨by rw [← HO.out]; simp [ordS, *], by go_grown⟩
/-- How two words compare. -/
def ordW : List Snd → List Snd → Int
  | [], [] => 0
  | [], _ :: _ => -1
  | _ :: _, [] => 1
  | x :: xs, y :: ys => if ordS x y = 0 then ordW xs ys else ordS x y
theorem ordW_step {xs ys : List Snd} {k : Nat} (h1 : k < xs.length) (h2 : k < ys.length) : ordW (xs.drop k) (ys.drop k) = if ordS xs[k] ys[k] = 0 then ordW (xs.drop (k + 1)) (ys.drop (k + 1)) else ordS xs[k] ys[k] := by
  rw [List.drop_eq_getElem_cons h1, List.drop_eq_getElem_cons h2]; rfl
theorem drop_past {xs : List Snd} {k : Nat} (h : ¬ k < xs.length) : xs.drop k = [] := List.drop_of_length_le (by omega)
theorem ordW_past {xs ys : List Snd} {k : Nat} (h1 : k < xs.length) (h2 : ¬ k < ys.length) : ordW (xs.drop k) (ys.drop k) = 1 := by
  rw [drop_past h2, List.drop_eq_getElem_cons h1]; rfl
theorem ordW_less {xs ys : List Snd} {k : Nat} (h1 : ¬ k < xs.length) (h2 : k < ys.length) : ordW (xs.drop k) (ys.drop k) = -1 := by
  rw [drop_past h1, List.drop_eq_getElem_cons h2]; rfl
theorem ordW_both {xs ys : List Snd} {k : Nat} (h1 : ¬ k < xs.length) (h2 : ¬ k < ys.length) : ordW (xs.drop k) (ys.drop k) = 0 := by
  rw [drop_past h1, drop_past h2]; rfl
set_option maxHeartbeats 4000000 in
theorem compareFunc_any (xs ys : List Snd) (v u : Value) (w : World) (h1 : Wd w v xs) (h2 : Wd w u ys) : Gives 33 #[v, u, .func (.func 34) #[] #[]] w (.int .i64 (ordW xs ys)) := by
  unfold Gives
  obtain ⟨ao, cap, rfl, c1, m1, H1⟩ := h1.open
  obtain ⟨bo, cap', rfl, c2, m2, H2⟩ := h2.open
  have l1 := maxLen_lt (Nat.le_trans c1 m1); have l2 := maxLen_lt (Nat.le_trans c2 m2)
  clear h1 h2 c1 m1 c2 m2
  have H1 := Lib.hid H1; have H2 := Lib.hid H2
  generalize ho : ordW xs ys = o
  have HO := Lib.hid ho; clear ho
  go_enter Try.func33, Try.ntmps33
  go_wp2_with fail
  go_loopw [13] (fun i wr => ∃ k : Nat, k ≤ xs.length ∧ i = .int .i64 (k : Int) ∧ o = ordW (xs.drop k) (ys.drop k) ∧ k ≤ ys.length ∧ Below w.heap.size w wr ∧ w.heap.size ≤ wr.heap.size) (fun i _ => xs.length - (intOf i).toNat)
  case atStart => exact ⟨0, by omega, rfl, by rw [← HO.out]; rfl, by omega, Below.refl _ _, Nat.le_refl _⟩
  case round =>
    clear HO
    obtain ⟨k, hk, rfl, hp, hk2, hw, hsz⟩ := hrel
    by_cases hlt : k < xs.length
    · by_cases hlt2 : k < ys.length
      · rw [ordW_step hlt hlt2] at hp
        obtain ⟨b, off, rfl, lb, d0, d1⟩ := H1.out k hlt
        obtain ⟨b', off', rfl, lb', e0, e1⟩ := H2.out k hlt2
        have d0 := (hw.cell (p := ⟨b, off + k * 2, none⟩) lb).trans d0
        have d1 := (hw.cell (p := ⟨b, off + k * 2 + 1, none⟩) lb).trans d1
        have e0 := (hw.cell (p := ⟨b', off' + k * 2, none⟩) lb').trans e0
        have e1 := (hw.cell (p := ⟨b', off' + k * 2 + 1, none⟩) lb').trans e1
        clear H1 H2
        generalize hx : xs[k] = x at *
        generalize hy : ys[k] = y at *
        clear hx hy
        obtain ⟨x1, x2⟩ := x
        obtain ⟨y1, y2⟩ := y
        have HC := fun W => ordS_any x1 x2 y1 y2 W
        simp only at d0 d1 e0 e1
        generalize ordS (x1, x2) (y1, y2) = c at hp HC
        have lbr : b < wr.heap.size := by omega
        have lbr' : b' < wr.heap.size := by omega
        have hX0 := fun X => cell_past (X := X) lbr' e0
        have hX1 := fun X => cell_past (X := X) lbr' e1
        have HCC := Lib.hid HC
        clear HC
        by_cases hc : c = 0
        · have HP := Lib.hid (hp.trans (if_pos hc))
          clear hp
          subst hc
          go_wp2_with fail
          go_at_call 34
          with_reducible refine Gives.then (HCC.out _) ?_
          intro w1 hb1
          have hb2 : Below w.heap.size w w1 := hw.trans ((by go_grown : Below wr.heap.size wr _).trans (hb1.mono (by go_size)) |>.mono hsz)
          go_wp2_with fail
          go_roundw
          case rel => exact ⟨k + 1, by omega, by go_num, HP.out, by omega, hb2, hb2.size⟩
          case measure => simp [intOf]; omega
        · have HP := Lib.hid (hp.trans (if_neg hc))
          have hn1 : (c == 0) = false := by simpa using hc
          have hn2 : (c != 0) = true := by simpa using hc
          clear hp
          go_wp2_with fail
          go_at_call 34
          with_reducible refine Gives.then (HCC.out _) ?_
          intro w1 hb1
          have hb2 : Below w.heap.size w w1 := hw.trans ((by go_grown : Below wr.heap.size wr _).trans (hb1.mono (by go_size)) |>.mono hsz)
          go_wp2_with fail
          go_returns
          exact ⟨ret_num HP.out.symm, hb2⟩
      · have HP := Lib.hid (hp.trans (ordW_past hlt hlt2))
        obtain ⟨b, off, rfl, lb, d0, d1⟩ := H1.out k hlt
        have d0 := (hw.cell (p := ⟨b, off + k * 2, none⟩) lb).trans d0
        have d1 := (hw.cell (p := ⟨b, off + k * 2 + 1, none⟩) lb).trans d1
        clear H1 H2 hp
        go_wp2_with fail
        go_returns
        exact ⟨ret_num HP.out.symm, by go_grown⟩
    · by_cases hlt2 : k < ys.length
      · have HP := Lib.hid (hp.trans (ordW_less hlt hlt2))
        clear H1 H2 hp
        go_wp2_with fail
        go_returns
        exact ⟨ret_num HP.out.symm, hw⟩
      · have HP := Lib.hid (hp.trans (ordW_both hlt hlt2))
        clear H1 H2 hp
        go_wp2_with fail
        go_returns
        exact ⟨ret_num HP.out.symm, hw⟩
theorem order_any (xs ys : List Snd) (v u : Value) (w : World) (h1 : Wd w v xs) (h2 : Wd w u ys) : Gives 12 #[v, u] w (.int .i64 (ordW xs ys)) := by
  unfold Gives
  have := compareFunc_any xs ys v u w h1 h2
  obtain ⟨ao, cap, rfl, -, -, -⟩ := h1.open
  obtain ⟨bo, cap', rfl, -, -, -⟩ := h2.open
  clear h1 h2
  go_enter Try.func12, Try.ntmps12
  go_wp2_with fail
  go_at_call 33
  with_reducible refine Gives.then this ?_
  intro w1 hb
  go_wp2_with fail
  go_returns
  exact ⟨rfl, hb⟩
end Go.Proofs.Ytfjngkdpembdcaa
