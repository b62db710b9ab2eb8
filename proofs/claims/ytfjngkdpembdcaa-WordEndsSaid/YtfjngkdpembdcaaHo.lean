/-
  The order of words once more, with what it says of the tape: what the sort asks of its comparison.
-/
import Derived.Test.YtfjngkdpembdcaaHi
import Derived.Test.YtfjngkdpembdcaaRd
namespace Go.Proofs.Ytfjngkdpembdcaa.Dn
open Go.RowKit Go.Sort Go.Proofs.Ytfjngkdpembdcaa
attribute [local go_sem] sv
abbrev GivesD (f : Nat) (args : Array Value) (w : World) (v : Value) : Prop := Calls Try.prog f args w fun e w' => e = .returned v ∧ BelowD w.heap.size w w'
theorem GivesD.then {f : Nat} {args : Array Value} {w : World} {v : Value} {Q : Ending → World → Prop} (h : GivesD f args w v) (k : ∀ w1, BelowD w.heap.size w w1 → Q (.returned v) w1) : Calls Try.prog f args w Q := Calls.mono h (by rintro e w1 ⟨rfl, hb⟩; exact k w1 hb)
set_option maxHeartbeats 400000 in
theorem compare_d (x y : BitVec 32) (w : World) :
    Calls Try.prog 47 #[.int .u32 (x.toNat : Int), .int .u32 (y.toNat : Int)] w fun e w' => e = .returned (.int .i64 (cmpN x.toNat y.toNat)) ∧ BelowD w.heap.size w w' := by
  generalize x.toNat = X
  generalize y.toNat = Y
  by_cases h : X < Y
  · have e : cmpN X Y = -1 := by simp [cmpN, h]
    rw [e]; clear e
    go_enter Try.func47, Try.ntmps47
    go_wp2_with (go_at_call 53; refine (isNaN_any _ _).mono ?_; rintro e w1 ⟨rfl, rfl⟩)
    go_returns
    exact ⟨rfl, BelowD.refl _ _⟩
  · by_cases h2 : Y < X
    · have e : cmpN X Y = 1 := by simp [cmpN, h, h2]
      rw [e]; clear e
      go_enter Try.func47, Try.ntmps47
      go_wp2_with (go_at_call 53; refine (isNaN_any _ _).mono ?_; rintro e w1 ⟨rfl, rfl⟩)
      go_returns
      exact ⟨rfl, BelowD.refl _ _⟩
    · have e : cmpN X Y = 0 := by simp [cmpN, h, h2]
      rw [e]; clear e
      go_enter Try.func47, Try.ntmps47
      go_wp2_with (go_at_call 53; refine (isNaN_any _ _).mono ?_; rintro e w1 ⟨rfl, rfl⟩)
      go_returns
      exact ⟨rfl, BelowD.refl _ _⟩
set_option maxHeartbeats 1000000 in
theorem or_d (x y : Int) (b : Nat) (w : World) (h0 : w.cell? ⟨b, 0, none⟩ = some (.int .i64 x)) (h1 : w.cell? ⟨b, 1, none⟩ = some (.int .i64 y)) :
    Calls Try.prog 46 #[.slice (some ⟨b, 0, none⟩) 2 2] w fun e w' => e = .returned (.int .i64 (if x = 0 then y else x)) ∧ BelowD w.heap.size w w' := by
  by_cases hx : x = 0
  · subst hx
    rw [if_pos rfl]
    by_cases hy : y = 0
    · subst hy
      go_enter Try.func46, Try.ntmps46
      go_wp2
      go_rounds 3
      go_returns
      exact ⟨rfl, ⟨by go_grown, by first | exact Nat.le_refl _ | (simp only [World.drawn_alloc, World.drawn_setCell, World.drawn_drew]; omega)⟩⟩
    · go_enter Try.func46, Try.ntmps46
      go_wp2
      go_rounds 3
      go_returns
      exact ⟨rfl, ⟨by go_grown, by first | exact Nat.le_refl _ | (simp only [World.drawn_alloc, World.drawn_setCell, World.drawn_drew]; omega)⟩⟩
  · rw [if_neg hx]
    go_enter Try.func46, Try.ntmps46
    go_wp2
    go_rounds 3
    go_returns
    exact ⟨rfl, ⟨by go_grown, by first | exact Nat.le_refl _ | (simp only [World.drawn_alloc, World.drawn_setCell, World.drawn_drew]; omega)⟩⟩

set_option maxHeartbeats 1000000 in
theorem ordS_d (p m q n : BitVec 32) (w : World) : GivesD 34 #[sn p.toNat m.toNat, sn q.toNat n.toNat] w (.int .i64 (ordS (p, m) (q, n))) := by
  unfold GivesD
  generalize ho : ordS (p, m) (q, n) = o
  have HO := Lib.hid ho; clear ho
  go_enter Try.func34, Try.ntmps34
  go_wp2_with fail
  refine wp_gen ?_
  intro W1 hW1
  have hw1 : Below w.heap.size w W1 := by rw [hW1]; go_grown
  have hd1 : w.drawn ≤ W1.drawn := by rw [hW1]; simp only [World.drawn_alloc, World.drawn_setCell]; omega
  have hz1 : w.heap.size + 1 + 1 ≤ W1.heap.size := by rw [hW1]; go_size
  have g0 : W1.cell? ⟨w.heap.size, 0, none⟩ = some (.int .u32 (p.toNat : Int)) := by rw [hW1]; first | go_cell | (go_simp; done)
  have g1 : W1.cell? ⟨w.heap.size, 1, none⟩ = some (.int .u32 (m.toNat : Int)) := by rw [hW1]; first | go_cell | (go_simp; done)
  have g2 : W1.cell? ⟨w.heap.size + 1, 0, none⟩ = some (.int .u32 (q.toNat : Int)) := by rw [hW1]; first | go_cell | (go_simp; done)
  have g3 : W1.cell? ⟨w.heap.size + 1, 1, none⟩ = some (.int .u32 (n.toNat : Int)) := by rw [hW1]; first | go_cell | (go_simp; done)
  clear hW1
  refine Dn.wp_region_makers 10 [] [0, 1, 2, 3, 4, 5, 6, 7, 8, 9] ?A1 _ (by kernel_rfl) (by kernel_rfl) ?hrun1 (by simp [Dn.quiets, Dn.mkOf]; rfl) ?walk1 ?fin1
  case hrun1 =>
    intro x hx
    cases hx
  case walk1 =>
    intro W2 hW2
    have e0 := (hW2.b.cell (p := ⟨w.heap.size, 0, none⟩) (by (try simp only []); omega)).trans g0
    have k0 := cell_regrown e0
    have e1 := (hW2.b.cell (p := ⟨w.heap.size, 1, none⟩) (by (try simp only []); omega)).trans g1
    have k1 := cell_regrown e1
    have e2 := (hW2.b.cell (p := ⟨w.heap.size + 1, 0, none⟩) (by (try simp only []); omega)).trans g2
    have k2 := cell_regrown e2
    have e3 := (hW2.b.cell (p := ⟨w.heap.size + 1, 1, none⟩) (by (try simp only []); omega)).trans g3
    have k3 := cell_regrown e3
    repeat (go_big_quiet_step (first | (go_at_call 47; exact Dn.Calls.regrownD_of (compare_d _ _ _))))
    refine wpQuiet_nil ?_
    rfl
  intro bs w2 hb hF hN
  have hw := chain hw1 (by omega) hb.b
  have hd2 := Nat.le_trans hd1 hb.dr
  have hz := hb.size
  clear hb hF hN hw1 g0 g1 g2 g3
  simp only [List.map_cons, List.map_nil, List.foldr_cons, List.foldr_nil] at *
  clear bs
  simp only [Dn.dstOf, Dn.ptr, Act.put, List.getElem?_toArray, List.getElem?_cons_succ, List.getElem?_cons_zero, Option.bind_some, List.setIfInBounds_toArray, List.set_cons_zero, List.set_cons_succ, List.drop_succ_cons, List.drop_zero]
  go_wp2_with fail
  go_at_call 46
  refine GivesD.then (or_d (cmpN p.toNat q.toNat) (cmpN m.toNat n.toNat) _ _ (by first | go_cell | (go_simp; done) | (simp [World.cell?, World.alloc]; done)) (by first | go_cell | (go_simp; done) | (simp [World.cell?, World.alloc]; done))) ?_
  intro w3 hb3
  go_wp2_with fail
  all_goals go_returns
  all_goals exact ⟨by rw [← HO.out]; simp [ordS, *], ⟨hw.trans ((by go_grown : Below w2.heap.size w2 _).trans (hb3.b.mono (by go_size)) |>.mono hw.size), by have := hb3.dr; simp only [World.drawn_alloc, World.drawn_setCell] at this; omega⟩⟩
set_option maxHeartbeats 4000000 in
theorem compareFunc_d (xs ys : List Snd) (v u : Value) (w : World) (h1 : Wd w v xs) (h2 : Wd w u ys) : GivesD 33 #[v, u, .func (.func 34) #[] #[]] w (.int .i64 (ordW xs ys)) := by
  unfold GivesD
  obtain ⟨ao, cap, rfl, c1, m1, H1⟩ := h1.open
  obtain ⟨bo, cap', rfl, c2, m2, H2⟩ := h2.open
  have l1 := maxLen_lt (Nat.le_trans c1 m1); have l2 := maxLen_lt (Nat.le_trans c2 m2)
  clear h1 h2 c1 m1 c2 m2
  have H1 := Lib.hid H1; have H2 := Lib.hid H2
  generalize ho : ordW xs ys = o
  have HO := Lib.hid ho; clear ho
  go_enter Try.func33, Try.ntmps33
  go_wp2_with fail
  go_loopw [13] (fun i wr => ∃ k : Nat, k ≤ xs.length ∧ i = .int .i64 (k : Int) ∧ o = ordW (xs.drop k) (ys.drop k) ∧ k ≤ ys.length ∧ Below w.heap.size w wr ∧ w.drawn ≤ wr.drawn ∧ w.heap.size ≤ wr.heap.size) (fun i _ => xs.length - (intOf i).toNat)
  case atStart => exact ⟨0, by omega, rfl, by rw [← HO.out]; rfl, by omega, Below.refl _ _, Nat.le_refl _, Nat.le_refl _⟩
  case round =>
    clear HO
    obtain ⟨k, hk, rfl, hp, hk2, hw, hdr, hsz⟩ := hrel
    by_cases hlt : k < xs.length
    · by_cases hlt2 : k < ys.length
      · rw [ordW_step hlt hlt2] at hp
        obtain ⟨b, off, rfl, lb, d0, d1⟩ := H1.out k hlt
        obtain ⟨b', off', rfl, lb', e0, e1⟩ := H2.out k hlt2
        have d0 := (hw.cell (p := ⟨b, off + k * 2, none⟩) lb).trans d0
        have d1 := (hw.cell (p := ⟨b, off + k * 2 + 1, none⟩) lb).trans d1
        have e0 := (hw.cell (p := ⟨b', off' + k * 2, none⟩) lb').trans e0
        have e1 := (hw.cell (p := ⟨b', off' + k * 2 + 1, none⟩) lb').trans e1
        clear H1 H2
        generalize hx : xs[k] = x at *
        generalize hy : ys[k] = y at *
        clear hx hy
        obtain ⟨x1, x2⟩ := x
        obtain ⟨y1, y2⟩ := y
        have HC := fun W => ordS_d x1 x2 y1 y2 W
        simp only at d0 d1 e0 e1
        generalize ordS (x1, x2) (y1, y2) = c at hp HC
        have lbr : b < wr.heap.size := by omega
        have lbr' : b' < wr.heap.size := by omega
        have hX0 := fun X => cell_past (X := X) lbr' e0
        have hX1 := fun X => cell_past (X := X) lbr' e1
        have HCC := Lib.hid HC
        clear HC
        by_cases hc : c = 0
        · have HP := Lib.hid (hp.trans (if_pos hc))
          clear hp
          subst hc
          go_wp2_with fail
          go_at_call 34
          with_reducible refine GivesD.then (HCC.out _) ?_
          intro w1 hb1
          have hd2 : w.drawn ≤ w1.drawn := by have := hb1.dr; simp only [World.drawn_alloc, World.drawn_setCell] at this; omega
          have hb2 : Below w.heap.size w w1 := hw.trans ((by go_grown : Below wr.heap.size wr _).trans (hb1.b.mono (by go_size)) |>.mono hsz)
          go_wp2_with fail
          go_roundw
          case rel => exact ⟨k + 1, by omega, by go_num, HP.out, by omega, hb2, hd2, hb2.size⟩
          case measure => simp [intOf]; omega
        · have HP := Lib.hid (hp.trans (if_neg hc))
          have hn1 : (c == 0) = false := by simpa using hc
          have hn2 : (c != 0) = true := by simpa using hc
          clear hp
          go_wp2_with fail
          go_at_call 34
          with_reducible refine GivesD.then (HCC.out _) ?_
          intro w1 hb1
          have hd2 : w.drawn ≤ w1.drawn := by have := hb1.dr; simp only [World.drawn_alloc, World.drawn_setCell] at this; omega
          have hb2 : Below w.heap.size w w1 := hw.trans ((by go_grown : Below wr.heap.size wr _).trans (hb1.b.mono (by go_size)) |>.mono hsz)
          go_wp2_with fail
          go_returns
          exact ⟨ret_num HP.out.symm, ⟨hb2, hd2⟩⟩
      · have HP := Lib.hid (hp.trans (ordW_past hlt hlt2))
        obtain ⟨b, off, rfl, lb, d0, d1⟩ := H1.out k hlt
        have d0 := (hw.cell (p := ⟨b, off + k * 2, none⟩) lb).trans d0
        have d1 := (hw.cell (p := ⟨b, off + k * 2 + 1, none⟩) lb).trans d1
        clear H1 H2 hp
        go_wp2_with fail
        go_returns
        exact ⟨ret_num HP.out.symm, ⟨by go_grown, by simp only [World.drawn_alloc, World.drawn_setCell]; omega⟩⟩
    · by_cases hlt2 : k < ys.length
      · have HP := Lib.hid (hp.trans (ordW_less hlt hlt2))
        clear H1 H2 hp
        go_wp2_with fail
        go_returns
        exact ⟨ret_num HP.out.symm, ⟨hw, hdr⟩⟩
      · have HP := Lib.hid (hp.trans (ordW_both hlt hlt2))
        clear H1 H2 hp
        go_wp2_with fail
        go_returns
        exact ⟨ret_num HP.out.symm, ⟨hw, hdr⟩⟩
theorem order_d (xs ys : List Snd) (v u : Value) (w : World) (h1 : Wd w v xs) (h2 : Wd w u ys) : GivesD 12 #[v, u] w (.int .i64 (ordW xs ys)) := by
  unfold GivesD
  have := compareFunc_d xs ys v u w h1 h2
  obtain ⟨ao, cap, rfl, -, -, -⟩ := h1.open
  obtain ⟨bo, cap', rfl, -, -, -⟩ := h2.open
  clear h1 h2
  go_enter Try.func12, Try.ntmps12
  go_wp2_with fail
  go_at_call 33
  with_reducible refine GivesD.then this ?_
  intro w1 hb
  go_wp2_with fail
  go_returns
  exact ⟨rfl, hb⟩
end Go.Proofs.Ytfjngkdpembdcaa.Dn
