/-
  InventoryFull: the walk.
-/
import Derived.Test.YtmgikhldkebjbaaNi
namespace Go.Proofs.Ytmgikhldkebjbaa
open Go.RowKit Go.Shelf Go.Sort
theorem hx_at (j : Nat) (hj : j < 16) (h : j < (⟨#[48, 49, 50, 51, 52, 53, 54, 55, 56, 57, 97, 98, 99, 100, 101, 102]⟩ : ByteArray).size) : (⟨#[48, 49, 50, 51, 52, 53, 54, 55, 56, 57, 97, 98, 99, 100, 101, 102]⟩ : ByteArray)[j]'h = hx j := by
  unfold hx hexD
  rw [List.getD_eq_getElem?_getD, List.getElem?_eq_getElem (by simpa using hj)]
  rfl
theorem conv2d (w : World) (x y : Nat) (hx : x < 256) (hy : y < 256) : (convert 80 9 (.slice (some ⟨w.heap.size, 0, none⟩) 2 2)).run Try.prog (w.alloc (.cells #[.int .u8 (x : Int), .int .u8 (y : Int)] 5)).drew = .ok (.string ⟨#[UInt8.ofNat x, UInt8.ofNat y]⟩) (w.alloc (.cells #[.int .u8 (x : Int), .int .u8 (y : Int)] 5)).drew := by
  refine run_convert_bytes_back (l := [UInt8.ofNat x, UInt8.ofNat y]) _ _ _ 5 _ _ Try.underlying80 Try.underlying5 Try.underlying9 (fun j hj => ?_)
  have e1 : (UInt8.ofNat x).toNat = x := by simp; omega
  have e2 : (UInt8.ofNat y).toNat = y := by simp; omega
  match j, hj with
  | 0, _ =>
    rw [addr_addS]
    refine (cell_block (World.alloc_heap_new w _) rfl : (w.alloc _).cell? _ = _).trans ?_
    show some (Value.int .u8 (x : Int)) = some (.int .u8 ((UInt8.ofNat x).toNat : Int))
    rw [e1]
  | 1, _ =>
    rw [addr_addS]
    refine (cell_block (World.alloc_heap_new w _) rfl : (w.alloc _).cell? _ = _).trans ?_
    show some (Value.int .u8 (y : Int)) = some (.int .u8 ((UInt8.ofNat y).toNat : Int))
    rw [e2]
/-- The inventory while sounds are added. -/
def FullR (s : Nat) (w : World) (B : Nat) (nv : Value) (bf bs by_ : Nat) (i : Value) (wr : World) : Prop := ∃ (n : Nat) (av : Value), n ≤ 256 ∧ i = .int .i64 (n : Int) ∧ Inv wr w.heap.size B (nmL 9) (hxL s n) nv av bf bs by_ ∧ Below w.heap.size w wr
theorem touch_below {w wr w' : World} {base B bs by_ : Nat} {l : List ByteArray} {a : List (ByteArray × Snd)} {nv av : Value} {bf : Nat} (h : Inv wr base B l a nv av bf bs by_) (hw : Below base w wr) (hb : base ≤ wr.heap.size) (ht : Touch wr w' B bs by_ av) : Below base w w' :=
  hw.trans (ht.toBelow hb h.hB h.hs h.hy (fun k e => by
    obtain ⟨_, ⟨hv, _⟩ | ⟨g, _, _, hv, hg, _⟩⟩ := h.added
    · rw [hv] at e; cases e
    · rw [hv] at e; simp only [Value.ownBlock, Option.some.injEq] at e; omega))
set_option maxRecDepth 100000 in
set_option maxHeartbeats 4000000 in
theorem full_any (s : Nat) (hs : s ≤ 255) (w : World) : Gives 12 #[.int .u8 (s : Int)] w (.bool true) := by
  unfold Gives
  have hN := numbered_any 9 (by decide) w
  rw [show ((9 : Nat) : Int) = 9 from rfl] at hN
  have HN := Lib.hid hN
  clear hN
  go_enter Try.func12, Try.ntmps12
  go_wp2_with fail
  go_at_call 37
  refine HN.out.mono ?_
  rintro e w1 ⟨hb1, B, nv, bf, bs, by_, lv, rfl, hI, ho⟩
  obtain ⟨al, cl, hlv, -, -, -⟩ := ho.ss.open
  rw [nmL_len] at hlv
  subst hlv
  have HI := Lib.hid hI; have HB1 := Lib.hid hb1
  clear hI ho hb1 HN
  go_wp2_with fail
  go_loopw [14] (fun i wr => FullR s w B nv bf bs by_ i wr) (fun i _ => 256 - (intOf i).toNat)
  case atStart => exact ⟨0, _, by omega, rfl, HI.out, HB1.out⟩
  case round =>
    obtain ⟨n, av, hn, rfl, hI, hw⟩ := hrel
    have HI := Lib.hid hI; have HW := Lib.hid hw
    clear hI hw
    by_cases hlt : n < 256
    · go_wp2_with fail
      have e : ((n : Int) + (s : Int)) % 256 = ((hxK s n : Nat) : Int) := by unfold hxK; omega
      have hk : hxK s n < 256 := Nat.mod_lt _ (by omega)
      have hadd := hx_add s n hlt
      have hsuc := hxL_succ s n
      rw [e]
      generalize hxK s n = k at *
      have hA : ∀ W, Below wr.heap.size wr W → Calls Try.prog 23 #[.pointer (some ⟨B, 0, none⟩), .string (hxS k), .agg #[.int .u32 (k : Int), .int .u32 0]] W fun e w' => e = .returned (.int .i64 0) ∧ ∃ av', Inv w' w.heap.size B (nmL 9) (hxL s (n + 1)) nv av' bf bs by_ ∧ Touch W w' B bs by_ av := fun W hb => by
        have h := add_any (HI.out.below hb) (hxS k) (BitVec.ofNat 32 k, 0#32) (by show (2 : Nat) ≤ _; omega) (by rw [nmL_len]; decide) (by rw [hxL_len]; omega)
        rw [hadd, ← hsuc] at h
        have e2 : snv (BitVec.ofNat 32 k, 0#32) = .agg #[.int .u32 (k : Int), .int .u32 0] := by
          unfold snv
          rw [BitVec.toNat_ofNat, Nat.mod_eq_of_lt (by omega)]
          rfl
        rw [e2] at h
        exact h.mono fun e w' ⟨h1, h2⟩ => ⟨h1, h2.elim (fun h => absurd rfl h.1) (fun h => h.2)⟩
      have HA := Lib.hid hA
      obtain ⟨q, hq⟩ : ∃ q, k / 16 = q := ⟨_, rfl⟩
      obtain ⟨r, hr⟩ : ∃ r, k % 16 = r := ⟨_, rfl⟩
      have q2 : (k : Int) % 16 = (r : Int) := by omega
      have q1 : (k : Int) / 16 = (q : Int) := by omega
      have q3 : IntKind.i64.wrap (q : Int) = (q : Int) := IntWalk.i64_in _ (by omega)
      have q4 : (k : Int).tmod 16 = (r : Int) := by rw [Int.tmod_eq_emod_of_nonneg (by omega)]; omega
      have q5 : IntKind.u32.wrap (k : Int) = (k : Int) := by rw [IntKind.wrap_u32]; omega
      have q6 : (q : Int) < 16 := by omega
      have q7 : (r : Int) < 16 := by omega
      have k1 : q < 16 := by omega
      have k2 : r < 16 := by omega
      have b1 : ∀ h, (⟨#[48, 49, 50, 51, 52, 53, 54, 55, 56, 57, 97, 98, 99, 100, 101, 102]⟩ : ByteArray)[q]'h = hx q := fun h => hx_at _ k1 h
      have b2 : ∀ h, (⟨#[48, 49, 50, 51, 52, 53, 54, 55, 56, 57, 97, 98, 99, 100, 101, 102]⟩ : ByteArray)[r]'h = hx r := fun h => hx_at _ k2 h
      have hcv := conv2d wr (hx q).toNat (hx r).toNat (UInt8.toNat_lt _) (UInt8.toNat_lt _)
      rw [UInt8.ofNat_toNat, UInt8.ofNat_toNat, show (⟨#[hx q, hx r]⟩ : ByteArray) = hxS k from by unfold hxS; rw [hq, hr]] at hcv
      have HQ := Lib.hid hq; have HR := Lib.hid hr
      have hb1 := ((Below.refl wr.heap.size wr).alloc (Nat.le_refl _) (.cells #[.int .u8 ((hx q).toNat : Int), .int .u8 ((hx r).toNat : Int)] 5)).drew
      have HB3 := Lib.hid hb1
      clear hA hadd hsuc e hq hr hb1
      go_region_law (go_simp; go_at_call 23; refine (HA.out _ HB3.out).mono ?_; rintro e w2 ⟨rfl, av2, hI2, ht2⟩; have HI2 := Lib.hid hI2; have HT2 := Lib.hid ht2; clear hI2 ht2)
      all_goals (
        have HW2 := Lib.hid (touch_below (HI.out.below HB3.out) (HW.out.trans (HB3.out.mono HW.out.size)) (Nat.le_trans HW.out.size HB3.out.size) HT2.out)
        clear hcv b1 b2 q1 q2 q3 q4 q5 q6 q7
        go_wp2_with fail
        refine ⟨?_, ?_⟩
        · exact ⟨n + 1, av2, by omega, by go_num, HI2.out, HW2.out⟩
        · simp [intOf]; omega)
    · obtain rfl : n = 256 := by omega
      have hA := fun (k : ByteArray) (sn : Snd) (hk : k.size ≤ 9223372036854775807) (W : World) (hb : Below wr.heap.size wr W) => add_any (HI.out.below hb) k sn hk (by rw [nmL_len]; decide) (by rw [hxL_len]; omega)
      have hN : ∀ (k : ByteArray) (sn : Snd) (e : Int) (hk : k.size ≤ 9223372036854775807) (he : addE (nmL 9) (hxL s 256) k sn = e) (h0 : e ≠ 0) (W : World) (hb : Below wr.heap.size wr W), Gives 23 #[.pointer (some ⟨B, 0, none⟩), .string k, snv sn] W (.int .i64 e) := fun k sn e hk he h0 W hb => by
        have h := hA k sn hk W hb
        rw [he] at h
        exact h.mono fun e w' ⟨h1, h2⟩ => ⟨h1, h2.elim (fun h => h.2) (fun h => absurd h.1 h0)⟩
      have h1 : ∀ W, Below wr.heap.size wr W → Gives 23 #[.pointer (some ⟨B, 0, none⟩), .string ⟨#[110, 101, 119]⟩, .agg #[.int .u32 256, .int .u32 0]] W (.int .i64 4) := hN ⟨#[110, 101, 119]⟩ (256#32, 0#32) 4 (by decide) (hx_full s) (by decide)
      have h2 : ∀ W, Below wr.heap.size wr W → Gives 23 #[.pointer (some ⟨B, 0, none⟩), .string ⟨#[48, 48]⟩, .agg #[.int .u32 256, .int .u32 0]] W (.int .i64 6) := hN ⟨#[48, 48]⟩ (256#32, 0#32) 6 (by decide) (hx_have1 s) (by decide)
      have h3 : ∀ W, Below wr.heap.size wr W → Gives 23 #[.pointer (some ⟨B, 0, none⟩), .string ⟨#[110, 101, 119]⟩, .agg #[.int .u32 7, .int .u32 0]] W (.int .i64 6) := hN ⟨#[110, 101, 119]⟩ (7#32, 0#32) 6 (by decide) (hx_have2 s) (by decide)
      have h4 : ∀ W, Below wr.heap.size wr W → Gives 23 #[.pointer (some ⟨B, 0, none⟩), .string ⟨#[110, 101, 119]⟩, .agg #[.int .u32 512, .int .u32 0]] W (.int .i64 14) := hN ⟨#[110, 101, 119]⟩ (512#32, 0#32) 14 (by decide) (hx_sound s) (by decide)
      have h5 : ∀ W, Below wr.heap.size wr W → Gives 23 #[.pointer (some ⟨B, 0, none⟩), .string ⟨#[49, 50, 51, 52, 53]⟩, .agg #[.int .u32 256, .int .u32 0]] W (.int .i64 15) := hN ⟨#[49, 50, 51, 52, 53]⟩ (256#32, 0#32) 15 (by decide) (hx_name s) (by decide)
      have h6 := fun (W : World) (hb : Below wr.heap.size wr W) => len_any (HI.out.below hb)
      rw [hxL_len] at h6
      have H1 := Lib.hid h1; have H2 := Lib.hid h2; have H3 := Lib.hid h3; have H4 := Lib.hid h4; have H5 := Lib.hid h5; have H6 := Lib.hid h6
      clear hA hN h1 h2 h3 h4 h5 h6 HI
      go_wp2_with fail
      go_at_call 23
      (with_reducible refine Gives.then (H1.out _ (Below.refl _ _)) ?_)
      intro w2 hb2
      have HW2 := Lib.hid hb2
      clear hb2
      go_wp2_with fail
      go_at_call 23
      (with_reducible refine Gives.then (H2.out _ HW2.out) ?_)
      intro w3 hb3
      have HW3 := Lib.hid (HW2.out.trans (hb3.mono HW2.out.size))
      clear hb3
      go_wp2_with fail
      go_at_call 23
      (with_reducible refine Gives.then (H3.out _ HW3.out) ?_)
      intro w4 hb4
      have HW4 := Lib.hid (HW3.out.trans (hb4.mono HW3.out.size))
      clear hb4
      go_wp2_with fail
      go_at_call 23
      (with_reducible refine Gives.then (H4.out _ HW4.out) ?_)
      intro w5 hb5
      have HW5 := Lib.hid (HW4.out.trans (hb5.mono HW4.out.size))
      clear hb5
      go_wp2_with fail
      go_at_call 23
      (with_reducible refine Gives.then (H5.out _ HW5.out) ?_)
      intro w6 hb6
      have HW6 := Lib.hid (HW5.out.trans (hb6.mono HW5.out.size))
      clear hb6
      go_wp2_with fail
      go_at_call 22
      (with_reducible refine Gives.then (H6.out _ HW6.out) ?_)
      intro w7 hb7
      have HW7 := Lib.hid (HW6.out.trans (hb7.mono HW6.out.size))
      clear hb7
      go_wp2_with (go_at_call 14; refine Gives.then (works_any _) ?_; intro w8 hb8)
      go_returns
      exact ⟨rfl, (HW.out.trans (HW7.out.mono HW.out.size)).trans (hb8.mono (Nat.le_trans HW.out.size HW7.out.size))⟩
end Go.Proofs.Ytmgikhldkebjbaa
