/-
  works: the few calls that all the laws of the inventory make.
-/
import Derived.Test.YtmgikhldkebjbaaIr
import Derived.Test.YtmgikhldkebjbaaIl
import Derived.Test.YtmgikhldkebjbaaIm
import Derived.Test.YtmgikhldkebjbaaIf
namespace Go.Proofs.Ytmgikhldkebjbaa
open Go.RowKit Go.Shelf Go.Sort
def nm3 : List ByteArray := [⟨#[118, 111, 105, 99, 101]⟩, ⟨#[115, 116, 111, 112]⟩, ⟨#[118, 111, 119, 101, 108]⟩]
def tBun : ByteArray := ⟨#[43, 118, 111, 119, 101, 108, 32, 45, 115, 116, 111, 112]⟩
def tTxt : ByteArray := ⟨#[45, 115, 116, 111, 112, 32, 43, 118, 111, 119, 101, 108]⟩
theorem k1 : newE nm3 = 0 := by kernel_rfl
theorem k2 : bunS nm3 tBun = some (4#32, 2#32) := by kernel_rfl
theorem k3 : hasB nm3.length (4#32, 2#32) = true := by kernel_rfl
theorem k4 : txtS nm3 (4#32, 2#32) = tTxt := by kernel_rfl
theorem k5 : addE nm3 [] ⟨#[112]⟩ (2#32, 5#32) = 0 := by kernel_rfl
theorem k6 : addE nm3 [(⟨#[112]⟩, (2#32, 5#32))] ⟨#[112, 104]⟩ (2#32, 1#32) = 0 := by kernel_rfl
theorem k7 : lonS [(⟨#[112]⟩, (2#32, 5#32)), (⟨#[112, 104]⟩, (2#32, 1#32))] ⟨#[112, 104, 97, 116]⟩ 4 = some ⟨#[112, 104]⟩ := by kernel_rfl
theorem Touch.cell {w w' : World} {B bs by_ : Nat} {av : Value} (h : Touch w w' B bs by_ av) {k o : Nat} (hk : k < w.heap.size) (h1 : k ≠ B) (h2 : k ≠ bs) (h3 : k ≠ by_) (h4 : av.ownBlock ≠ some k) : w'.cell? ⟨k, o, none⟩ = w.cell? ⟨k, o, none⟩ := World.cell?_of_block (h.2.2.2.2 k hk h1 h2 h3 h4)
theorem Touch.toBelow {w w' : World} {B bs by_ n : Nat} {av : Value} (h : Touch w w' B bs by_ av) (hn : n ≤ w.heap.size) (h1 : n ≤ B) (h2 : n ≤ bs) (h3 : n ≤ by_) (h4 : ∀ k, av.ownBlock = some k → n ≤ k) : Below n w w' :=
  ⟨h.1, h.2.1, h.2.2.1, h.2.2.2.1, fun k hk => h.2.2.2.2 k (by omega) (by omega) (by omega) (by omega) (fun e => by have := h4 k e; omega)⟩
theorem ss_nm3 (w : World) : Ss (w.alloc (.cells #[.string ⟨#[118, 111, 105, 99, 101]⟩, .string ⟨#[115, 116, 111, 112]⟩, .string ⟨#[118, 111, 119, 101, 108]⟩] 9)) (.slice (some ⟨w.heap.size, 0, none⟩) 3 3) nm3 :=
  .inr ⟨w.heap.size, 0, 3, rfl, Nat.le_refl _, by decide, by rw [World.size_alloc]; omega, fun i hi => by
    match i, hi with
    | 0, _ => exact cell_block (World.alloc_heap_new w _) rfl
    | 1, _ => exact cell_block (World.alloc_heap_new w _) rfl
    | 2, _ => exact cell_block (World.alloc_heap_new w _) rfl⟩
theorem nm3_le : ∀ x ∈ nm3, x.size ≤ 1000 := by decide
set_option maxHeartbeats 4000000 in
set_option maxRecDepth 100000 in
theorem works_any (w : World) : Gives 14 #[] w (.bool true) := by
  unfold Gives
  have hN := new_any nm3 _ _ (fun x hx => Nat.le_trans (nm3_le x hx) (by decide)) (ss_nm3 w)
  have HN := Lib.hid hN
  clear hN
  go_enter Try.func14, Try.ntmps14
  go_wp2_with (go_at_call 42; refine HN.out.mono ?_; rintro e w1 ⟨hb1, ⟨hne, _⟩ | ⟨_, B, rfl, hI⟩⟩; first | exact absurd k1 hne | skip)
  have hb0 : Below w.heap.size w w1 := ((Below.refl _ w).alloc (Nat.le_refl _) _).trans (hb1.mono (by rw [World.size_alloc]; omega))
  obtain ⟨base, hbase⟩ : ∃ base, (w.alloc (.cells #[.string ⟨#[118, 111, 105, 99, 101]⟩, .string ⟨#[115, 116, 111, 112]⟩, .string ⟨#[118, 111, 119, 101, 108]⟩] 9)).heap.size = base := ⟨_, rfl⟩
  have hbs : w.heap.size < base := by rw [← hbase, World.size_alloc]; omega
  rw [hbase] at hI
  obtain ⟨nv, bf, bs, by_, hJ⟩ := hI.inv
  have hz0 := hb0.size
  have hlB := hJ.lt
  have hlS := hJ.sounds.lt
  have hlY := hJ.symbols.lt
  have hgB := hJ.hB
  have hgS := hJ.hs
  have hgY := hJ.hy
  have hBu : Gives 29 #[.pointer (some ⟨B, 0, none⟩), .string ⟨#[43, 118, 111, 119, 101, 108, 32, 45, 115, 116, 111, 112]⟩] w1 (.tuple #[.agg #[.int .u32 4, .int .u32 2], .int .i64 0]) := by
    have h := bundle_any hJ (by decide) tBun (by decide)
    rw [k2] at h
    exact h
  have hTx : ∀ W, Below w1.heap.size w1 W → Gives 31 #[.pointer (some ⟨B, 0, none⟩), .agg #[.int .u32 4, .int .u32 2]] W (.tuple #[.string ⟨#[45, 115, 116, 111, 112, 32, 43, 118, 111, 119, 101, 108]⟩, .int .i64 0]) := fun W hb => by
    have h := text_any (hJ.below hb) (by decide) (4#32, 2#32) k3 nm3_le (by rw [k4]; decide)
    rw [k4] at h
    exact h
  have hA1 : ∀ W, Below w1.heap.size w1 W → Calls Try.prog 23 #[.pointer (some ⟨B, 0, none⟩), .string ⟨#[112]⟩, .agg #[.int .u32 2, .int .u32 5]] W fun e w' => e = .returned (.int .i64 0) ∧ ∃ av', Inv w' base B nm3 [(⟨#[112]⟩, (2#32, 5#32))] nv av' bf bs by_ ∧ Touch W w' B bs by_ (.slice none 0 0) := fun W hb => by
    have h := add_any (hJ.below hb) ⟨#[112]⟩ (2#32, 5#32) (by decide) (by decide) (by decide)
    rw [k5] at h
    exact h.mono fun e w' ⟨h1, h2⟩ => ⟨h1, h2.elim (fun h => absurd rfl h.1) (fun h => h.2)⟩
  have hA2 : ∀ W av, Inv W base B nm3 [(⟨#[112]⟩, (2#32, 5#32))] nv av bf bs by_ → Calls Try.prog 23 #[.pointer (some ⟨B, 0, none⟩), .string ⟨#[112, 104]⟩, .agg #[.int .u32 2, .int .u32 1]] W fun e w' => e = .returned (.int .i64 0) ∧ ∃ av', Inv w' base B nm3 [(⟨#[112]⟩, (2#32, 5#32)), (⟨#[112, 104]⟩, (2#32, 1#32))] nv av' bf bs by_ ∧ Touch W w' B bs by_ av := fun W av hi => by
    have h := add_any hi ⟨#[112, 104]⟩ (2#32, 1#32) (by decide) (by decide) (by decide)
    rw [k6] at h
    exact h.mono fun e w' ⟨h1, h2⟩ => ⟨h1, h2.elim (fun h => absurd rfl h.1) (fun h => h.2)⟩
  have hLo : ∀ W av, Inv W base B nm3 [(⟨#[112]⟩, (2#32, 5#32)), (⟨#[112, 104]⟩, (2#32, 1#32))] nv av bf bs by_ → Gives 35 #[.pointer (some ⟨B, 0, none⟩), .string ⟨#[112, 104, 97, 116]⟩] W (.tuple #[.string ⟨#[112, 104]⟩, .bool true]) := fun W av hi => by
    have h := longest_any hi ⟨#[112, 104, 97, 116]⟩ (by decide)
    rw [show min (ByteArray.size ⟨#[112, 104, 97, 116]⟩) 4 = 4 from rfl, k7] at h
    exact h
  have HBu := Lib.hid hBu; have HTx := Lib.hid hTx; have HA1 := Lib.hid hA1; have HA2 := Lib.hid hA2; have HLo := Lib.hid hLo; have HB0 := Lib.hid hb0
  clear hBu hTx hA1 hA2 hLo hb0 hb1 hI HN hJ hbase
  go_wp2_with (go_at_call 29; refine Gives.then HBu.out ?_; intro w2 hb2)
  have hz2 := hb2.size
  have s2 : (w2.alloc (.cells #[.int .u32 4, .int .u32 2] 39)).heap[w2.heap.size]? = some (.cells #[.int .u32 4, .int .u32 2] 39) := World.alloc_heap_new _ _
  have hb2' : Below w1.heap.size w1 (w2.alloc (.cells #[.int .u32 4, .int .u32 2] 39)) := hb2.alloc hz2 _
  have z2 : (w2.alloc (.cells #[.int .u32 4, .int .u32 2] 39)).heap.size = w2.heap.size + 1 := World.size_alloc _ _
  have S2 := Lib.hid s2; have HB2 := Lib.hid hb2'
  clear s2 hb2' hb2
  go_wp2_with (go_at_call 31; refine Gives.then (HTx.out _ HB2.out) ?_; intro w3 hb3)
  have s3 : w3.heap[w2.heap.size]? = some (.cells #[.int .u32 4, .int .u32 2] 39) := (hb3.block w2.heap.size (by omega)).trans S2.out
  have hb3' : Below w1.heap.size w1 w3 := HB2.out.trans (hb3.mono (by omega))
  have z3 : w2.heap.size < w3.heap.size := by have := hb3.size; omega
  have S3 := Lib.hid s3; have HB3 := Lib.hid hb3'
  clear s3 hb3' hb3 S2 z2 HB2
  go_wp2_with (go_at_call 23; (with_reducible refine (HA1.out w3 HB3.out).mono ?_); rintro e w4 ⟨rfl, av, hJ4, ht4⟩)
  have s4 : w4.heap[w2.heap.size]? = some (.cells #[.int .u32 4, .int .u32 2] 39) := (ht4.2.2.2.2 w2.heap.size z3 (by omega) (by omega) (by omega) (by simp [Value.ownBlock])).trans S3.out
  have hb4 : Below w.heap.size w w4 := (HB0.out.trans (HB3.out.mono (by omega))).trans (ht4.toBelow (by omega) (by omega) (by omega) (by omega) (fun k e => by simp [Value.ownBlock] at e))
  have z4 : w2.heap.size < w4.heap.size := by have := ht4.2.2.2.1; omega
  have hfar : av.ownBlock ≠ some w2.heap.size := own_far hJ4.added s4 (by intro cs fz e; cases e)
  have hge : ∀ k, av.ownBlock = some k → w.heap.size ≤ k := fun k e => by
    obtain ⟨_, ⟨hv, _⟩ | ⟨g, cap, cur, hv, hg, _⟩⟩ := hJ4.added
    · rw [hv] at e; simp [Value.ownBlock] at e
    · rw [hv] at e; simp only [Value.ownBlock, Option.some.injEq] at e; omega
  have S4 := Lib.hid s4; have HB4 := Lib.hid hb4; have HJ4 := Lib.hid hJ4; have HF := Lib.hid hfar; have HG := Lib.hid hge
  clear s4 hb4 hJ4 ht4 hfar hge S3 HB3 z3
  go_wp2_with (go_at_call 23; (with_reducible refine (HA2.out w4 av HJ4.out).mono ?_); rintro e w5 ⟨rfl, av5, hJ5, ht5⟩)
  have s5 : w5.heap[w2.heap.size]? = some (.cells #[.int .u32 4, .int .u32 2] 39) := (ht5.2.2.2.2 w2.heap.size z4 (by omega) (by omega) (by omega) HF.out).trans S4.out
  have z5 : w2.heap.size < w5.heap.size := by have := ht5.2.2.2.1; omega
  have hb5 : Below w.heap.size w w5 := HB4.out.trans (ht5.toBelow (by omega) (by omega) (by omega) (by omega) HG.out)
  have S5 := Lib.hid s5; have HB5 := Lib.hid hb5; have HJ5 := Lib.hid hJ5
  clear s5 hb5 hJ5 ht5 S4 HB4 HJ4 HF HG z4
  go_wp2_with (go_at_call 35; refine Gives.then (HLo.out w5 av5 HJ5.out) ?_; intro w6 hb6; have c0 : w6.cell? ⟨w2.heap.size, 0, none⟩ = some (.int .u32 4) := cell_block ((hb6.block w2.heap.size z5).trans S5.out) rfl; have c1 : w6.cell? ⟨w2.heap.size, 1, none⟩ = some (.int .u32 2) := cell_block ((hb6.block w2.heap.size z5).trans S5.out) rfl)
  have hb7 : Below w.heap.size w w6 := HB5.out.trans (hb6.mono (by omega))
  have HB7 := Lib.hid hb7
  exact bodyPost_ret (v := .bool true) (by simp [results, Try.results14, go_sem]) rfl ⟨rfl, HB7.out⟩
end Go.Proofs.Ytmgikhldkebjbaa
