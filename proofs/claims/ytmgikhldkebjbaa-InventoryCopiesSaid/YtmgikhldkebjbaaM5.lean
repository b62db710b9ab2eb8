/-
  Lemmas that the theorem of this claim rests on: 7 texts, one behind the other.
-/
import Derived.Test.YtmgikhldkebjbaaM4
import Derived.Laws.IdiomStrings
import Derived.Deep.RegionLaw
import Derived.Deep.AppendLies

/-
  numbered: an inventory with so many features.
-/
namespace Go.Proofs.Ytmgikhldkebjbaa
open Go.RowKit Go.Shelf Go.Sort
/-- The name of feature i. -/
def nmI (i : Nat) : ByteArray := ⟨#[UInt8.ofNat (97 + i), 48]⟩
def nmL (n : Nat) : List ByteArray := (List.range n).map nmI
theorem nmL_len (n : Nat) : (nmL n).length = n := by simp [nmL]
theorem nmL_succ (n : Nat) : nmL (n + 1) = nmL n ++ [nmI n] := by simp [nmL, List.range_succ]
theorem nmL_ok : ∀ n : Fin 25, newE (nmL n.val) = 0 := by decide +kernel
theorem nmL_new (n : Nat) (h : n ≤ 24) : newE (nmL n) = 0 := nmL_ok ⟨n, by omega⟩
theorem Inv.mono {w : World} {base base' B : Nat} {l : List ByteArray} {a : List (ByteArray × Snd)} {nv av : Value} {bf bs by_ : Nat} (h : Inv w base B l a nv av bf bs by_) (hb : base' ≤ base) : Inv w base' B l a nv av bf bs by_ :=
  ⟨h.blk, h.names.mono hb, h.feats, h.added.mono hb, h.sounds, h.symbols, Nat.le_trans hb h.hB, Nat.le_trans hb h.hf, Nat.le_trans hb h.hs, Nat.le_trans hb h.hy, h.n1, h.n2, h.n3⟩
/-- Two bytes as a text. -/
theorem conv2 (w : World) (x y : Nat) (hx : x < 256) (hy : y < 256) : (convert 80 9 (.slice (some ⟨w.heap.size, 0, none⟩) 2 2)).run Try.prog (w.alloc (.cells #[.int .u8 (x : Int), .int .u8 (y : Int)] 5)) = .ok (.string ⟨#[UInt8.ofNat x, UInt8.ofNat y]⟩) (w.alloc (.cells #[.int .u8 (x : Int), .int .u8 (y : Int)] 5)) := by
  refine run_convert_bytes_back (l := [UInt8.ofNat x, UInt8.ofNat y]) _ _ _ 5 _ _ Try.underlying80 Try.underlying5 Try.underlying9 (fun j hj => ?_)
  have e1 : (UInt8.ofNat x).toNat = x := by simp; omega
  have e2 : (UInt8.ofNat y).toNat = y := by simp; omega
  match j, hj with
  | 0, _ =>
    rw [addr_addS]
    refine (cell_block (World.alloc_heap_new w _) rfl).trans ?_
    show some (Value.int .u8 (x : Int)) = some (.int .u8 ((UInt8.ofNat x).toNat : Int))
    rw [e1]
  | 1, _ =>
    rw [addr_addS]
    refine (cell_block (World.alloc_heap_new w _) rfl).trans ?_
    show some (Value.int .u8 (y : Int)) = some (.int .u8 ((UInt8.ofNat y).toNat : Int))
    rw [e2]
set_option maxRecDepth 100000 in
set_option maxHeartbeats 4000000 in
theorem numbered_any (n : Nat) (hn : n ≤ 24) (w : World) : Calls Try.prog 37 #[.int .i64 (n : Int)] w fun e w' => Below w.heap.size w w' ∧ ∃ B nv bf bs by_ lv, e = .returned (.tuple #[.pointer (some ⟨B, 0, none⟩), lv]) ∧ Inv w' w.heap.size B (nmL n) [] nv (.slice none 0 0) bf bs by_ ∧ OwnS w' w.heap.size lv (nmL n) := by
  go_enter Try.func37, Try.ntmps37
  go_wp2_with fail
  go_loopw [4, 9] (fun v i wr => ∃ k : Nat, k ≤ n ∧ i = .int .i64 (k : Int) ∧ OwnS wr w.heap.size v (nmL k) ∧ Below w.heap.size w wr) (fun _ i _ => n - (intOf i).toNat)
  case atStart => exact ⟨0, Nat.zero_le _, rfl, OwnS.nil _ _, Below.refl _ _⟩
  case round =>
    obtain ⟨k, hk, rfl, ho, hw⟩ := hrel
    obtain ⟨av, cv, hv, -, -, -⟩ := ho.ss.open
    rw [nmL_len] at hv
    subst hv
    have HO := Lib.hid ho; have HW := Lib.hid hw
    have hsz := hw.size
    clear ho hw
    by_cases hlt : k < n
    · have hcv := conv2 wr (97 + k) 48 (by omega) (by omega)
      have hcv : (convert 80 9 (.slice (some ⟨wr.heap.size, 0, none⟩) 2 2)).run Try.prog (wr.alloc (.cells #[.int .u8 (97 + (k : Int)), .int .u8 48] 5)) = .ok (.string (nmI k)) (wr.alloc (.cells #[.int .u8 (97 + (k : Int)), .int .u8 48] 5)) := by
        have e : ((97 + k : Nat) : Int) = 97 + (k : Int) := by omega
        rw [e] at hcv
        exact hcv
      have hb1 := (Below.refl wr.heap.size wr).alloc (Nat.le_refl _) (.cells #[.int .u8 (97 + (k : Int)), .int .u8 48] 5)
      have HB2 := Lib.hid (hb1.alloc hb1.size (.cells #[.string (nmI k)] 9))
      have hs1 := ss_one (wr.alloc (.cells #[.int .u8 (97 + (k : Int)), .int .u8 48] 5)) (nmI k)
      rw [World.size_alloc] at hs1
      have HS1 := Lib.hid hs1
      clear hb1 hs1
      go_wp2_with (at_builtin; refine wpList_appS rfl (.tmp 12) (.tmp 18) rfl w.heap.size _ _ (nmL k) [nmI k] rfl rfl (HO.out.below HB2.out) HS1.out (by rw [nmL_len]; simp; omega) (by simp only [World.size_alloc]; omega) ?_; intro v' w2 ho2 hk2 hz2; have HO2 := Lib.hid ho2; have HW2 := Lib.hid (hk2 _ _ (Nat.le_refl _) (HW.out.trans (HB2.out.mono hsz))); clear ho2 hk2 hz2)
      go_roundw
      case rel => exact ⟨k + 1, by omega, by go_num, by rw [nmL_succ]; exact HO2.out, HW2.out⟩
      case measure => simp [intOf]; omega
    · obtain rfl : k = n := by omega
      have hnew := new_any (nmL k) _ wr (fun x hx => by
        obtain ⟨i, _, rfl⟩ := List.mem_map.1 hx
        show (2 : Nat) ≤ _
        omega) HO.out.ss
      rw [nmL_new k hn] at hnew
      have HN := Lib.hid hnew
      clear hnew
      go_wp2_with fail
      go_at_call 42
      refine HN.out.mono ?_
      rintro e w2 ⟨hb, ⟨hne, _⟩ | ⟨_, B, rfl, hI⟩⟩
      · exact absurd rfl hne
      · obtain ⟨nv, bf, bs, by_, hJ⟩ := hI.inv
        have HJ := Lib.hid (hJ.mono hsz)
        have HOO := Lib.hid (HO.out.below hb)
        have HW2 := Lib.hid (HW.out.trans (hb.mono hsz))
        clear hb hI hJ HN
        go_wp2_with fail
        go_ret2
        exact ⟨HW2.out, B, nv, bf, bs, by_, _, rfl, HJ.out, HOO.out⟩
end Go.Proofs.Ytmgikhldkebjbaa

/-
  InventoryFull: the walk.
-/
namespace Go.Proofs.Ytmgikhldkebjbaa
open Go.RowKit Go.Shelf Go.Sort
def hexD : ByteArray := ⟨#[48, 49, 50, 51, 52, 53, 54, 55, 56, 57, 97, 98, 99, 100, 101, 102]⟩
def hx (k : Nat) : UInt8 := hexD.data.toList.getD k 0
/-- The symbol and the sound with a number. -/
def hxS (k : Nat) : ByteArray := ⟨#[hx (k / 16), hx (k % 16)]⟩
def hxK (shift i : Nat) : Nat := (i + shift) % 256
def hxL (shift n : Nat) : List (ByteArray × Snd) := (List.range n).map fun i => (hxS (hxK shift i), (BitVec.ofNat 32 (hxK shift i), 0#32))
theorem hxL_len (s n : Nat) : (hxL s n).length = n := by simp [hxL]
theorem hxL_succ (s n : Nat) : hxL s (n + 1) = hxL s n ++ [(hxS (hxK s n), (BitVec.ofNat 32 (hxK s n), 0#32))] := by simp [hxL, List.range_succ]
theorem hxS_inj : ∀ i : Fin 256, ∀ j : Fin 256, hxS i.val = hxS j.val → i = j := by
  have h : ∀ i : Fin 256, (hxS i.val).data.toList.map UInt8.toNat = [(hx (i.val / 16)).toNat, (hx (i.val % 16)).toNat] := fun i => rfl
  have hd : ∀ a : Fin 16, ∀ b : Fin 16, (hx a.val).toNat = (hx b.val).toNat → a = b := by decide +kernel
  intro i j e
  have e2 := congrArg (fun t => t.data.toList.map UInt8.toNat) e
  simp only [h, List.cons.injEq, and_true] at e2
  have h1 := hd ⟨i.val / 16, by omega⟩ ⟨j.val / 16, by omega⟩ e2.1
  have h2 := hd ⟨i.val % 16, by omega⟩ ⟨j.val % 16, by omega⟩ e2.2
  simp only [Fin.mk.injEq] at h1 h2
  exact Fin.ext (by omega)
theorem hxS_sym : ∀ i : Fin 256, isSym (hxS i.val) = true := by decide +kernel
theorem hx_has : ∀ i : Fin 512, hasB 9 (BitVec.ofNat 32 i.val, 0#32) = true := by decide +kernel
theorem hxK_inj {s i j : Nat} (hi : i < 256) (hj : j < 256) (h : hxK s i = hxK s j) : i = j := by unfold hxK at h; omega
theorem sndOf_none {a : List (ByteArray × Snd)} {k : ByteArray} (h : ∀ x ∈ a, k ≠ x.1) : sndOf a k = none := by
  unfold sndOf
  rw [List.find?_eq_none.2 (fun x hx => by simpa using h x hx)]; rfl
theorem symOf_none {a : List (ByteArray × Snd)} {s : Snd} (h : ∀ x ∈ a, s ≠ x.2) : symOf a s = none := by
  unfold symOf
  rw [List.find?_eq_none.2 (fun x hx => by simpa using h x hx)]; rfl
theorem sndOf_some {a : List (ByteArray × Snd)} {k : ByteArray} (h : ∃ x ∈ a, k = x.1) : (sndOf a k).isSome = true := by
  unfold sndOf
  rw [Option.isSome_map, List.find?_isSome]
  obtain ⟨x, hx, e⟩ := h
  exact ⟨x, hx, by simpa using e⟩
theorem symOf_some {a : List (ByteArray × Snd)} {s : Snd} (h : ∃ x ∈ a, s = x.2) : (symOf a s).isSome = true := by
  unfold symOf
  rw [Option.isSome_map, List.find?_isSome]
  obtain ⟨x, hx, e⟩ := h
  exact ⟨x, hx, by simpa using e⟩
theorem bv_inj {i j : Nat} (hi : i < 512) (hj : j < 512) (h : BitVec.ofNat 32 i = BitVec.ofNat 32 j) : i = j := by
  have := congrArg BitVec.toNat h
  rw [BitVec.toNat_ofNat, BitVec.toNat_ofNat] at this
  omega
/-- One more sound is taken. -/
theorem hx_add (s n : Nat) (hn : n < 256) : addE (nmL 9) (hxL s n) (hxS (hxK s n)) (BitVec.ofNat 32 (hxK s n), 0#32) = 0 := by
  have hk : hxK s n < 256 := Nat.mod_lt _ (by omega)
  have h1 : sndOf (hxL s n) (hxS (hxK s n)) = none := sndOf_none fun x hx => by
    obtain ⟨i, hi, rfl⟩ := List.mem_map.1 hx
    rw [List.mem_range] at hi
    intro e
    have e : hxK s n = hxK s i := congrArg Fin.val (hxS_inj ⟨hxK s n, hk⟩ ⟨hxK s i, Nat.mod_lt _ (by omega)⟩ e)
    have := hxK_inj hn (by omega) e
    omega
  have h2 : symOf (hxL s n) (BitVec.ofNat 32 (hxK s n), 0#32) = none := symOf_none fun x hx => by
    obtain ⟨i, hi, rfl⟩ := List.mem_map.1 hx
    rw [List.mem_range] at hi
    intro e
    have e := congrArg (fun z : Snd => z.1) e
    have hk2 : hxK s i < 256 := Nat.mod_lt _ (by omega)
    have := hxK_inj hn (by omega) (bv_inj (by omega) (by omega) e)
    omega
  unfold addE
  rw [hxS_sym ⟨_, hk⟩, nmL_len, hx_has ⟨hxK s n, by omega⟩, h1, h2, hxL_len, if_neg (by decide), if_neg (by decide), if_neg (by decide), if_neg (by omega)]
theorem hx_mem (s k : Nat) (hk : k < 256) : (hxS k, (BitVec.ofNat 32 k, 0#32)) ∈ hxL s 256 := by
  unfold hxL
  rw [List.mem_map]
  refine ⟨(k + 256 - s % 256) % 256, by rw [List.mem_range]; omega, ?_⟩
  have e : hxK s ((k + 256 - s % 256) % 256) = k := by unfold hxK; omega
  rw [e]
/-- What is answered when there are 256 sounds. -/
theorem hx_full (s : Nat) : addE (nmL 9) (hxL s 256) ⟨#[110, 101, 119]⟩ (256#32, 0#32) = 4 := by
  have h1 : sndOf (hxL s 256) ⟨#[110, 101, 119]⟩ = none := sndOf_none fun x hx => by
    obtain ⟨i, hi, rfl⟩ := List.mem_map.1 hx
    intro e
    have := congrArg ByteArray.size e
    cases this
  have h2 : symOf (hxL s 256) (256#32, 0#32) = none := symOf_none fun x hx => by
    obtain ⟨i, hi, rfl⟩ := List.mem_map.1 hx
    intro e
    have e := congrArg (fun z : Snd => z.1) e
    have hk2 : hxK s i < 256 := Nat.mod_lt _ (by omega)
    have := bv_inj (i := 256) (by omega) (by omega) e
    omega
  have h3 : isSym ⟨#[110, 101, 119]⟩ = true := by decide +kernel
  unfold addE
  rw [h3, nmL_len, show hasB 9 (256#32, 0#32) = true from hx_has ⟨256, by omega⟩, h1, h2, hxL_len, if_neg (by decide), if_neg (by decide), if_neg (by decide), if_pos (by omega)]
theorem hx_have1 (s : Nat) : addE (nmL 9) (hxL s 256) ⟨#[48, 48]⟩ (256#32, 0#32) = 6 := by
  have h1 := sndOf_some (a := hxL s 256) (k := ⟨#[48, 48]⟩) ⟨_, hx_mem s 0 (by omega), rfl⟩
  have h3 : isSym ⟨#[48, 48]⟩ = true := by decide +kernel
  unfold addE
  rw [h3, nmL_len, show hasB 9 (256#32, 0#32) = true from hx_has ⟨256, by omega⟩, h1, if_neg (by decide), if_neg (by decide), if_pos (by simp)]
theorem hx_have2 (s : Nat) : addE (nmL 9) (hxL s 256) ⟨#[110, 101, 119]⟩ (7#32, 0#32) = 6 := by
  have h1 := symOf_some (a := hxL s 256) (s := (7#32, 0#32)) ⟨_, hx_mem s 7 (by omega), rfl⟩
  have h3 : isSym ⟨#[110, 101, 119]⟩ = true := by decide +kernel
  unfold addE
  rw [h3, nmL_len, show hasB 9 (7#32, 0#32) = true from hx_has ⟨7, by omega⟩, h1, if_neg (by decide), if_neg (by decide), if_pos (by simp)]
theorem hx_sound (s : Nat) : addE (nmL 9) (hxL s 256) ⟨#[110, 101, 119]⟩ (512#32, 0#32) = 14 := by
  have h3 : isSym ⟨#[110, 101, 119]⟩ = true := by decide +kernel
  have h4 : hasB 9 (512#32, 0#32) = false := by decide +kernel
  unfold addE
  rw [h3, nmL_len, h4, if_neg (by decide), if_pos rfl]
theorem hx_name (s : Nat) : addE (nmL 9) (hxL s 256) ⟨#[49, 50, 51, 52, 53]⟩ (256#32, 0#32) = 15 := by
  have h3 : isSym ⟨#[49, 50, 51, 52, 53]⟩ = false := by decide +kernel
  unfold addE
  rw [h3, if_pos rfl]
end Go.Proofs.Ytmgikhldkebjbaa

/-
  InventoryFull: the walk.
-/
namespace Go.Proofs.Ytmgikhldkebjbaa
open Go.RowKit Go.Shelf Go.Sort
theorem hx_at (j : Nat) (hj : j < 16) (h : j < (⟨#[48, 49, 50, 51, 52, 53, 54, 55, 56, 57, 97, 98, 99, 100, 101, 102]⟩ : ByteArray).size) : (⟨#[48, 49, 50, 51, 52, 53, 54, 55, 56, 57, 97, 98, 99, 100, 101, 102]⟩ : ByteArray)[j]'h = hx j := by
  unfold hx hexD
  rw [List.getD_eq_getElem?_getD, List.getElem?_eq_getElem (by simpa using hj)]
  rfl
theorem conv2d (w : World) (x y : Nat) (hx : x < 256) (hy : y < 256) : (convert 80 9 (.slice (some ⟨w.heap.size, 0, none⟩) 2 2)).run Try.prog (w.alloc (.cells #[.int .u8 (x : Int), .int .u8 (y : Int)] 5)).drew = .ok (.string ⟨#[UInt8.ofNat x, UInt8.ofNat y]⟩) (w.alloc (.cells #[.int .u8 (x : Int), .int .u8 (y : Int)] 5)).drew := by
  refine run_convert_bytes_back (l := [UInt8.ofNat x, UInt8.ofNat y]) _ _ _ 5 _ _ Try.underlying80 Try.underlying5 Try.underlying9 (fun j hj => ?_)
  have e1 : (UInt8.ofNat x).toNat = x := by simp; omega
  have e2 : (UInt8.ofNat y).toNat = y := by simp; omega
  match j, hj with
  | 0, _ =>
    rw [addr_addS]
    refine (cell_block (World.alloc_heap_new w _) rfl : (w.alloc _).cell? _ = _).trans ?_
    show some (Value.int .u8 (x : Int)) = some (.int .u8 ((UInt8.ofNat x).toNat : Int))
    rw [e1]
  | 1, _ =>
    rw [addr_addS]
    refine (cell_block (World.alloc_heap_new w _) rfl : (w.alloc _).cell? _ = _).trans ?_
    show some (Value.int .u8 (y : Int)) = some (.int .u8 ((UInt8.ofNat y).toNat : Int))
    rw [e2]
/-- The inventory while sounds are added. -/
def FullR (s : Nat) (w : World) (B : Nat) (nv : Value) (bf bs by_ : Nat) (i : Value) (wr : World) : Prop := ∃ (n : Nat) (av : Value), n ≤ 256 ∧ i = .int .i64 (n : Int) ∧ Inv wr w.heap.size B (nmL 9) (hxL s n) nv av bf bs by_ ∧ Below w.heap.size w wr
theorem touch_below {w wr w' : World} {base B bs by_ : Nat} {l : List ByteArray} {a : List (ByteArray × Snd)} {nv av : Value} {bf : Nat} (h : Inv wr base B l a nv av bf bs by_) (hw : Below base w wr) (hb : base ≤ wr.heap.size) (ht : Touch wr w' B bs by_ av) : Below base w w' :=
  hw.trans (ht.toBelow hb h.hB h.hs h.hy (fun k e => by
    obtain ⟨_, ⟨hv, _⟩ | ⟨g, _, _, hv, hg, _⟩⟩ := h.added
    · rw [hv] at e; cases e
    · rw [hv] at e; simp only [Value.ownBlock, Option.some.injEq] at e; omega))
set_option maxRecDepth 100000 in
set_option maxHeartbeats 4000000 in
theorem full_any (s : Nat) (hs : s ≤ 255) (w : World) : Gives 12 #[.int .u8 (s : Int)] w (.bool true) := by
  unfold Gives
  have hN := numbered_any 9 (by decide) w
  rw [show ((9 : Nat) : Int) = 9 from rfl] at hN
  have HN := Lib.hid hN
  clear hN
  go_enter Try.func12, Try.ntmps12
  go_wp2_with fail
  go_at_call 37
  refine HN.out.mono ?_
  rintro e w1 ⟨hb1, B, nv, bf, bs, by_, lv, rfl, hI, ho⟩
  obtain ⟨al, cl, hlv, -, -, -⟩ := ho.ss.open
  rw [nmL_len] at hlv
  subst hlv
  have HI := Lib.hid hI; have HB1 := Lib.hid hb1
  clear hI ho hb1 HN
  go_wp2_with fail
  go_loopw [14] (fun i wr => FullR s w B nv bf bs by_ i wr) (fun i _ => 256 - (intOf i).toNat)
  case atStart => exact ⟨0, _, by omega, rfl, HI.out, HB1.out⟩
  case round =>
    obtain ⟨n, av, hn, rfl, hI, hw⟩ := hrel
    have HI := Lib.hid hI; have HW := Lib.hid hw
    clear hI hw
    by_cases hlt : n < 256
    · go_wp2_with fail
      have e : ((n : Int) + (s : Int)) % 256 = ((hxK s n : Nat) : Int) := by unfold hxK; omega
      have hk : hxK s n < 256 := Nat.mod_lt _ (by omega)
      have hadd := hx_add s n hlt
      have hsuc := hxL_succ s n
      rw [e]
      generalize hxK s n = k at *
      have hA : ∀ W, Below wr.heap.size wr W → Calls Try.prog 23 #[.pointer (some ⟨B, 0, none⟩), .string (hxS k), .agg #[.int .u32 (k : Int), .int .u32 0]] W fun e w' => e = .returned (.int .i64 0) ∧ ∃ av', Inv w' w.heap.size B (nmL 9) (hxL s (n + 1)) nv av' bf bs by_ ∧ Touch W w' B bs by_ av := fun W hb => by
        have h := add_any (HI.out.below hb) (hxS k) (BitVec.ofNat 32 k, 0#32) (by show (2 : Nat) ≤ _; omega) (by rw [nmL_len]; decide) (by rw [hxL_len]; omega)
        rw [hadd, ← hsuc] at h
        have e2 : snv (BitVec.ofNat 32 k, 0#32) = .agg #[.int .u32 (k : Int), .int .u32 0] := by
          unfold snv
          rw [BitVec.toNat_ofNat, Nat.mod_eq_of_lt (by omega)]
          rfl
        rw [e2] at h
        exact h.mono fun e w' ⟨h1, h2⟩ => ⟨h1, h2.elim (fun h => absurd rfl h.1) (fun h => h.2)⟩
      have HA := Lib.hid hA
      obtain ⟨q, hq⟩ : ∃ q, k / 16 = q := ⟨_, rfl⟩
      obtain ⟨r, hr⟩ : ∃ r, k % 16 = r := ⟨_, rfl⟩
      have q2 : (k : Int) % 16 = (r : Int) := by omega
      have q1 : (k : Int) / 16 = (q : Int) := by omega
      have q3 : IntKind.i64.wrap (q : Int) = (q : Int) := IntWalk.i64_in _ (by omega)
      have q4 : (k : Int).tmod 16 = (r : Int) := by rw [Int.tmod_eq_emod_of_nonneg (by omega)]; omega
      have q5 : IntKind.u32.wrap (k : Int) = (k : Int) := by rw [IntKind.wrap_u32]; omega
      have q6 : (q : Int) < 16 := by omega
      have q7 : (r : Int) < 16 := by omega
      have k1 : q < 16 := by omega
      have k2 : r < 16 := by omega
      have b1 : ∀ h, (⟨#[48, 49, 50, 51, 52, 53, 54, 55, 56, 57, 97, 98, 99, 100, 101, 102]⟩ : ByteArray)[q]'h = hx q := fun h => hx_at _ k1 h
      have b2 : ∀ h, (⟨#[48, 49, 50, 51, 52, 53, 54, 55, 56, 57, 97, 98, 99, 100, 101, 102]⟩ : ByteArray)[r]'h = hx r := fun h => hx_at _ k2 h
      have hcv := conv2d wr (hx q).toNat (hx r).toNat (UInt8.toNat_lt _) (UInt8.toNat_lt _)
      rw [UInt8.ofNat_toNat, UInt8.ofNat_toNat, show (⟨#[hx q, hx r]⟩ : ByteArray) = hxS k from by unfold hxS; rw [hq, hr]] at hcv
      have HQ := Lib.hid hq; have HR := Lib.hid hr
      have hb1 := ((Below.refl wr.heap.size wr).alloc (Nat.le_refl _) (.cells #[.int .u8 ((hx q).toNat : Int), .int .u8 ((hx r).toNat : Int)] 5)).drew
      have HB3 := Lib.hid hb1
      clear hA hadd hsuc e hq hr hb1
      go_region_law (go_simp; go_at_call 23; refine (HA.out _ HB3.out).mono ?_; rintro e w2 ⟨rfl, av2, hI2, ht2⟩; have HI2 := Lib.hid hI2; have HT2 := Lib.hid ht2; clear hI2 ht2)
      all_goals (
        have HW2 := Lib.hid (touch_below (HI.out.below HB3.out) (HW.out.trans (HB3.out.mono HW.out.size)) (Nat.le_trans HW.out.size HB3.out.size) HT2.out)
        clear hcv b1 b2 q1 q2 q3 q4 q5 q6 q7
        go_wp2_with fail
        refine ⟨?_, ?_⟩
        · exact ⟨n + 1, av2, by omega, by go_num, HI2.out, HW2.out⟩
        · simp [intOf]; omega)
    · obtain rfl : n = 256 := by omega
      have hA := fun (k : ByteArray) (sn : Snd) (hk : k.size ≤ 9223372036854775807) (W : World) (hb : Below wr.heap.size wr W) => add_any (HI.out.below hb) k sn hk (by rw [nmL_len]; decide) (by rw [hxL_len]; omega)
      have hN : ∀ (k : ByteArray) (sn : Snd) (e : Int) (hk : k.size ≤ 9223372036854775807) (he : addE (nmL 9) (hxL s 256) k sn = e) (h0 : e ≠ 0) (W : World) (hb : Below wr.heap.size wr W), Gives 23 #[.pointer (some ⟨B, 0, none⟩), .string k, snv sn] W (.int .i64 e) := fun k sn e hk he h0 W hb => by
        have h := hA k sn hk W hb
        rw [he] at h
        exact h.mono fun e w' ⟨h1, h2⟩ => ⟨h1, h2.elim (fun h => h.2) (fun h => absurd h.1 h0)⟩
      have h1 : ∀ W, Below wr.heap.size wr W → Gives 23 #[.pointer (some ⟨B, 0, none⟩), .string ⟨#[110, 101, 119]⟩, .agg #[.int .u32 256, .int .u32 0]] W (.int .i64 4) := hN ⟨#[110, 101, 119]⟩ (256#32, 0#32) 4 (by decide) (hx_full s) (by decide)
      have h2 : ∀ W, Below wr.heap.size wr W → Gives 23 #[.pointer (some ⟨B, 0, none⟩), .string ⟨#[48, 48]⟩, .agg #[.int .u32 256, .int .u32 0]] W (.int .i64 6) := hN ⟨#[48, 48]⟩ (256#32, 0#32) 6 (by decide) (hx_have1 s) (by decide)
      have h3 : ∀ W, Below wr.heap.size wr W → Gives 23 #[.pointer (some ⟨B, 0, none⟩), .string ⟨#[110, 101, 119]⟩, .agg #[.int .u32 7, .int .u32 0]] W (.int .i64 6) := hN ⟨#[110, 101, 119]⟩ (7#32, 0#32) 6 (by decide) (hx_have2 s) (by decide)
      have h4 : ∀ W, Below wr.heap.size wr W → Gives 23 #[.pointer (some ⟨B, 0, none⟩), .string ⟨#[110, 101, 119]⟩, .agg #[.int .u32 512, .int .u32 0]] W (.int .i64 14) := hN ⟨#[110, 101, 119]⟩ (512#32, 0#32) 14 (by decide) (hx_sound s) (by decide)
      have h5 : ∀ W, Below wr.heap.size wr W → Gives 23 #[.pointer (some ⟨B, 0, none⟩), .string ⟨#[49, 50, 51, 52, 53]⟩, .agg #[.int .u32 256, .int .u32 0]] W (.int .i64 15) := hN ⟨#[49, 50, 51, 52, 53]⟩ (256#32, 0#32) 15 (by decide) (hx_name s) (by decide)
      have h6 := fun (W : World) (hb : Below wr.heap.size wr W) => len_any (HI.out.below hb)
      rw [hxL_len] at h6
      have H1 := Lib.hid h1; have H2 := Lib.hid h2; have H3 := Lib.hid h3; have H4 := Lib.hid h4; have H5 := Lib.hid h5; have H6 := Lib.hid h6
      clear hA hN h1 h2 h3 h4 h5 h6 HI
      go_wp2_with fail
      go_at_call 23
      (with_reducible refine Gives.then (H1.out _ (Below.refl _ _)) ?_)
      intro w2 hb2
      have HW2 := Lib.hid hb2
      clear hb2
      go_wp2_with fail
      go_at_call 23
      (with_reducible refine Gives.then (H2.out _ HW2.out) ?_)
      intro w3 hb3
      have HW3 := Lib.hid (HW2.out.trans (hb3.mono HW2.out.size))
      clear hb3
      go_wp2_with fail
      go_at_call 23
      (with_reducible refine Gives.then (H3.out _ HW3.out) ?_)
      intro w4 hb4
      have HW4 := Lib.hid (HW3.out.trans (hb4.mono HW3.out.size))
      clear hb4
      go_wp2_with fail
      go_at_call 23
      (with_reducible refine Gives.then (H4.out _ HW4.out) ?_)
      intro w5 hb5
      have HW5 := Lib.hid (HW4.out.trans (hb5.mono HW4.out.size))
      clear hb5
      go_wp2_with fail
      go_at_call 23
      (with_reducible refine Gives.then (H5.out _ HW5.out) ?_)
      intro w6 hb6
      have HW6 := Lib.hid (HW5.out.trans (hb6.mono HW5.out.size))
      clear hb6
      go_wp2_with fail
      go_at_call 22
      (with_reducible refine Gives.then (H6.out _ HW6.out) ?_)
      intro w7 hb7
      have HW7 := Lib.hid (HW6.out.trans (hb7.mono HW6.out.size))
      clear hb7
      go_wp2_with (go_at_call 14; refine Gives.then (works_any _) ?_; intro w8 hb8)
      go_returns
      exact ⟨rfl, (HW.out.trans (HW7.out.mono HW.out.size)).trans (hb8.mono (Nat.le_trans HW.out.size HW7.out.size))⟩
end Go.Proofs.Ytmgikhldkebjbaa

/-
  Add: where the list of what was added lies afterwards.
-/
namespace Go.Proofs.Ytmgikhldkebjbaa
open Go.RowKit Go.Sort
theorem step_appN2 {ops : Array Oper} {o : Oper} {a : Act} {w : World} {K : Act → World → Prop} {Q : Exit → Act → World → Prop} {E : Prop} (hgd : o.guard = none) (s x : Operand)
    (ho : o.op = .call { callee := .builtin .append, args := #[s, x], argTypes := #[46, 46] })
    (base D : Nat) (v : Value) (xs : List (ByteArray × Snd)) (k : ByteArray) (p m : BitVec 32) (hs : a.eval s = v) (hx : a.eval x = .slice (some ⟨D, 0, none⟩) 1 1) (hB : w.heap[D]? = some (.cells #[.string k, .int .u32 p.toNat, .int .u32 m.toNat] 47 (0, 0))) (hown : OwnN w base v xs) (hlen : xs.length + 1 ≤ 1000000) (hbase : base ≤ w.heap.size)
    (h : ∀ g cap n w', OwnN w' base (.slice (some ⟨g, 0, none⟩) n cap) (xs ++ [(k, (p, m))]) → w.grownBy w' v.ownBlock → (v.ownBlock = some g ∨ g = w.heap.size) → K (a.put o.dst (.slice (some ⟨g, 0, none⟩) n cap)) w') :
    if Region.wanted o (yielded ops a.tmps) = true then Oper.wp Try.prog o a w K Q else E := by
  obtain ⟨i, hi, hz, hs1, hb1⟩ := info_parts infoNamed
  refine step_append_lies w hgd s x 46 ho base 47 i _ 3 24 Try.underlying46 hi hz hs1 hb1 rfl (by decide) v xs.length (flatN xs) hs hown ⟨D, 0, none⟩ 1 1 [.string k, .int .u32 p.toNat, .int .u32 m.toNat] hx rfl (World.news_of_block (cs := #[.string k, .int .u32 p.toNat, .int .u32 m.toNat]) hB) (by simp [Value.oneCell']) (by decide) (Nat.le_trans hlen (by decide)) (by omega) hbase w.heap.size rfl ?_
  intro g cap w' h1 hg hn _
  refine h g cap (xs.length + 1) w' ?_ hg hn
  unfold OwnN
  rw [flatN_append, List.length_append]
  exact h1
set_option maxRecDepth 100000 in
set_option maxHeartbeats 8000000 in
theorem add_all {w : World} {base B : Nat} {l : List ByteArray} {a : List (ByteArray × Snd)} {nv av : Value} {bf bs by_ : Nat} (h : Inv w base B l a nv av bf bs by_) (k : ByteArray) (s : Snd) (hk : k.size ≤ 9223372036854775807) (hl : l.length ≤ 24) (ha : a.length ≤ 256) : Calls Try.prog 23 #[.pointer (some ⟨B, 0, none⟩), .string k, snv s] w fun e w' => e = .returned (.int .i64 (addE l a k s)) ∧ ((addE l a k s ≠ 0 ∧ Below w.heap.size w w') ∨ (addE l a k s = 0 ∧ ∃ av', Inv w' base B l (a ++ [(k, s)]) nv av' bf bs by_ ∧ Touch w w' B bs by_ av ∧ ∀ k, av'.ownBlock = some k → av.ownBlock = some k ∨ w.heap.size ≤ k)) := by
  have HI := Lib.hid h
  have hB := h.lt
  obtain ⟨ao, ac, rfl⟩ := h.added.slice
  have hY := isSymbol_any k hk
  have hH := fun W (hW : Inv W base B l a nv (.slice ao a.length ac) bf bs by_) => has_any hW s hl
  generalize hEE : addE l a k s = E at *
  have hE1 := hEE
  unfold addE at hE1
  have HA := Lib.hid ha
  have HNB : Hid (B < w.heap.size ∧ bs < w.heap.size ∧ by_ < w.heap.size ∧ Value.ownBlock (.slice ao a.length ac) ≠ some w.heap.size) := Lib.hid ⟨hB, HI.out.sounds.lt, HI.out.symbols.lt, fun e => by have := own_lt HI.out.added e; omega⟩
  obtain ⟨t, ht⟩ : ∃ t, (sndOf a k).getD (0#32, 0#32) = t := ⟨_, rfl⟩
  have HG := Lib.hid (snd_get a k t ht)
  have HS := Lib.hid (fnd_snd k a 0).2
  obtain ⟨u, hu⟩ : ∃ u, (symOf a s).getD ⟨#[]⟩ = u := ⟨_, rfl⟩
  have HGY := Lib.hid (sym_get a s u hu)
  have HSY := Lib.hid (fnd_sym s a 0).2
  generalize (sndOf a k).isSome = q1 at *
  generalize (symOf a s).isSome = q2 at *
  generalize isSym k = y at *
  generalize hasB l.length s = hb at *
  obtain ⟨p, m⟩ := s
  have hlk : ∀ W, YMap W by_ (a.map fun x => (x.2, Value.string x.1)) → (Instr.lookup 57 (.map (some by_)) (.agg #[.int .u32 p.toNat, .int .u32 m.toNat]) true).run Try.prog W = .ok (.tuple #[.string u, .bool q2]) W := fun W hW => by
    have := run_lookup_y Try.underlying57 (z := .string ⟨#[]⟩) (fun _ => by kernel_rfl) hW (p, m)
    rw [HGY.out, HSY.out] at this
    exact this
  have HLK := Lib.hid hlk; have HY := Lib.hid hY; have HH := Lib.hid hH
  unfold snv at *
  clear hlk hY hH h hEE ht hu
  have hI0 := HI.out.below ((Below.refl _ w).alloc (Nat.le_refl _) (.cells #[.int .u32 p.toNat, .int .u32 m.toNat] 39))
  have HI0 := Lib.hid hI0
  have hw0 := (Below.refl w.heap.size w).alloc (Nat.le_refl _) (.cells #[.int .u32 p.toNat, .int .u32 m.toNat] 39)
  have HW0 := Lib.hid hw0
  clear hI0 hw0
  have k0 := cell_block (World.alloc_heap_new w (.cells #[.int .u32 p.toNat, .int .u32 m.toNat] 39)) (o := 0) rfl
  have k1 := cell_block (World.alloc_heap_new w (.cells #[.int .u32 p.toNat, .int .u32 m.toNat] 39)) (o := 1) rfl
  go_enter Try.func23, Try.ntmps23
  go_wp2_with fail
  go_at_call 44
  refine Gives.then (valid_yes B _ HI0.out.cells.1) ?_
  intro w1 hb1
  have HI1 := Lib.hid (HI0.out.below hb1)
  have hw1 := HW0.out.trans (hb1.mono HW0.out.size)
  have r0 := (hb1.cell (p := ⟨w.heap.size, 0, none⟩) (by simp)).trans k0
  have r1 := (hb1.cell (p := ⟨w.heap.size, 1, none⟩) (by simp)).trans k1
  have lw : w.heap.size < w1.heap.size := by have := hb1.size; rw [World.size_alloc] at this; omega
  clear hb1 k0 k1 HI0 HW0 HI
  go_wp2_with fail
  go_at_call 46
  refine Gives.then (HY.out _) ?_
  intro w2 hb2
  have HI2 := Lib.hid (HI1.out.below hb2)
  have hw2 := hw1.trans (hb2.mono hw1.size)
  have r0 := (hb2.cell (p := ⟨w.heap.size, 0, none⟩) lw).trans r0
  have r1 := (hb2.cell (p := ⟨w.heap.size, 1, none⟩) lw).trans r1
  have lw := Nat.lt_of_lt_of_le lw hb2.size
  clear hb2 HI1 hw1
  cases y
  · go_wp2_with fail
    go_returns
    have hE2 : E = 15 := hE1.symm
    exact ⟨by rw [hE2]; rfl, .inl ⟨by rw [hE2]; decide, hw2⟩⟩
  · go_wp2_with fail
    go_at_call 47
    refine Gives.then (HH.out _ HI2.out) ?_
    intro w3 hb3
    have HI3 := Lib.hid (HI2.out.below hb3)
    have hw3 := hw2.trans (hb3.mono hw2.size)
    have r0 := (hb3.cell (p := ⟨w.heap.size, 0, none⟩) lw).trans r0
    have r1 := (hb3.cell (p := ⟨w.heap.size, 1, none⟩) lw).trans r1
    have lw := Nat.lt_of_lt_of_le lw hb3.size
    clear hb3 HI2 hw2
    cases hb
    · go_wp2_with fail
      go_returns
      have hE2 : E = 14 := hE1.symm
      exact ⟨by rw [hE2]; rfl, .inl ⟨by rw [hE2]; decide, hw3⟩⟩
    · have c4 := HI3.out.cells.2.2.2.2.1
      go_wp2_with (at_lookup; refine wpList_lookup_s rfl (.tmp 25) (.tmp 26) 56 rfl Try.underlying56 Try.underlying9 (z := .agg #[.int .u32 0, .int .u32 0]) (fun _ => by kernel_rfl) bs (a.map fun x => (x.1, snv x.2)) k (.agg #[.int .u32 t.1.toNat, .int .u32 t.2.toNat]) q1 rfl rfl HI3.out.sounds HG.out HS.out ?_)
      have HI4 := Lib.hid (HI3.out.below ((Below.refl _ w3).alloc (Nat.le_refl _) (.cells #[.int .u32 t.1.toNat, .int .u32 t.2.toNat] 39)).drew)
      have c5 : (w3.alloc (.cells #[.int .u32 t.1.toNat, .int .u32 t.2.toNat] 39)).drew.cell? ⟨B, 5, none⟩ = some (.map (some by_)) := HI4.out.cells.2.2.2.2.2
      have e0 : (w3.alloc (.cells #[.int .u32 t.1.toNat, .int .u32 t.2.toNat] 39)).drew.cell? ⟨w.heap.size, 0, none⟩ = some (.int .u32 p.toNat) := cell_past lw r0
      have e1 : (w3.alloc (.cells #[.int .u32 t.1.toNat, .int .u32 t.2.toNat] 39)).drew.cell? ⟨w.heap.size, 1, none⟩ = some (.int .u32 m.toNat) := cell_past lw r1
      have hl1 := HLK.out (w3.alloc (.cells #[.int .u32 t.1.toNat, .int .u32 t.2.toNat] 39)).drew HI4.out.symbols
      have hw4 := (hw3.alloc hw3.size (.cells #[.int .u32 t.1.toNat, .int .u32 t.2.toNat] 39)).drew
      have HW4 := Lib.hid hw4
      have lw4 : w.heap.size < (w3.alloc (.cells #[.int .u32 t.1.toNat, .int .u32 t.2.toNat] 39)).drew.heap.size := by show _ < (w3.alloc _).heap.size; rw [World.size_alloc]; omega
      clear c4 hw3 hw4 HI3
      go_region
      clear hl1 r0 r1
      rcases hq : (q1 || q2) with _ | _
      · obtain ⟨rfl, rfl⟩ : q1 = false ∧ q2 = false := by cases q1 <;> cases q2 <;> simp_all
        have c3 : (w3.alloc (.cells #[.int .u32 t.1.toNat, .int .u32 t.2.toNat] 39)).drew.cell? ⟨B, 3, none⟩ = some (.slice ao a.length ac) := HI4.out.cells.2.2.2.1
        by_cases h256 : a.length = 256
        · have hE2 : E = 4 := by rw [← hE1]; simp [h256]
          have g1 : decide ((256 : Int) ≤ (a.length : Int)) = true := decide_eq_true (by omega)
          have g2 : decide (256 ≤ a.length) = true := decide_eq_true (by omega)
          go_wp2_with fail
          go_returns
          exact ⟨by rw [hE2]; rfl, .inl ⟨by rw [hE2]; decide, HW4.out⟩⟩
        · have hE2 : E = 0 := by rw [← hE1]; simp; omega
          have g1 : decide ((256 : Int) ≤ (a.length : Int)) = false := decide_eq_false (by omega)
          have g2 : decide (256 ≤ a.length) = false := decide_eq_false (by omega)
          go_wp2_with fail
          refine wp_gen ?_
          intro w4 hw4
          rw [← hw4] at HI4 HW4 c3 e0 e1 lw4 c5
          have h34 : Inv3 w4 base B l a (a.map fun x => (x.1, snv x.2)) (a.map fun x => (x.2, Value.string x.1)) nv (.slice ao a.length ac) bf bs by_ := ⟨HI4.out.blk, HI4.out.names, HI4.out.feats, HI4.out.added, HI4.out.sounds, HI4.out.symbols, HI4.out.hB, HI4.out.hf, HI4.out.hs, HI4.out.hy, HI4.out.n1, HI4.out.n2, HI4.out.n3⟩
          have H3 := Lib.hid h34
          have HT4 := Lib.hid (Touch.below (B := B) (bs := bs) (by_ := by_) (av := .slice ao a.length ac) HW4.out)
          have lB := HI4.out.lt
          have tc3 := fun X => cell_past (X := X) lB c3
          have te0 := fun X => cell_past (X := X) lw4 e0
          have te1 := fun X => cell_past (X := X) lw4 e1
          have HLA : Hid (a.length + 1 ≤ 1000000) := Lib.hid (by have := HA.out; omega)
          have HP := Lib.hid (put_new (v := snv (p, m)) HS.out)
          have HF := Lib.hid HSY.out
          clear h34 hw4 HI4 HW4 c5
          go_region_law (refine step_appN2 rfl (.tmp 53) (.tmp 57) rfl base w4.heap.size (.slice ao a.length ac) a k p m rfl rfl ?_ (World.ownsRow.drew (World.ownsRow.alloc H3.out.added _)) HLA.out ?_ ?_; (next => exact World.alloc_heap_new w4 _); (next => (have h1 := H3.out.hB; show base ≤ (w4.alloc _).heap.size; rw [World.size_alloc]; omega)); intro g6 c6 n6 w6 ho6 hg6 hn6; have HN6 : Hid (Value.ownBlock (.slice ao a.length ac) = some g6 ∨ w.heap.size ≤ g6) := Lib.hid (hn6.imp id (fun e => by rw [e]; show w.heap.size ≤ (w4.alloc _).heap.size; rw [World.size_alloc]; omega)); clear hn6; have hb5 := ((Below.refl _ w4).alloc (Nat.le_refl _) (.cells #[.string k, .int .u32 p.toNat, .int .u32 m.toNat] 47)).drew; have h5 := H3.out.below hb5; have hap := h5.app hg6 ho6; have c36 := cell_block (hap.1.trans h5.blk) (o := 3) rfl; have f36 := frozen_block (o := 3) (hap.1.trans h5.blk); have H6 := Lib.hid hap.2; have HG6 := Lib.hid hg6; have HB5 := Lib.hid hb5; clear hap h5 ho6 hg6 hb5)
          all_goals (
            have hg7 := set_grown w6 B 3 (.slice (some ⟨g6, 0, none⟩) n6 c6)
            have lw6 : w.heap.size < w6.heap.size := Nat.lt_of_lt_of_le (Nat.lt_of_lt_of_le lw4 HB5.out.size) HG6.out.size
            have e06 := (hg7.cell_far ⟨w.heap.size, 0, none⟩ lw6 (by have := HNB.out.1; simp only [ne_eq, Option.some.injEq]; omega)).trans ((HG6.out.cell_far ⟨w.heap.size, 0, none⟩ (Nat.lt_of_lt_of_le lw4 HB5.out.size) (Ne.symm HNB.out.2.2.2)).trans ((HB5.out.cell (p := ⟨w.heap.size, 0, none⟩) lw4).trans e0))
            have e16 := (hg7.cell_far ⟨w.heap.size, 1, none⟩ lw6 (by have := HNB.out.1; simp only [ne_eq, Option.some.injEq]; omega)).trans ((HG6.out.cell_far ⟨w.heap.size, 1, none⟩ (Nat.lt_of_lt_of_le lw4 HB5.out.size) (Ne.symm HNB.out.2.2.2)).trans ((HB5.out.cell (p := ⟨w.heap.size, 1, none⟩) lw4).trans e1))
            have HT7 := Lib.hid (((HT4.out.then_below HB5.out).grown HG6.out (fun q e => .inr (.inr (.inr (.inl e))))).grown hg7 (fun q e => by cases e; exact .inl rfl))
            have lw7 := Nat.lt_of_lt_of_le lw6 hg7.size
            clear hg7 lw6 HG6 HB5 HT4 H3 e0 e1 lw4 lB tc3 te0 te1 c3
            go_wp2_with fail
            refine wp_gen ?_
            intro w7 hw7
            rw [← hw7] at H6 HT7 e06 e16 lw7
            clear hw7 c36 f36
            have c4 : w7.drew.cell? ⟨B, 4, none⟩ = some (.map (some bs)) := cell_block H6.out.blk rfl
            have e0 : w7.drew.cell? ⟨w.heap.size, 0, none⟩ = _ := e06
            have e1 : w7.drew.cell? ⟨w.heap.size, 1, none⟩ = _ := e16
            obtain ⟨w8, hrun, hs8, hg8⟩ := run_update_s (P := Try.prog) (w := w7.drew) Try.underlying56 Try.underlying9 H6.out.sounds k (.agg #[.int .u32 p.toNat, .int .u32 m.toNat])
            have H8 := Lib.hid ((H6.out.below (Below.refl _ w7).drew).snd hg8 hs8)
            have HT8 := Lib.hid ((HT7.out.then_below (Below.refl _ w7).drew).grown hg8 (fun q e => by cases e; exact .inr (.inl rfl)))
            have e08 := (hg8.cell_far ⟨w.heap.size, 0, none⟩ lw7 (by have := HNB.out.2.1; simp only [ne_eq, Option.some.injEq]; omega)).trans e0
            have e18 := (hg8.cell_far ⟨w.heap.size, 1, none⟩ lw7 (by have := HNB.out.2.1; simp only [ne_eq, Option.some.injEq]; omega)).trans e1
            clear hs8 hg8 H6 HT7 e06 e16
            go_wp2_with fail
            go_region
            clear hrun c4 e0 e1
            have c5 : w8.drew.cell? ⟨B, 5, none⟩ = some (.map (some by_)) := cell_block H8.out.blk rfl
            have e0 : w8.drew.cell? ⟨w.heap.size, 0, none⟩ = _ := e08
            have e1 : w8.drew.cell? ⟨w.heap.size, 1, none⟩ = _ := e18
            obtain ⟨w9, hrun, hs9, hg9⟩ := run_update_y (w := w8.drew) Try.underlying57 H8.out.symbols (p, m) (.string k) (by
              have := HF.out
              cases hf : fndY (p, m) (a.map fun x => (x.2, Value.string x.1)) 0 with
              | none => rfl
              | some x => rw [hf] at this; cases this)
            have hrun : (Instr.mapUpdate 57 (.map (some by_)) (.agg #[.int .u32 p.toNat, .int .u32 m.toNat]) (.string k)).run Try.prog w8.drew = .ok () w9 := hrun
            have H9 := Lib.hid ((H8.out.below (Below.refl _ w8).drew).sym hg9 hs9)
            have HT9 := Lib.hid ((HT8.out.then_below (Below.refl _ w8).drew).grown hg9 (fun q e => by cases e; exact .inr (.inr (.inl rfl))))
            clear hs9 hg9 H8 HT8 e08 e18
            go_wp2_with fail
            go_region
            go_wp2_with fail
            go_returns
            refine ⟨by rw [hE2]; rfl, .inr ⟨hE2, .slice (some ⟨g6, 0, none⟩) n6 c6, ?_, HT9.out, fun k e => by simp only [Value.ownBlock, Option.some.injEq] at e; rw [← e]; exact HN6.out⟩⟩
            have z := H9.out
            have hp := HP.out
            refine ⟨z.blk, z.names, z.feats, z.added, ?_, ?_, z.hB, z.hf, z.hs, z.hy, z.n1, z.n2, z.n3⟩
            · have := z.sounds
              rw [List.map_append]
              rw [show put k (.agg #[.int .u32 p.toNat, .int .u32 m.toNat]) (a.map fun x => (x.1, snv x.2)) = _ from hp] at this
              exact this
            · have := z.symbols
              rw [List.map_append]
              exact this)
      · have hE2 : E = 6 := by rw [← hE1, hq]; rfl
        cases q1
        · obtain rfl : q2 = true := by simpa using hq
          go_wp2_with fail
          go_returns
          exact ⟨by rw [hE2]; rfl, .inl ⟨by rw [hE2]; decide, HW4.out⟩⟩
        · go_wp2_with fail
          go_returns
          exact ⟨by rw [hE2]; rfl, .inl ⟨by rw [hE2]; decide, HW4.out⟩⟩
end Go.Proofs.Ytmgikhldkebjbaa

/-
  Rows of named sounds of one's own beside an inventory; lists of steps.
-/
namespace Go.Proofs.Ytmgikhldkebjbaa
open Go.RowKit Go.Sort
/-- A list of steps that is read: a symbol and a sound each. -/
def Sp (w : World) (v : Value) (l : List (ByteArray × Snd)) : Prop :=
  (v = .slice none 0 0 ∧ l = []) ∨ ∃ b off cap, v = .slice (some ⟨b, off, none⟩) l.length cap ∧ l.length ≤ cap ∧ cap ≤ maxLen ∧ b < w.heap.size ∧ ∀ i (h : i < l.length), w.cell? ⟨b, off + i * 3, none⟩ = some (.string l[i].1) ∧ w.cell? ⟨b, off + i * 3 + 1, none⟩ = some (.int .u32 (l[i].2.1.toNat : Int)) ∧ w.cell? ⟨b, off + i * 3 + 2, none⟩ = some (.int .u32 (l[i].2.2.toNat : Int))
theorem Sp.below {w w' : World} {v : Value} {l : List (ByteArray × Snd)} (h : Sp w v l) (hb : Below w.heap.size w w') : Sp w' v l := by
  rcases h with h | ⟨b, off, cap, hv, h1, h2, h3, h4⟩
  · exact .inl h
  · refine .inr ⟨b, off, cap, hv, h1, h2, Nat.lt_of_lt_of_le h3 hb.size, fun i hi => ?_⟩
    obtain ⟨c0, c1, c2⟩ := h4 i hi
    exact ⟨(hb.cell (p := ⟨b, _, none⟩) h3).trans c0, (hb.cell (p := ⟨b, _, none⟩) h3).trans c1, (hb.cell (p := ⟨b, _, none⟩) h3).trans c2⟩
theorem Sp.open {w : World} {v : Value} {l : List (ByteArray × Snd)} (h : Sp w v l) : ∃ ao cap, v = .slice ao l.length cap ∧ l.length ≤ cap ∧ cap ≤ maxLen ∧ ∀ i (hi : i < l.length), ∃ b off, ao = some ⟨b, off, none⟩ ∧ b < w.heap.size ∧ w.cell? ⟨b, off + i * 3, none⟩ = some (.string l[i].1) ∧ w.cell? ⟨b, off + i * 3 + 1, none⟩ = some (.int .u32 (l[i].2.1.toNat : Int)) ∧ w.cell? ⟨b, off + i * 3 + 2, none⟩ = some (.int .u32 (l[i].2.2.toNat : Int)) := by
  rcases h with ⟨rfl, rfl⟩ | ⟨b, off, cap, rfl, h1, h2, h3, h4⟩
  · exact ⟨none, 0, rfl, by simp, by simp [maxLen], fun i hi => by simp at hi⟩
  · exact ⟨_, cap, rfl, h1, h2, fun i hi => ⟨b, off, rfl, h3, h4 i hi⟩⟩
theorem flatN_get : ∀ (l : List (ByteArray × Snd)) (i : Nat) (h : i < l.length), (flatN l)[i * 3]? = some (.string l[i].1) ∧ (flatN l)[i * 3 + 1]? = some (.int .u32 (l[i].2.1.toNat : Int)) ∧ (flatN l)[i * 3 + 2]? = some (.int .u32 (l[i].2.2.toNat : Int))
  | x :: l, 0, _ => ⟨rfl, rfl, rfl⟩
  | x :: l, i + 1, h => by
    have ih := flatN_get l i (by simpa using h)
    simp only [flatN, List.getElem_cons_succ]
    rw [show (i + 1) * 3 = i * 3 + 3 from by omega]
    exact ih
theorem OwnN.sp {w : World} {base : Nat} {v : Value} {l : List (ByteArray × Snd)} (h : OwnN w base v l) : Sp w v l := by
  obtain ⟨hl, ⟨rfl, h0⟩ | ⟨g, cap, cur, rfl, hg, hh, hn, hm, hs, ht⟩⟩ := h
  · exact .inl ⟨rfl, List.eq_nil_of_length_eq_zero h0⟩
  · refine .inr ⟨g, 0, cap, rfl, hn, hm, (Array.getElem?_eq_some_iff.1 hh).1, fun i hi => ?_⟩
    obtain ⟨e0, e1, e2⟩ := flatN_get l i hi
    have key : ∀ j u, j < l.length * 3 → (flatN l)[j]? = some u → w.cell? ⟨g, 0 + j, none⟩ = some u := fun j u hj e => by
      rw [Nat.zero_add]
      refine cell_block hh ?_
      rw [← e, ← ht, List.getElem?_take_of_lt hj, Array.getElem?_toList]
    refine ⟨key _ _ (by omega) e0, ?_, ?_⟩
    · rw [Nat.add_assoc]; exact key _ _ (by omega) e1
    · rw [Nat.add_assoc]; exact key _ _ (by omega) e2
theorem wpList_appN2 {ops : Array Oper} {rest : List Oper} {o : Oper} {a : Act} {w : World} {Q : Exit → Act → World → Prop} (hgd : o.guard = none) (s x : Operand)
    (ho : o.op = .call { callee := .builtin .append, args := #[s, x], argTypes := #[46, 46] })
    (base D : Nat) (v : Value) (xs : List (ByteArray × Snd)) (k : ByteArray) (p m : BitVec 32) (hs : a.eval s = v) (hx : a.eval x = .slice (some ⟨D, 0, none⟩) 1 1) (hB : w.heap[D]? = some (.cells #[.string k, .int .u32 p.toNat, .int .u32 m.toNat] 47 (0, 0))) (hown : OwnN w base v xs) (hlen : xs.length + 1 ≤ 1000000) (hbase : base ≤ w.heap.size)
    (h : ∀ g cap n w', OwnN w' base (.slice (some ⟨g, 0, none⟩) n cap) (xs ++ [(k, (p, m))]) → w.grownBy w' v.ownBlock → (v.ownBlock = some g ∨ g = w.heap.size) → n = xs.length + 1 → wpList Try.prog ops Q rest (a.put o.dst (.slice (some ⟨g, 0, none⟩) n cap)) w') :
    wpList Try.prog ops Q (o :: rest) a w := by
  obtain ⟨i, hi, hz, hs1, hb1⟩ := info_parts infoNamed
  refine wpList_append_lies w hgd s x 46 ho base 47 i _ 3 24 Try.underlying46 hi hz hs1 hb1 rfl (by decide) v xs.length (flatN xs) hs hown ⟨D, 0, none⟩ 1 1 [.string k, .int .u32 p.toNat, .int .u32 m.toNat] hx rfl (World.news_of_block (cs := #[.string k, .int .u32 p.toNat, .int .u32 m.toNat]) hB) (by simp [Value.oneCell']) (by decide) (Nat.le_trans hlen (by decide)) (by omega) hbase w.heap.size rfl ?_
  intro g cap w' h1 hg hn _
  refine h g cap (xs.length + 1) w' ?_ hg hn rfl
  unfold OwnN
  rw [flatN_append, List.length_append]
  exact h1
/-- Two rows that share no block. -/
def Apart (v u : Value) : Prop := ∀ k, v.ownBlock = some k → u.ownBlock ≠ some k
/-- A row of one's own that grows leaves the inventory as it was. -/
theorem Inv.beside {w w' : World} {base base' B : Nat} {l : List ByteArray} {a a' : List (ByteArray × Snd)} {nv av hv : Value} {bf bs by_ : Nat} (h : Inv w base B l a nv av bf bs by_) (hh : OwnN w base' hv a') (hd : Apart hv av) (hg : w.grownBy w' hv.ownBlock) : Inv w' base B l a nv av bf bs by_ := by
  obtain ⟨e1, e2, e3⟩ := h.feats.obj
  obtain ⟨s1, s2, s3⟩ := h.sounds.obj
  obtain ⟨y1, y2, y3⟩ := h.symbols.obj
  have kB := hg.block B h.lt (fun e => own_far hh h.blk (by intro cs fz e; simp at e) e.symm)
  have kf := hg.block bf h.feats.lt (fun e => own_far hh e3 (by intro cs fz e; cases e) e.symm)
  have ks := hg.block bs h.sounds.lt (fun e => own_far hh s3 (by intro cs fz e; cases e) e.symm)
  have ky := hg.block by_ h.symbols.lt (fun e => own_far hh y3 (by intro cs fz e; cases e) e.symm)
  have nn : OwnS w' base nv l := World.ownsRow.kept h.names hg (by
    cases hv2 : nv.ownBlock with
    | none => exact .inl rfl
    | some q =>
      refine .inr fun e => ?_
      obtain ⟨_, ⟨rfl, _⟩ | ⟨g1, _, _, rfl, _, hh2, _⟩⟩ := h.names
      · cases hv2
      · exact own_far hh hh2 (by intro cs fz e; simp at e) (by simp only [Value.ownBlock] at hv2 e ⊢; rw [← e, hv2]))
  have na : OwnN w' base av a := World.ownsRow.kept h.added hg (by
    cases hv2 : hv.ownBlock with
    | none =>
      cases ha : av.ownBlock with
      | none => exact .inl rfl
      | some q => exact .inr (by simp)
    | some q => exact .inr (hd q hv2))
  exact ⟨kB.trans h.blk, nn, h.feats.keep kf, na, h.sounds.keep ks, h.symbols.keep ky, h.hB, h.hf, h.hs, h.hy, h.n1, h.n2, h.n3⟩
/-- Add leaves a row of one's own as it was. -/
theorem OwnN.touch {w w' : World} {base base' B : Nat} {l : List ByteArray} {a a' : List (ByteArray × Snd)} {nv av hv : Value} {bf bs by_ : Nat} (hh : OwnN w base' hv a') (h : Inv w base B l a nv av bf bs by_) (hd : Apart hv av) (ht : Touch w w' B bs by_ av) : OwnN w' base' hv a' := by
  obtain ⟨s1, s2, s3⟩ := h.sounds.obj
  obtain ⟨y1, y2, y3⟩ := h.symbols.obj
  have n1 := own_far hh h.blk (by intro cs fz e; simp at e)
  have n2 := own_far hh s3 (by intro cs fz e; cases e)
  have n3 := own_far hh y3 (by intro cs fz e; cases e)
  obtain ⟨hl, h0 | ⟨g, cap, cur, hv2, hg, hb, hr⟩⟩ := hh
  · exact ⟨hl, .inl h0⟩
  · subst hv2
    simp only [Value.ownBlock, ne_eq, Option.some.injEq] at n1 n2 n3
    exact ⟨hl, .inr ⟨g, cap, cur, rfl, hg, (ht.2.2.2.2 g (Array.getElem?_eq_some_iff.1 hb).1 n1 n2 n3 (hd g rfl)).trans hb, hr⟩⟩
/-- The sounds that are taken, one after the other. -/
def grw (a : List (ByteArray × Snd)) : List (ByteArray × Snd) → List (ByteArray × Snd)
  | [] => a
  | x :: l => grw (if addE (nmL 24) a x.1 x.2 = 0 then a ++ [x] else a) l
theorem grw_snoc (x : ByteArray × Snd) : ∀ (l a : List (ByteArray × Snd)), grw a (l ++ [x]) = if addE (nmL 24) (grw a l) x.1 x.2 = 0 then grw a l ++ [x] else grw a l
  | [], a => rfl
  | y :: l, a => by
    simp only [List.cons_append, grw]
    exact grw_snoc x l _
theorem addE_len {l : List ByteArray} {a : List (ByteArray × Snd)} {k : ByteArray} {s : Snd} (h : addE l a k s = 0) : a.length < 256 := by
  unfold addE at h
  split at h
  · cases h
  · split at h
    · cases h
    · split at h
      · cases h
      · split at h
        · cases h
        · omega
theorem grw_len : ∀ (l a : List (ByteArray × Snd)), a.length ≤ 256 → (grw a l).length ≤ 256
  | [], _, h => h
  | x :: l, a, h => by
    simp only [grw]
    refine grw_len l _ ?_
    split
    · rename_i h0
      have := addE_len h0
      simp; omega
    · exact h
end Go.Proofs.Ytmgikhldkebjbaa

/-
  grown: an inventory with the first sounds of a list that it takes.
-/
namespace Go.Proofs.Ytmgikhldkebjbaa
open Go.RowKit Go.Sort
/-- Where the loop over the steps is. -/
def GrR (l : List (ByteArray × Snd)) (N : Nat) (w : World) (B : Nat) (nv : Value) (bf bs by_ : Nat) (hv i : Value) (wr : World) : Prop :=
  ∃ (k : Nat) (av : Value), k ≤ N ∧ i = .int .i64 (k : Int) ∧ Inv wr w.heap.size B (nmL 24) (grw [] (l.take k)) nv av bf bs by_ ∧ OwnN wr w.heap.size hv (grw [] (l.take k)) ∧ Apart hv av ∧ Below w.heap.size w wr
/-- What grown returns. -/
def GrP (l : List (ByteArray × Snd)) (w : World) (e : Ending) (w' : World) : Prop :=
  ∃ B nv av bf bs by_ hv, e = .returned (.tuple #[.pointer (some ⟨B, 0, none⟩), hv]) ∧ Inv w' w.heap.size B (nmL 24) (grw [] (l.take 300)) nv av bf bs by_ ∧ OwnN w' w.heap.size hv (grw [] (l.take 300)) ∧ Apart hv av ∧ Below w.heap.size w w'
theorem take300 (l : List (ByteArray × Snd)) (N : Nat) (h : min l.length 300 = N) : l.take 300 = l.take N := by
  rcases Nat.le_total l.length 300 with h1 | h1
  · rw [Nat.min_eq_left h1] at h
    rw [List.take_of_length_le h1, ← h, List.take_length]
  · rw [Nat.min_eq_right h1] at h
    rw [h]
theorem touch_block {w w' : World} {base B b : Nat} {l : List ByteArray} {a : List (ByteArray × Snd)} {nv av : Value} {bf bs by_ : Nat} {o : Obj} (h : Inv w base B l a nv av bf bs by_) (ht : Touch w w' B bs by_ av) (hb : w.heap[b]? = some o) (hne : ∀ cs, o ≠ .cells cs 59 (0, 0)) (hm : ∀ es n, o ≠ .map es n) (hn : ∀ cs fz, o ≠ .cells cs 47 fz) : w'.heap[b]? = some o := by
  obtain ⟨s1, s2, s3⟩ := h.sounds.obj
  obtain ⟨y1, y2, y3⟩ := h.symbols.obj
  refine (ht.2.2.2.2 b (Array.getElem?_eq_some_iff.1 hb).1 (ne_of_obj hb h.blk (hne _)) (ne_of_obj hb s3 (hm _ _)) (ne_of_obj hb y3 (hm _ _)) (own_far h.added hb hn)).trans hb
set_option maxRecDepth 100000 in
set_option maxHeartbeats 8000000 in
theorem grown_any (l : List (ByteArray × Snd)) (v : Value) (w : World) (hx : ∀ x ∈ l, x.1.size ≤ maxLen) (h : Sp w v l) : Calls Try.prog 41 #[v] w (GrP l w) := by
  have hN := numbered_any 24 (by decide) w
  rw [show ((24 : Nat) : Int) = 24 from rfl] at hN
  have HN := Lib.hid hN
  obtain ⟨ao, cap, rfl, c1, m1, hc⟩ := h.open
  unfold maxLen at m1 hx
  have HC := Lib.hid hc; have HX := Lib.hid hx
  have l1 : l.length ≤ 9223372036854775807 := by omega
  obtain ⟨N, hNN⟩ : ∃ N, min l.length 300 = N := ⟨_, rfl⟩
  have hN2 : min (l.length : Int) 300 = (N : Int) := by omega
  have hle : N ≤ l.length := by omega
  have hle2 : N ≤ 300 := by omega
  have hcp : N ≤ cap := by omega
  have HT := Lib.hid (take300 l N hNN)
  clear hN hc hx h hNN
  go_enter Try.func41, Try.ntmps41
  go_wp2_with fail
  go_at_call 37
  refine HN.out.mono ?_
  rintro e w1 ⟨hb1, B, nv, bf, bs, by_, lv, rfl, hI, ho⟩
  obtain ⟨al, cl, hlv, -, -, -⟩ := ho.ss.open
  rw [nmL_len] at hlv
  subst hlv
  have HI := Lib.hid hI; have HB1 := Lib.hid hb1
  clear hI ho hb1 HN
  go_wp2_with fail
  clear hN2
  go_loopw [6, 21] (fun hv i wr => GrR l N w B nv bf bs by_ hv i wr) (fun _ i _ => N - (intOf i).toNat)
  case atStart => exact ⟨0, _, Nat.zero_le _, rfl, HI.out, ⟨rfl, .inl ⟨rfl, rfl⟩⟩, (fun k e => by cases e), HB1.out⟩
  case round =>
    obtain ⟨k, av, hk, rfl, hI, hO, hD, hw⟩ := hrel
    obtain ⟨hoa, hcap, hhv⟩ := hO.slice
    obtain ⟨n, hn⟩ : ∃ n, (grw [] (l.take k)).length = n := ⟨_, rfl⟩
    rw [hn] at hhv
    subst hhv
    have hgl := grw_len (l.take k) [] (by decide)
    have hsz := hw.size
    have HII := Lib.hid hI; have HO := Lib.hid hO; have HD := Lib.hid hD; have HW := Lib.hid hw; have HNn := Lib.hid hn; have HGL := Lib.hid hgl
    clear hI hO hD hn hgl HI HB1
    by_cases hlt : k < N
    · have hkl : k < l.length := by omega
      obtain ⟨b, off, hao, lb, d0, d1, d2⟩ := HC.out k hkl
      have d0 := (hw.cell (p := ⟨b, _, none⟩) lb).trans d0
      have d1 := (hw.cell (p := ⟨b, _, none⟩) lb).trans d1
      have d2 := (hw.cell (p := ⟨b, _, none⟩) lb).trans d2
      have hxk := HX.out l[k] (List.getElem_mem hkl)
      have hsn := grw_snoc l[k] (l.take k) []
      rw [← List.take_succ_eq_append_getElem hkl] at hsn
      subst hao
      clear hw HC HX
      generalize l[k] = x at *
      obtain ⟨sy, p, m⟩ := x
      simp only at d0 d1 d2 hxk hsn
      have hb8 := (Below.refl wr.heap.size wr).alloc (Nat.le_refl _) (.cells #[.string sy, .int .u32 (p.toNat : Int), .int .u32 (m.toNat : Int)] 41)
      have hadd := add_all (HII.out.below hb8) sy (p, m) (by omega) (by rw [nmL_len]; decide) HGL.out
      have h8 := World.alloc_heap_new wr (.cells #[.string sy, .int .u32 (p.toNat : Int), .int .u32 (m.toNat : Int)] 41)
      have HB8 := Lib.hid hb8; have HADD := Lib.hid hadd; have H8 := Lib.hid h8; have HSN := Lib.hid hsn
      unfold snv at HADD
      clear hb8 hadd h8 hsn
      obtain ⟨E, hE⟩ : ∃ E, addE (nmL 24) (grw [] (l.take k)) sy (p, m) = E := ⟨_, rfl⟩
      rw [hE] at HADD HSN
      by_cases h0 : E = 0
      · subst h0
        have HSN := Lib.hid (HSN.out.trans (if_pos rfl))
        clear hE
        go_wp2_with fail
        go_at_call 23
        refine HADD.out.mono ?_
        rintro e w2 ⟨rfl, ⟨hne, _⟩ | ⟨_, av2, hI2, hT2, hF2⟩⟩
        · exact absurd rfl hne
        · have hI8 := HII.out.below HB8.out
          have hO2 := (HO.out.below HB8.out).touch hI8 HD.out hT2
          have h82 := touch_block hI8 hT2 H8.out (by intro cs e; simp at e) (by intro es n e; cases e) (by intro cs fz e; simp at e)
          have hw2 := touch_below hI8 (HW.out.trans (HB8.out.mono hsz)) (Nat.le_trans hsz HB8.out.size) hT2
          have hA2 : Apart (.slice hoa n hcap) av2 := fun q e e2 => by
            rcases hF2 q e2 with h1 | h1
            · exact HD.out q e h1
            · have := own_lt HO.out e
              rw [World.size_alloc] at h1
              omega
          have e0 : w2.cell? ⟨wr.heap.size, 0, none⟩ = some (.string sy) := cell_block h82 rfl
          have e1 : w2.cell? ⟨wr.heap.size, 1, none⟩ = some (.int .u32 (p.toNat : Int)) := cell_block h82 rfl
          have e2 : w2.cell? ⟨wr.heap.size, 2, none⟩ = some (.int .u32 (m.toNat : Int)) := cell_block h82 rfl
          have HI2 := Lib.hid hI2; have HO2 := Lib.hid hO2; have HA2 := Lib.hid hA2; have HW2 := Lib.hid hw2
          have hz2 := hw2.size
          clear hI2 hT2 hF2 hI8 hO2 h82 hA2 hw2 HADD
          go_wp2_with (at_builtin; refine wpList_appN2 rfl (.tmp 32) (.tmp 38) rfl w.heap.size w2.heap.size _ (grw [] (l.take k)) sy p m rfl rfl (World.alloc_heap_new w2 _) (HO2.out.below ((Below.refl _ w2).alloc (Nat.le_refl _) _)) (by have := HGL.out; omega) (by rw [World.size_alloc]; omega) ?_; intro g3 c3 n3 w3 ho3 hg3 hn3 hl3; have HO3 := Lib.hid ho3; have HG3 := Lib.hid hg3; have HN3 := Lib.hid hn3; clear ho3 hg3 hn3 hl3)
          have hba := (Below.refl w2.heap.size w2).alloc (Nat.le_refl _) (.cells #[.string sy, .int .u32 (p.toNat : Int), .int .u32 (m.toNat : Int)] 47)
          have hIa := HI2.out.below hba
          have hI3 := hIa.beside (HO2.out.below hba) HA2.out HG3.out
          have hA3 : Apart (.slice (some ⟨g3, 0, none⟩) n3 c3) av2 := fun q e e2 => by
            simp only [Value.ownBlock, Option.some.injEq] at e
            subst e
            rcases HN3.out with h1 | h1
            · exact HA2.out _ h1 e2
            · have := own_lt HI2.out.added e2
              rw [World.size_alloc] at h1
              omega
          have hw3 := (HW2.out.trans (hba.mono hz2)).grown HG3.out (by rw [World.size_alloc]; omega) (fun q e => by
            obtain ⟨_, ⟨hv, _⟩ | ⟨g, _, _, hv, hg, _⟩⟩ := HO2.out
            · rw [hv] at e; cases e
            · rw [hv] at e
              have e3 : some g = some q := e
              have e4 := Option.some.inj e3
              omega)
          have HI3 := Lib.hid hI3; have HA3 := Lib.hid hA3; have HW3 := Lib.hid hw3
          clear hI3 hA3 hw3 hIa hba HI2 HO2 HA2 HG3 HN3 e0 e1 e2
          go_roundw
          case rel => exact ⟨k + 1, av2, by omega, by go_num, by rw [HSN.out]; exact HI3.out, by rw [HSN.out]; exact HO3.out, HA3.out, HW3.out⟩
          case measure => simp [intOf]; omega
      · have h0b : (E == 0) = false := by rw [Bool.eq_false_iff]; intro e; exact h0 (beq_iff_eq.1 e)
        have HSN := Lib.hid (HSN.out.trans (if_neg h0))
        have H0 := Lib.hid h0
        clear h0 hE
        go_wp2_with fail
        go_at_call 23
        refine HADD.out.mono ?_
        rintro e w2 ⟨rfl, ⟨_, hb2⟩ | ⟨h00, _⟩⟩
        · have hbb := HB8.out.trans (hb2.mono HB8.out.size)
          have HI2 := Lib.hid (HII.out.below hbb); have HO2 := Lib.hid (HO.out.below hbb); have HW2 := Lib.hid (HW.out.trans (hbb.mono hsz))
          clear hb2 hbb HADD
          go_wp2_with fail
          go_roundw
          case rel => exact ⟨k + 1, av, by omega, by go_num, by rw [HSN.out]; exact HI2.out, by rw [HSN.out]; exact HO2.out, HD.out, HW2.out⟩
          case measure => simp [intOf]; omega
        · exact absurd h00 H0.out
    · obtain rfl : k = N := by omega
      clear hw
      have HP : Hid (Inv wr w.heap.size B (nmL 24) (grw [] (l.take 300)) nv av bf bs by_ ∧ OwnN wr w.heap.size (.slice hoa n hcap) (grw [] (l.take 300))) := Lib.hid (by rw [HT.out]; exact ⟨HII.out, HO.out⟩)
      go_wp2_with fail
      go_ret2
      exact ⟨B, nv, av, bf, bs, by_, _, rfl, HP.out.1, HP.out.2, HD.out, HW.out⟩
end Go.Proofs.Ytmgikhldkebjbaa

/-
  strings.HasPrefix; what the longest symbol is.
-/
namespace Go.Proofs.Ytmgikhldkebjbaa
open Go.RowKit Go.Sort
/-- Whether a text begins with another. -/
def hasP (s p : ByteArray) : Bool := decide (p.size ≤ s.size) && decide (s.extract 0 p.size = p)
set_option maxHeartbeats 1000000 in
theorem slHasP_any (s p : ByteArray) (hs : s.size ≤ 9223372036854775807) (hp : p.size ≤ 9223372036854775807) (w : World) : Gives 66 #[.string s, .string p] w (.bool (hasP s p)) := by
  unfold Gives hasP
  by_cases h1 : p.size ≤ s.size
  · have g1 : decide ((p.size : Int) ≤ (s.size : Int)) = true := decide_eq_true (by omega)
    have g2 : decide (p.size ≤ s.size) = true := decide_eq_true h1
    obtain ⟨x, hx⟩ : ∃ x, s.extract 0 p.size = x := ⟨_, rfl⟩
    rw [hx, g2, Bool.true_and]
    by_cases h2 : x = p
    · have e1 : (x.toList == p.toList) = true := by rw [toList_beq]; exact decide_eq_true h2
      have e2 : decide (x = p) = true := decide_eq_true h2
      rw [e2]
      have HX := Lib.hid hx
      have e3 : ((s.extract 0 p.size).toList == p.toList) = true := by rw [hx]; exact e1
      clear h2 hx e2
      go_enter Try.func66, Try.ntmps66
      go_wp2_with fail
      first
        | (go_returns; exact ⟨by first | rfl | simp, Below.refl _ _⟩)
        | (go_region; go_wp2_with fail; go_returns; exact ⟨by first | rfl | simp, (Below.refl _ w).drew⟩)
    · have e1 : (x.toList == p.toList) = false := by rw [toList_beq]; exact decide_eq_false h2
      have e2 : decide (x = p) = false := decide_eq_false h2
      rw [e2]
      have HX := Lib.hid hx
      have e3 : ((s.extract 0 p.size).toList == p.toList) = false := by rw [hx]; exact e1
      clear h2 hx e2
      go_enter Try.func66, Try.ntmps66
      go_wp2_with fail
      first
        | (go_returns; exact ⟨by first | rfl | simp, Below.refl _ _⟩)
        | (go_region; go_wp2_with fail; go_returns; exact ⟨by first | rfl | simp, (Below.refl _ w).drew⟩)
  · have g1 : decide ((p.size : Int) ≤ (s.size : Int)) = false := decide_eq_false (by omega)
    have g2 : decide (p.size ≤ s.size) = false := decide_eq_false h1
    rw [g2, Bool.false_and]
    clear h1
    go_enter Try.func66, Try.ntmps66
    go_wp2_with fail
    first
      | (go_returns; exact ⟨by first | rfl | simp, Below.refl _ _⟩)
      | (go_region; go_wp2_with fail; go_returns; exact ⟨by first | rfl | simp, (Below.refl _ w).drew⟩)
theorem hasP_any (s p : ByteArray) (hs : s.size ≤ 9223372036854775807) (hp : p.size ≤ 9223372036854775807) (w : World) : Gives 39 #[.string s, .string p] w (.bool (hasP s p)) := by
  have h := fun W => slHasP_any s p hs hp W
  generalize hasP s p = b at *
  have H := Lib.hid h
  clear h
  unfold Gives
  go_enter Try.func39, Try.ntmps39
  go_wp2_with (go_at_call 66; refine Gives.then (H.out _) ?_; intro w1 hb)
  go_returns
  exact ⟨rfl, hb⟩
theorem ext_size (t : ByteArray) (m : Nat) (h : m ≤ t.size) : (t.extract 0 m).size = m := by rw [ByteArray.size_extract]; omega
theorem lon_some {a : List (ByteArray × Snd)} {t x : ByteArray} : ∀ {n : Nat}, lonS a t n = some x → ∃ m, 1 ≤ m ∧ m ≤ n ∧ x = t.extract 0 m ∧ (sndOf a x).isSome = true ∧ ∀ q, m < q → q ≤ n → (sndOf a (t.extract 0 q)).isSome = false
  | 0, h => by cases h
  | n + 1, h => by
    cases hs : (sndOf a (t.extract 0 (n + 1))).isSome
    · simp only [lonS, hs] at h
      obtain ⟨m, h1, h2, h3, h4, h5⟩ := lon_some (n := n) (by simpa using h)
      refine ⟨m, h1, by omega, h3, h4, fun q hq hq2 => ?_⟩
      by_cases e : q = n + 1
      · rw [e]; exact hs
      · exact h5 q hq (by omega)
    · simp only [lonS, hs, if_true, Option.some.injEq] at h
      exact ⟨n + 1, by omega, Nat.le_refl _, h.symm, by rw [← h]; exact hs, fun q h1 h2 => by omega⟩
theorem lon_none {a : List (ByteArray × Snd)} {t : ByteArray} : ∀ {n : Nat}, lonS a t n = none → ∀ q, 1 ≤ q → q ≤ n → (sndOf a (t.extract 0 q)).isSome = false
  | 0, _, q, h1, h2 => by omega
  | n + 1, h, q, h1, h2 => by
    cases hs : (sndOf a (t.extract 0 (n + 1))).isSome
    · simp only [lonS, hs] at h
      by_cases e : q = n + 1
      · rw [e]; exact hs
      · exact lon_none (n := n) (by simpa using h) q h1 (by omega)
    · simp [lonS, hs] at h
theorem isSym_size {t : ByteArray} (h : isSym t = true) : 1 ≤ t.size ∧ t.size ≤ 4 := by
  unfold isSym cons at h
  simp only [Bool.and_eq_true, decide_eq_true_eq] at h
  exact ⟨h.1.1, h.1.2⟩
theorem addE_sym {l : List ByteArray} {a : List (ByteArray × Snd)} {k : ByteArray} {s : Snd} (h : addE l a k s = 0) : isSym k = true := by
  unfold addE at h
  split at h
  · cases h
  · rename_i h1; simpa using h1
theorem grw_sym : ∀ (l a : List (ByteArray × Snd)), (∀ x ∈ a, isSym x.1 = true) → ∀ x ∈ grw a l, isSym x.1 = true
  | [], _, h => h
  | x :: l, a, h => by
    simp only [grw]
    refine grw_sym l _ ?_
    split
    · rename_i h0
      intro y hy
      rcases List.mem_append.1 hy with hy | hy
      · exact h y hy
      · rw [List.mem_singleton.1 hy]; exact addE_sym h0
    · exact h
/-- What Longest's answer is, of a list of symbols. -/
theorem lon_is {a : List (ByteArray × Snd)} (hs : ∀ x ∈ a, isSym x.1 = true) (t : ByteArray) : ∃ (x : ByteArray) (ok : Bool), (lonS a t (min t.size 4)).getD ⟨#[]⟩ = x ∧ (lonS a t (min t.size 4)).isSome = ok ∧
    (sndOf a x).isSome = ok ∧ (ok = false → x.size = 0) ∧ x.size ≤ t.size ∧ hasP t x = true ∧ ∀ y ∈ a, x.size < y.1.size → hasP t y.1 = false := by
  have hno : (sndOf a ⟨#[]⟩).isSome = false := by
    rw [sndOf_none (fun y hy e => ?_)]; rfl
    have := (isSym_size (hs y hy)).1
    rw [← e] at this
    exact absurd this (by decide)
  have hfin : ∀ (n0 : Nat) (y : ByteArray × Snd), y ∈ a → n0 < y.1.size → (∀ q, n0 < q → q ≤ min t.size 4 → (sndOf a (t.extract 0 q)).isSome = false) → hasP t y.1 = false := fun n0 y hy hlt hq => by
    rw [Bool.eq_false_iff]
    intro hp
    unfold hasP at hp
    rw [Bool.and_eq_true, decide_eq_true_iff, decide_eq_true_iff] at hp
    have h4 := (isSym_size (hs y hy)).2
    have := hq y.1.size hlt (by omega)
    rw [hp.2, sndOf_some ⟨y, hy, rfl⟩] at this
    cases this
  cases hl : lonS a t (min t.size 4) with
  | none =>
    refine ⟨⟨#[]⟩, false, rfl, rfl, hno, fun _ => rfl, Nat.zero_le _, ?_, fun y hy hlt => hfin 0 y hy hlt fun q h1 h2 => lon_none hl q h1 h2⟩
    unfold hasP
    rw [Bool.and_eq_true, decide_eq_true_iff, decide_eq_true_iff]
    exact ⟨Nat.zero_le _, bytes_ext (by rw [ext_list]; rfl)⟩
  | some x =>
    obtain ⟨m, h1, h2, h3, h4, h5⟩ := lon_some hl
    have hm : x.size = m := by rw [h3, ext_size _ _ (by omega)]
    refine ⟨x, true, rfl, rfl, h4, (fun h => by cases h), by omega, ?_, fun y hy hlt => hfin m y hy (by omega) h5⟩
    unfold hasP
    rw [Bool.and_eq_true, decide_eq_true_iff, decide_eq_true_iff]
    exact ⟨by omega, by rw [hm]; exact h3.symm⟩
end Go.Proofs.Ytmgikhldkebjbaa
