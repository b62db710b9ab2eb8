/-
  Lemmas that the theorem of this claim rests on: 1 texts, one behind the other.
-/
import Derived.Test.YtmgikhldkebjbaaDoorM4
import Derived.Laws.IdiomStrings

/-
  numbered: an inventory with so many features.
-/
namespace Go.Proofs.YtmgikhldkebjbaaDoor
open Go.RowKit Go.Shelf Go.Sort
/-- The name of feature i. -/
def nmI (i : Nat) : ByteArray := ⟨#[UInt8.ofNat (97 + i), 48]⟩
def nmL (n : Nat) : List ByteArray := (List.range n).map nmI
theorem nmL_len (n : Nat) : (nmL n).length = n := by simp [nmL]
theorem nmL_succ (n : Nat) : nmL (n + 1) = nmL n ++ [nmI n] := by simp [nmL, List.range_succ]
theorem nmL_ok : ∀ n : Fin 25, newE (nmL n.val) = 0 := by decide +kernel
theorem nmL_new (n : Nat) (h : n ≤ 24) : newE (nmL n) = 0 := nmL_ok ⟨n, by omega⟩
theorem Inv.mono {w : World} {base base' B : Nat} {l : List ByteArray} {a : List (ByteArray × Snd)} {nv av : Value} {bf bs by_ : Nat} (h : Inv w base B l a nv av bf bs by_) (hb : base' ≤ base) : Inv w base' B l a nv av bf bs by_ :=
  ⟨h.blk, h.names.mono hb, h.feats, h.added.mono hb, h.sounds, h.symbols, Nat.le_trans hb h.hB, Nat.le_trans hb h.hf, Nat.le_trans hb h.hs, Nat.le_trans hb h.hy, h.n1, h.n2, h.n3⟩
/-- Two bytes as a text. -/
theorem conv2 (w : World) (x y : Nat) (hx : x < 256) (hy : y < 256) : (convert 41 9 (.slice (some ⟨w.heap.size, 0, none⟩) 2 2)).run Tryd.prog (w.alloc (.cells #[.int .u8 (x : Int), .int .u8 (y : Int)] 5)) = .ok (.string ⟨#[UInt8.ofNat x, UInt8.ofNat y]⟩) (w.alloc (.cells #[.int .u8 (x : Int), .int .u8 (y : Int)] 5)) := by
  refine run_convert_bytes_back (l := [UInt8.ofNat x, UInt8.ofNat y]) _ _ _ 5 _ _ Tryd.underlying41 Tryd.underlying5 Tryd.underlying9 (fun j hj => ?_)
  have e1 : (UInt8.ofNat x).toNat = x := by simp; omega
  have e2 : (UInt8.ofNat y).toNat = y := by simp; omega
  match j, hj with
  | 0, _ =>
    rw [addr_addS]
    refine (cell_block (World.alloc_heap_new w _) rfl).trans ?_
    show some (Value.int .u8 (x : Int)) = some (.int .u8 ((UInt8.ofNat x).toNat : Int))
    rw [e1]
  | 1, _ =>
    rw [addr_addS]
    refine (cell_block (World.alloc_heap_new w _) rfl).trans ?_
    show some (Value.int .u8 (y : Int)) = some (.int .u8 ((UInt8.ofNat y).toNat : Int))
    rw [e2]
set_option maxRecDepth 100000 in
set_option maxHeartbeats 4000000 in
theorem numbered_any (n : Nat) (hn : n ≤ 24) (w : World) : Calls Tryd.prog 4 #[.int .i64 (n : Int)] w fun e w' => Below w.heap.size w w' ∧ ∃ B nv bf bs by_ lv, e = .returned (.tuple #[.pointer (some ⟨B, 0, none⟩), lv]) ∧ Inv w' w.heap.size B (nmL n) [] nv (.slice none 0 0) bf bs by_ ∧ OwnS w' w.heap.size lv (nmL n) := by
  go_enter Tryd.func4, Tryd.ntmps4
  go_wp2_with fail
  go_loopw [4, 9] (fun v i wr => ∃ k : Nat, k ≤ n ∧ i = .int .i64 (k : Int) ∧ OwnS wr w.heap.size v (nmL k) ∧ Below w.heap.size w wr) (fun _ i _ => n - (intOf i).toNat)
  case atStart => exact ⟨0, Nat.zero_le _, rfl, OwnS.nil _ _, Below.refl _ _⟩
  case round =>
    obtain ⟨k, hk, rfl, ho, hw⟩ := hrel
    obtain ⟨av, cv, hv, -, -, -⟩ := ho.ss.open
    rw [nmL_len] at hv
    subst hv
    have HO := Lib.hid ho; have HW := Lib.hid hw
    have hsz := hw.size
    clear ho hw
    by_cases hlt : k < n
    · have hcv := conv2 wr (97 + k) 48 (by omega) (by omega)
      have hcv : (convert 41 9 (.slice (some ⟨wr.heap.size, 0, none⟩) 2 2)).run Tryd.prog (wr.alloc (.cells #[.int .u8 (97 + (k : Int)), .int .u8 48] 5)) = .ok (.string (nmI k)) (wr.alloc (.cells #[.int .u8 (97 + (k : Int)), .int .u8 48] 5)) := by
        have e : ((97 + k : Nat) : Int) = 97 + (k : Int) := by omega
        rw [e] at hcv
        exact hcv
      have hb1 := (Below.refl wr.heap.size wr).alloc (Nat.le_refl _) (.cells #[.int .u8 (97 + (k : Int)), .int .u8 48] 5)
      have HB2 := Lib.hid (hb1.alloc hb1.size (.cells #[.string (nmI k)] 9))
      have hs1 := ss_one (wr.alloc (.cells #[.int .u8 (97 + (k : Int)), .int .u8 48] 5)) (nmI k)
      rw [World.size_alloc] at hs1
      have HS1 := Lib.hid hs1
      clear hb1 hs1
      go_wp2_with (at_builtin; refine wpList_appS rfl (.tmp 12) (.tmp 18) rfl w.heap.size _ _ (nmL k) [nmI k] rfl rfl (HO.out.below HB2.out) HS1.out (by rw [nmL_len]; simp; omega) (by simp only [World.size_alloc]; omega) ?_; intro v' w2 ho2 hk2 hz2; have HO2 := Lib.hid ho2; have HW2 := Lib.hid (hk2 _ _ (Nat.le_refl _) (HW.out.trans (HB2.out.mono hsz))); clear ho2 hk2 hz2)
      go_roundw
      case rel => exact ⟨k + 1, by omega, by go_num, by rw [nmL_succ]; exact HO2.out, HW2.out⟩
      case measure => simp [intOf]; omega
    · obtain rfl : k = n := by omega
      have hnew := new_any (nmL k) _ wr (fun x hx => by
        obtain ⟨i, _, rfl⟩ := List.mem_map.1 hx
        show (2 : Nat) ≤ _
        omega) HO.out.ss
      rw [nmL_new k hn] at hnew
      have HN := Lib.hid hnew
      clear hnew
      go_wp2_with fail
      go_at_call 13
      refine HN.out.mono ?_
      rintro e w2 ⟨hb, ⟨hne, _⟩ | ⟨_, B, rfl, hI⟩⟩
      · exact absurd rfl hne
      · obtain ⟨nv, bf, bs, by_, hJ⟩ := hI.inv
        have HJ := Lib.hid (hJ.mono hsz)
        have HOO := Lib.hid (HO.out.below hb)
        have HW2 := Lib.hid (HW.out.trans (hb.mono hsz))
        clear hb hI hJ HN
        go_wp2_with fail
        go_ret2
        exact ⟨HW2.out, B, nv, bf, bs, by_, _, rfl, HJ.out, HOO.out⟩
end Go.Proofs.YtmgikhldkebjbaaDoor
