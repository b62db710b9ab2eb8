/-
  InventoryFull: the walk.
-/
import Derived.Test.YtmgikhldkebjbaaNh
namespace Go.Proofs.Ytmgikhldkebjbaa
open Go.RowKit Go.Shelf Go.Sort
def hexD : ByteArray := ⟨#[48, 49, 50, 51, 52, 53, 54, 55, 56, 57, 97, 98, 99, 100, 101, 102]⟩
def hx (k : Nat) : UInt8 := hexD.data.toList.getD k 0
/-- The symbol and the sound with a number. -/
def hxS (k : Nat) : ByteArray := ⟨#[hx (k / 16), hx (k % 16)]⟩
def hxK (shift i : Nat) : Nat := (i + shift) % 256
def hxL (shift n : Nat) : List (ByteArray × Snd) := (List.range n).map fun i => (hxS (hxK shift i), (BitVec.ofNat 32 (hxK shift i), 0#32))
theorem hxL_len (s n : Nat) : (hxL s n).length = n := by simp [hxL]
theorem hxL_succ (s n : Nat) : hxL s (n + 1) = hxL s n ++ [(hxS (hxK s n), (BitVec.ofNat 32 (hxK s n), 0#32))] := by simp [hxL, List.range_succ]
theorem hxS_inj : ∀ i : Fin 256, ∀ j : Fin 256, hxS i.val = hxS j.val → i = j := by
  have h : ∀ i : Fin 256, (hxS i.val).data.toList.map UInt8.toNat = [(hx (i.val / 16)).toNat, (hx (i.val % 16)).toNat] := fun i => rfl
  have hd : ∀ a : Fin 16, ∀ b : Fin 16, (hx a.val).toNat = (hx b.val).toNat → a = b := by decide +kernel
  intro i j e
  have e2 := congrArg (fun t => t.data.toList.map UInt8.toNat) e
  simp only [h, List.cons.injEq, and_true] at e2
  have h1 := hd ⟨i.val / 16, by omega⟩ ⟨j.val / 16, by omega⟩ e2.1
  have h2 := hd ⟨i.val % 16, by omega⟩ ⟨j.val % 16, by omega⟩ e2.2
  simp only [Fin.mk.injEq] at h1 h2
  exact Fin.ext (by omega)
theorem hxS_sym : ∀ i : Fin 256, isSym (hxS i.val) = true := by decide +kernel
theorem hx_has : ∀ i : Fin 512, hasB 9 (BitVec.ofNat 32 i.val, 0#32) = true := by decide +kernel
theorem hxK_inj {s i j : Nat} (hi : i < 256) (hj : j < 256) (h : hxK s i = hxK s j) : i = j := by unfold hxK at h; omega
theorem sndOf_none {a : List (ByteArray × Snd)} {k : ByteArray} (h : ∀ x ∈ a, k ≠ x.1) : sndOf a k = none := by
  unfold sndOf
  rw [List.find?_eq_none.2 (fun x hx => by simpa using h x hx)]; rfl
theorem symOf_none {a : List (ByteArray × Snd)} {s : Snd} (h : ∀ x ∈ a, s ≠ x.2) : symOf a s = none := by
  unfold symOf
  rw [List.find?_eq_none.2 (fun x hx => by simpa using h x hx)]; rfl
theorem sndOf_some {a : List (ByteArray × Snd)} {k : ByteArray} (h : ∃ x ∈ a, k = x.1) : (sndOf a k).isSome = true := by
  unfold sndOf
  rw [Option.isSome_map, List.find?_isSome]
  obtain ⟨x, hx, e⟩ := h
  exact ⟨x, hx, by simpa using e⟩
theorem symOf_some {a : List (ByteArray × Snd)} {s : Snd} (h : ∃ x ∈ a, s = x.2) : (symOf a s).isSome = true := by
  unfold symOf
  rw [Option.isSome_map, List.find?_isSome]
  obtain ⟨x, hx, e⟩ := h
  exact ⟨x, hx, by simpa using e⟩
theorem bv_inj {i j : Nat} (hi : i < 512) (hj : j < 512) (h : BitVec.ofNat 32 i = BitVec.ofNat 32 j) : i = j := by
  have := congrArg BitVec.toNat h
  rw [BitVec.toNat_ofNat, BitVec.toNat_ofNat] at this
  omega
/-- One more sound is taken. -/
theorem hx_add (s n : Nat) (hn : n < 256) : addE (nmL 9) (hxL s n) (hxS (hxK s n)) (BitVec.ofNat 32 (hxK s n), 0#32) = 0 := by
  have hk : hxK s n < 256 := Nat.mod_lt _ (by omega)
  have h1 : sndOf (hxL s n) (hxS (hxK s n)) = none := sndOf_none fun x hx => by
    obtain ⟨i, hi, rfl⟩ := List.mem_map.1 hx
    rw [List.mem_range] at hi
    intro e
    have e : hxK s n = hxK s i := congrArg Fin.val (hxS_inj ⟨hxK s n, hk⟩ ⟨hxK s i, Nat.mod_lt _ (by omega)⟩ e)
    have := hxK_inj hn (by omega) e
    omega
  have h2 : symOf (hxL s n) (BitVec.ofNat 32 (hxK s n), 0#32) = none := symOf_none fun x hx => by
    obtain ⟨i, hi, rfl⟩ := List.mem_map.1 hx
    rw [List.mem_range] at hi
    intro e
    have e := congrArg (fun z : Snd => z.1) e
    have hk2 : hxK s i < 256 := Nat.mod_lt _ (by omega)
    have := hxK_inj hn (by omega) (bv_inj (by omega) (by omega) e)
    omega
  unfold addE
  rw [hxS_sym ⟨_, hk⟩, nmL_len, hx_has ⟨hxK s n, by omega⟩, h1, h2, hxL_len, if_neg (by decide), if_neg (by decide), if_neg (by decide), if_neg (by omega)]
theorem hx_mem (s k : Nat) (hk : k < 256) : (hxS k, (BitVec.ofNat 32 k, 0#32)) ∈ hxL s 256 := by
  unfold hxL
  rw [List.mem_map]
  refine ⟨(k + 256 - s % 256) % 256, by rw [List.mem_range]; omega, ?_⟩
  have e : hxK s ((k + 256 - s % 256) % 256) = k := by unfold hxK; omega
  rw [e]
/-- What is answered when there are 256 sounds. -/
theorem hx_full (s : Nat) : addE (nmL 9) (hxL s 256) ⟨#[110, 101, 119]⟩ (256#32, 0#32) = 4 := by
  have h1 : sndOf (hxL s 256) ⟨#[110, 101, 119]⟩ = none := sndOf_none fun x hx => by
    obtain ⟨i, hi, rfl⟩ := List.mem_map.1 hx
    intro e
    have := congrArg ByteArray.size e
    cases this
  have h2 : symOf (hxL s 256) (256#32, 0#32) = none := symOf_none fun x hx => by
    obtain ⟨i, hi, rfl⟩ := List.mem_map.1 hx
    intro e
    have e := congrArg (fun z : Snd => z.1) e
    have hk2 : hxK s i < 256 := Nat.mod_lt _ (by omega)
    have := bv_inj (i := 256) (by omega) (by omega) e
    omega
  have h3 : isSym ⟨#[110, 101, 119]⟩ = true := by decide +kernel
  unfold addE
  rw [h3, nmL_len, show hasB 9 (256#32, 0#32) = true from hx_has ⟨256, by omega⟩, h1, h2, hxL_len, if_neg (by decide), if_neg (by decide), if_neg (by decide), if_pos (by omega)]
theorem hx_have1 (s : Nat) : addE (nmL 9) (hxL s 256) ⟨#[48, 48]⟩ (256#32, 0#32) = 6 := by
  have h1 := sndOf_some (a := hxL s 256) (k := ⟨#[48, 48]⟩) ⟨_, hx_mem s 0 (by omega), rfl⟩
  have h3 : isSym ⟨#[48, 48]⟩ = true := by decide +kernel
  unfold addE
  rw [h3, nmL_len, show hasB 9 (256#32, 0#32) = true from hx_has ⟨256, by omega⟩, h1, if_neg (by decide), if_neg (by decide), if_pos (by simp)]
theorem hx_have2 (s : Nat) : addE (nmL 9) (hxL s 256) ⟨#[110, 101, 119]⟩ (7#32, 0#32) = 6 := by
  have h1 := symOf_some (a := hxL s 256) (s := (7#32, 0#32)) ⟨_, hx_mem s 7 (by omega), rfl⟩
  have h3 : isSym ⟨#[110, 101, 119]⟩ = true := by decide +kernel
  unfold addE
  rw [h3, nmL_len, show hasB 9 (7#32, 0#32) = true from hx_has ⟨7, by omega⟩, h1, if_neg (by decide), if_neg (by decide), if_pos (by simp)]
theorem hx_sound (s : Nat) : addE (nmL 9) (hxL s 256) ⟨#[110, 101, 119]⟩ (512#32, 0#32) = 14 := by
  have h3 : isSym ⟨#[110, 101, 119]⟩ = true := by decide +kernel
  have h4 : hasB 9 (512#32, 0#32) = false := by decide +kernel
  unfold addE
  rw [h3, nmL_len, h4, if_neg (by decide), if_pos rfl]
theorem hx_name (s : Nat) : addE (nmL 9) (hxL s 256) ⟨#[49, 50, 51, 52, 53]⟩ (256#32, 0#32) = 15 := by
  have h3 : isSym ⟨#[49, 50, 51, 52, 53]⟩ = false := by decide +kernel
  unfold addE
  rw [h3, if_pos rfl]
end Go.Proofs.Ytmgikhldkebjbaa
