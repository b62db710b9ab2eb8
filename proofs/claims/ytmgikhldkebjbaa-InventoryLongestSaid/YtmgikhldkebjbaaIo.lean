/-
  value: the sound that an item of a bundle gives.
-/
import Derived.Test.YtmgikhldkebjbaaIm
namespace Go.Proofs.Ytmgikhldkebjbaa
open Go.RowKit Go.Sort
theorem put_mem {k : ByteArray} {v : Value} {x : ByteArray × Value} : ∀ {l : List (ByteArray × Value)}, x ∈ put k v l → x = (k, v) ∨ x ∈ l
  | [], h => by simp [put] at h; exact .inl h
  | y :: l, h => by
    unfold put at h
    by_cases hk : k = y.1
    · rw [if_pos hk] at h
      rcases List.mem_cons.1 h with h | h
      · exact .inl h
      · exact .inr (by simp [h])
    · rw [if_neg hk] at h
      rcases List.mem_cons.1 h with h | h
      · exact .inr (by simp [h])
      · rcases put_mem h with h | h
        · exact .inl h
        · exact .inr (by simp [h])
theorem numT_vals {l : List ByteArray} : ∀ {n : Nat} {x : ByteArray × Value}, x ∈ numT l n → ∃ j : Nat, j < n ∧ x.2 = .int .i64 (j : Int)
  | 0, x, h => by simp [numT] at h
  | n + 1, x, h => by
    unfold numT at h
    split at h
    · rcases put_mem h with h | h
      · exact ⟨n, by omega, by rw [h]⟩
      · obtain ⟨j, hj, e⟩ := numT_vals h
        exact ⟨j, by omega, e⟩
    · obtain ⟨j, hj, e⟩ := numT_vals h
      exact ⟨j, by omega, e⟩
theorem fnd_mem {k : ByteArray} {p : Nat} {u : Value} : ∀ {l : List (ByteArray × Value)} {i : Nat}, fnd k l i = some (p, u) → ∃ y, (y, u) ∈ l
  | [], _, h => by cases h
  | x :: l, i, h => by
    unfold fnd at h
    by_cases hk : k = x.1
    · rw [if_pos hk] at h
      simp only [Option.some.injEq, Prod.mk.injEq] at h
      exact ⟨x.1, by rw [← h.2]; simp⟩
    · rw [if_neg hk] at h
      obtain ⟨y, hy⟩ := fnd_mem h
      exact ⟨y, by simp [hy]⟩
/-- The number of a name. -/
def featO (l : List ByteArray) (k : ByteArray) : Option Nat := match (fnd k (numT l l.length) 0).map (·.2) with
  | some (Value.int IntKind.i64 j) => some j.toNat
  | _ => none
theorem featO_none {l : List ByteArray} {k : ByteArray} (h : featO l k = none) : fnd k (numT l l.length) 0 = none := by
  unfold featO at h
  cases hf : fnd k (numT l l.length) 0 with
  | none => rfl
  | some x =>
    obtain ⟨p, u⟩ := x
    obtain ⟨y, hy⟩ := fnd_mem hf
    obtain ⟨j, _, e⟩ := numT_vals hy
    simp only at e
    rw [hf, e] at h
    simp at h
theorem featO_some {l : List ByteArray} {k : ByteArray} {j : Nat} (h : featO l k = some j) : j < l.length ∧ ∃ p, fnd k (numT l l.length) 0 = some (p, .int .i64 (j : Int)) := by
  unfold featO at h
  cases hf : fnd k (numT l l.length) 0 with
  | none => rw [hf] at h; simp at h
  | some x =>
    obtain ⟨p, u⟩ := x
    obtain ⟨y, hy⟩ := fnd_mem hf
    obtain ⟨i, hi, e⟩ := numT_vals hy
    simp only at e
    rw [hf, e] at h
    simp at h
    subst h
    exact ⟨hi, p, by rw [e]⟩
/-- The sound that an item gives. -/
def valS (l : List ByteArray) (t : ByteArray) : Option Snd :=
  if t.size = 0 then none else match featO l (t.extract 1 t.size) with
    | none => none
    | some j => if t.data.toList.getD 0 0 = 43 then some (bit j, 0#32) else if t.data.toList.getD 0 0 = 45 then some (0#32, bit j) else none
theorem valS_empty {l : List ByteArray} {t : ByteArray} (h : t.size = 0) : valS l t = none := by unfold valS; rw [if_pos h]
theorem valS_no {l : List ByteArray} {t : ByteArray} (h : featO l (t.extract 1 t.size) = none) : valS l t = none := by unfold valS; rw [h]; split <;> rfl
theorem valS_of {l : List ByteArray} {t : ByteArray} {j : Nat} {c : UInt8} (h0 : ¬ t.size = 0) (h : featO l (t.extract 1 t.size) = some j) (hc : t.data.toList.getD 0 0 = c) : valS l t = if c = 43 then some (bit j, 0#32) else if c = 45 then some (0#32, bit j) else none := by unfold valS; rw [h, if_neg h0, hc]
set_option maxRecDepth 100000 in
set_option maxHeartbeats 8000000 in
theorem value_any {w : World} {base B : Nat} {l : List ByteArray} {a : List (ByteArray × Snd)} {nv av : Value} {bf bs by_ : Nat} (h : Inv w base B l a nv av bf bs by_) (hl : l.length ≤ 24) (t : ByteArray) (ht : t.size ≤ 9223372036854775807) : Gives 56 #[.pointer (some ⟨B, 0, none⟩), .string t] w (.tuple #[snv ((valS l t).getD (0#32, 0#32)), .bool (valS l t).isSome]) := by
  unfold Gives snv
  have HI := Lib.hid h
  have hB := h.lt
  have hb0 := (Below.refl _ w).alloc (Nat.le_refl _) (.cells #[.int .u32 0, .int .u32 0] 39)
  have HI0 := Lib.hid (h.below hb0)
  have HB0 := Lib.hid hb0.drew
  clear h hb0
  by_cases h0 : t.size = 0
  · rw [valS_empty h0]
    have e0 : t.toList.isEmpty = true := by rw [Lib.toList_data, bytes_empty h0]; rfl
    clear h0
    go_enter Try.func56, Try.ntmps56
    go_wp2_with fail
    refine bodyPost_ret (v := .tuple #[.agg #[.int .u32 0, .int .u32 0], .bool false]) (by simp [results, Try.results56, go_sem]) rfl ⟨rfl, by go_grown⟩
  · have e0 : t.toList.isEmpty = false := by
      rw [Lib.toList_data, List.isEmpty_eq_false_iff]
      intro e
      refine h0 ?_
      have h2 : t.data.toList.length = 0 := by rw [e]; rfl
      rw [Array.length_toList] at h2
      exact h2
    have h1 : 1 ≤ t.size := by omega
    have hlen : 0 < t.data.toList.length := by rw [Array.length_toList]; exact h1
    obtain ⟨c, hc⟩ : ∃ c, t.data.toList[0] = c := ⟨_, rfl⟩
    have hb : ∀ h, t[0]'h = c := by intro h; exact hc
    have hc2 : t.data.toList.getD 0 0 = c := by rw [List.getD_eq_getElem?_getD, List.getElem?_eq_getElem hlen, hc]; rfl
    have c2 : (w.alloc (.cells #[.int .u32 0, .int .u32 0] 39)).drew.cell? ⟨B, 2, none⟩ = some (.map (some bf)) := HI0.out.cells.2.2.1
    obtain ⟨x, hx⟩ : ∃ x, t.extract 1 t.size = x := ⟨_, rfl⟩
    rcases hf : featO l x with _ | j
    · have hv : valS l t = none := valS_no (by rw [hx]; exact hf)
      rw [hv]
      have hlk : (Instr.lookup 55 (.map (some bf)) (.string x) true).run Try.prog (w.alloc (.cells #[.int .u32 0, .int .u32 0] 39)).drew = .ok (.tuple #[.int .i64 0, .bool false]) (w.alloc (.cells #[.int .u32 0, .int .u32 0] 39)).drew := by
        have := run_lookup_s (P := Try.prog) Try.underlying55 Try.underlying9 (z := .int .i64 0) (fun _ => by kernel_rfl) (w := (w.alloc (.cells #[.int .u32 0, .int .u32 0] 39)).drew) HI0.out.feats x
        rw [featO_none hf] at this
        exact this
      clear hf hc hc2 hlen hv
      go_enter Try.func56, Try.ntmps56
      go_wp2_with fail
      go_region
      go_wp2_with fail
      refine bodyPost_ret (v := .tuple #[.agg #[.int .u32 0, .int .u32 0], .bool false]) (by simp [results, Try.results56, go_sem]) rfl ⟨rfl, by go_grown⟩
    · obtain ⟨hj, p, hfp⟩ := featO_some hf
      have hv := valS_of (l := l) h0 (by rw [hx]; exact hf) hc2
      have hlk : (Instr.lookup 55 (.map (some bf)) (.string x) true).run Try.prog (w.alloc (.cells #[.int .u32 0, .int .u32 0] 39)).drew = .ok (.tuple #[.int .i64 (j : Int), .bool true]) (w.alloc (.cells #[.int .u32 0, .int .u32 0] 39)).drew := by
        have := run_lookup_s (P := Try.prog) Try.underlying55 Try.underlying9 (z := .int .i64 0) (fun _ => by kernel_rfl) (w := (w.alloc (.cells #[.int .u32 0, .int .u32 0] 39)).drew) HI0.out.feats x
        rw [hfp] at this
        exact this
      have hp := pow_bit j (by omega)
      have hj32 : j < 32 := by omega
      have hbj := (bit j).isLt
      clear hf hfp hc hc2 hlen
      by_cases h43 : c = 43
      · subst h43
        rw [hv, if_pos rfl]
        clear hv
        go_enter Try.func56, Try.ntmps56
        go_wp2_with fail
        go_region
        go_wp2_with fail
        refine bodyPost_ret (v := .tuple #[.agg #[.int .u32 (bit j).toNat, .int .u32 0], .bool true]) (by simp [results, Try.results56, go_sem, hp]) rfl ⟨rfl, by go_grown⟩
      · by_cases h45 : c = 45
        · subst h45
          rw [hv, if_neg (by decide), if_pos rfl]
          clear hv
          go_enter Try.func56, Try.ntmps56
          go_wp2_with fail
          go_region
          go_wp2_with fail
          refine bodyPost_ret (v := .tuple #[.agg #[.int .u32 0, .int .u32 (bit j).toNat], .bool true]) (by simp [results, Try.results56, go_sem, hp]) rfl ⟨rfl, by go_grown⟩
        · rw [hv, if_neg h43, if_neg h45]
          have n1 : ((c.toNat : Int) == 43) = false := by
            rw [Bool.eq_false_iff]; intro e
            have := beq_iff_eq.1 e
            exact h43 (UInt8.toNat_inj.1 (by have e2 : (43 : UInt8).toNat = 43 := rfl; omega))
          have n2 : ((c.toNat : Int) == 45) = false := by
            rw [Bool.eq_false_iff]; intro e
            have := beq_iff_eq.1 e
            exact h45 (UInt8.toNat_inj.1 (by have e2 : (45 : UInt8).toNat = 45 := rfl; omega))
          clear hv
          go_enter Try.func56, Try.ntmps56
          go_wp2_with fail
          go_region
          go_wp2_with fail
          refine bodyPost_ret (v := .tuple #[.agg #[.int .u32 0, .int .u32 0], .bool false]) (by simp [results, Try.results56, go_sem]) rfl ⟨rfl, by go_grown⟩
end Go.Proofs.Ytmgikhldkebjbaa
