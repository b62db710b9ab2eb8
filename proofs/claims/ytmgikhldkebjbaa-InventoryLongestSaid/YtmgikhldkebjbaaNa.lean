/-
  Numbers and names of features, and lists of texts that are compared.
-/
import Derived.Test.YtmgikhldkebjbaaGk
namespace Go.Proofs.Ytmgikhldkebjbaa
open Go.RowKit Go.Shelf Go.Sort
theorem numT_mem {l : List ByteArray} {x : ByteArray} {u : Value} : ∀ {n : Nat}, n ≤ l.length → (x, u) ∈ numT l n → ∃ j : Nat, j < n ∧ u = .int .i64 (j : Int) ∧ l[j]? = some x
  | 0, _, h => by simp [numT] at h
  | n + 1, hn, h => by
    rw [numT_succ (by omega)] at h
    rcases put_mem h with h | h
    · cases h
      exact ⟨n, by omega, rfl, List.getElem?_eq_getElem (by omega)⟩
    · obtain ⟨j, h1, h2, h3⟩ := numT_mem (by omega) h
      exact ⟨j, by omega, h2, h3⟩
theorem fnd_key {k : ByteArray} {p : Nat} {u : Value} : ∀ {l : List (ByteArray × Value)} {i : Nat}, fnd k l i = some (p, u) → (k, u) ∈ l
  | [], _, h => by cases h
  | x :: l, i, h => by
    unfold fnd at h
    by_cases hk : k = x.1
    · rw [if_pos hk] at h
      simp only [Option.some.injEq, Prod.mk.injEq] at h
      rw [hk, ← h.2]; simp
    · rw [if_neg hk] at h
      exact List.mem_cons_of_mem _ (fnd_key h)
theorem fnd_nokey {k : ByteArray} {u : Value} : ∀ {l : List (ByteArray × Value)} {i : Nat}, fnd k l i = none → (k, u) ∉ l
  | [], _, _ => by simp
  | x :: l, i, h => by
    unfold fnd at h
    by_cases hk : k = x.1
    · rw [if_pos hk] at h; cases h
    · rw [if_neg hk] at h
      intro hm
      rcases List.mem_cons.1 hm with e | e
      · exact hk (by rw [← e])
      · exact fnd_nokey h e
/-- The number of a name, if there is one. -/
theorem feat_is (l : List ByteArray) (k : ByteArray) : (∃ j, j < l.length ∧ l[j]? = some k ∧ featN l k = .int .i64 (j : Int) ∧ featB l k = true ∧ featO l k = some j) ∨ ((∀ j : Nat, l[j]? ≠ some k) ∧ featN l k = .int .i64 0 ∧ featB l k = false ∧ featO l k = none) := by
  unfold featN featB featO
  cases hf : fnd k (numT l l.length) 0 with
  | none =>
    right
    refine ⟨fun j e => ?_, rfl, rfl, rfl⟩
    have hj : j < l.length := (List.getElem?_eq_some_iff.1 e).1
    obtain ⟨u, hu⟩ := (numT_keys (x := k) l.length (Nat.le_refl _)).2 ⟨j, hj, e⟩
    exact fnd_nokey hf hu
  | some y =>
    obtain ⟨p, u⟩ := y
    obtain ⟨j, h1, rfl, h3⟩ := numT_mem (Nat.le_refl _) (fnd_key hf)
    exact .inl ⟨j, h1, h3, rfl, rfl, rfl⟩
theorem nodup_eq {l : List ByteArray} {k : ByteArray} {i j : Nat} (hd : ¬ Dup l l.length) (hi : l[i]? = some k) (hj : l[j]? = some k) : i = j := by
  have h1 : i < l.length := (List.getElem?_eq_some_iff.1 hi).1
  have h2 : j < l.length := (List.getElem?_eq_some_iff.1 hj).1
  rcases Nat.lt_trichotomy i j with h | h | h
  · exact absurd ⟨j, i, h, h2, k, hj, hi⟩ hd
  · exact h
  · exact absurd ⟨i, j, h, h1, k, hi, hj⟩ hd
theorem newE_nodup {l : List ByteArray} (h : newE l = 0) : ¬ Dup l l.length := fun hd => by
  have := newE_dup (newE_len h) (newE_all h) hd
  rw [h] at this; cases this
set_option maxRecDepth 100000 in
set_option maxHeartbeats 4000000 in
theorem rfeat_any {w : World} {base R : Nat} {l : List ByteArray} {a : List (ByteArray × Snd)} {nv av : Value} (h : RInv w base R l a nv av) (hd : ¬ Dup l l.length) (hl : l.length ≤ 24) (k : ByteArray) : Gives 19 #[.pointer (some ⟨R, 0, none⟩), .string k] w (.tuple #[featN l k, .bool (featB l k)]) := by
  unfold Gives
  have hmd := rmade_yes R w h.cells.1
  have hR := h.lt
  obtain ⟨ao, ac, hnv, c1, m1, hcells⟩ := h.names.ss.open
  subst hnv
  have q1 := h.cells.2.1
  have hfi := feat_is l k
  have HC := Lib.hid hcells; have HMD := Lib.hid hmd; have HD := Lib.hid hd; have HFI := Lib.hid hfi
  clear h hmd hcells hd hfi c1 m1
  generalize featN l k = N at *
  generalize featB l k = B at *
  generalize featO l k = O at *
  go_enter Try.func19, Try.ntmps19
  go_wp2_with fail
  go_at_call 45
  refine Gives.then HMD.out ?_
  intro w1 hb
  have HW1 := Lib.hid hb
  clear hb HMD
  go_wp2_with fail
  go_loopw [6] (fun i wr => ∃ q : Nat, q ≤ l.length ∧ i = .int .i64 (q : Int) ∧ (∀ j : Nat, j < q → l[j]? ≠ some k) ∧ Below w.heap.size w wr) (fun i _ => l.length - (intOf i).toNat)
  case atStart => exact ⟨0, Nat.zero_le _, rfl, fun j hj => by omega, HW1.out⟩
  case round =>
    obtain ⟨q, hq, rfl, hno, hwr⟩ := hrel
    have q2 := (hwr.cell (p := ⟨R, 1, none⟩) hR).trans q1
    have HNO := Lib.hid hno; have HWR := Lib.hid hwr
    clear hno q1
    by_cases hlt : q < l.length
    · obtain ⟨b, off, hao, lb, d0⟩ := HC.out q hlt
      have d0 := (hwr.cell (p := ⟨b, off + q, none⟩) lb).trans d0
      subst hao
      have hq2 : l[q]? = some l[q] := List.getElem?_eq_getElem hlt
      have HQ2 := Lib.hid hq2
      clear hwr hq2 HC
      generalize l[q] = x at *
      by_cases hxk : x = k
      · subst hxk
        have hres : N = .int .i64 (q : Int) ∧ B = true := by
          rcases HFI.out with ⟨j, _, h1, h2, h3, _⟩ | ⟨h1, _⟩
          · have e := nodup_eq HD.out h1 HQ2.out
            subst e
            exact ⟨h2, h3⟩
          · exact absurd HQ2.out (h1 q)
        obtain ⟨rfl, rfl⟩ := hres
        go_wp2_with fail
        go_ret2
        exact ⟨rfl, HWR.out⟩
      · have e2 : (x.toList == k.toList) = false := by rw [toList_beq]; exact decide_eq_false hxk
        have hmore : ∀ j : Nat, j < q + 1 → l[j]? ≠ some k := fun j hj => by
          by_cases e : j = q
          · subst e; rw [HQ2.out]; intro h; exact hxk (Option.some.inj h)
          · exact HNO.out j (by omega)
        have HM := Lib.hid hmore
        clear hmore hxk
        go_wp2_with fail
        go_roundw
        case rel => exact ⟨q + 1, by omega, by go_num, HM.out, HWR.out⟩
        case measure => simp [intOf]; omega
    · obtain rfl : q = l.length := by omega
      have hres : N = .int .i64 0 ∧ B = false := by
        rcases HFI.out with ⟨j, h0, h1, _⟩ | ⟨_, h2, h3, _⟩
        · exact absurd h1 (HNO.out j h0)
        · exact ⟨h2, h3⟩
      obtain ⟨rfl, rfl⟩ := hres
      go_wp2_with fail
      go_ret2
      exact ⟨rfl, HWR.out⟩
theorem rfeat_nil (k : ByteArray) (w : World) : Gives 19 #[.pointer none, .string k] w (.tuple #[.int .i64 0, .bool false]) := by
  unfold Gives
  go_enter Try.func19, Try.ntmps19
  go_wp2_with (go_at_call 45; refine Gives.then (rmade_nil _) ?_; intro w1 hb)
  go_ret2
  exact ⟨rfl, hb⟩
theorem rfeats_nil (w : World) : Gives 21 #[.pointer none] w (.slice none 0 0) := by
  unfold Gives
  go_enter Try.func21, Try.ntmps21
  go_wp2_with (go_at_call 45; refine Gives.then (rmade_nil _) ?_; intro w1 hb)
  go_returns
  exact ⟨rfl, hb⟩
end Go.Proofs.Ytmgikhldkebjbaa
