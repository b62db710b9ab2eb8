/-
  few: whether names and texts are looked at.
-/
import Derived.Test.YtmgikhldkebjbaaGe
import Derived.IntWalk
namespace Go.Proofs.Ytmgikhldkebjbaa
open Go.RowKit Go.Sort
def sumZ (l : List ByteArray) : Nat := (l.map ByteArray.size).sum
theorem sumZ_take {l : List ByteArray} {k : Nat} (h : k < l.length) : sumZ (l.take (k + 1)) = sumZ (l.take k) + l[k].size := by
  unfold sumZ
  rw [List.take_succ_eq_append_getElem h, List.map_append, List.sum_append]
  simp
theorem sumZ_le {l : List ByteArray} {M : Nat} (h : ∀ x ∈ l, x.size ≤ M) : sumZ l ≤ l.length * M := by
  induction l with
  | nil => simp [sumZ]
  | cons x l ih =>
    have h1 := ih (fun y hy => h y (by simp [hy]))
    have h2 := h x (by simp)
    unfold sumZ at *
    simp only [List.map_cons, List.sum_cons, List.length_cons, Nat.add_mul, Nat.one_mul]
    omega
/-- Whether names and texts are looked at. -/
def fewB (l m : List ByteArray) : Bool := decide (l.length ≤ 100) && decide (sumZ l + sumZ m ≤ 4000)
/-- A sum that counts while there are few of them. -/
def Sum (b : Bool) (n : Nat) (v : Value) : Prop := ∃ z : Int, v = .int .i64 z ∧ (b = true → z = (n : Int))
theorem wrap64_in {n : Int} (h : -9223372036854775808 ≤ n ∧ n ≤ 9223372036854775807) : wrap64 n = n := by unfold wrap64; omega
theorem Sum.step {b : Bool} {n k : Nat} {z : Int} (h : b = true → z = (n : Int)) (hb : b = true → n + k ≤ 9223372036854775807) : Sum b (n + k) (.int .i64 (wrap64 (z + (k : Int)))) :=
  ⟨_, rfl, fun hh => by rw [h hh, wrap64_in (by have := hb hh; omega)]; omega⟩
set_option maxRecDepth 100000 in
set_option maxHeartbeats 4000000 in
theorem few_any (l m : List ByteArray) (v u : Value) (w : World) (hv : Ss w v l) (hu : Ss w u m) (hl : ∀ x ∈ l, x.size ≤ 140737488355328) (hm : ∀ x ∈ m, x.size ≤ 140737488355328) (hm1 : m.length ≤ 10) : Gives 13 #[v, u] w (.bool (fewB l m)) := by
  unfold Gives
  obtain ⟨ao, cap, rfl, c1, m1, H1⟩ := hv.open
  obtain ⟨bo, cap', rfl, c1', m1', H1'⟩ := hu.open
  unfold maxLen at m1 m1'
  have hB : decide (l.length ≤ 100) = true → sumZ l ≤ 14073748835532800 := fun h => by
    have := sumZ_le hl
    have h2 : l.length ≤ 100 := of_decide_eq_true h
    have h3 : l.length * 140737488355328 ≤ 100 * 140737488355328 := Nat.mul_le_mul_right _ h2
    omega
  have hBk : ∀ k, k < l.length → decide (l.length ≤ 100) = true → sumZ (l.take k) + (l[k]?.getD ⟨#[]⟩).size ≤ 9223372036854775807 := fun k hk h => by
    have e := sumZ_take hk
    have h4 := sumZ_le (l := l.take (k + 1)) (fun x hx => hl x (List.mem_of_mem_take hx))
    rw [List.length_take] at h4
    have h2 : l.length ≤ 100 := of_decide_eq_true h
    have h3 : min (k + 1) l.length * 140737488355328 ≤ 100 * 140737488355328 := Nat.mul_le_mul_right _ (by omega)
    rw [List.getElem?_eq_getElem hk, Option.getD_some]
    omega
  have hBm : ∀ k, k < m.length → decide (l.length ≤ 100) = true → sumZ l + sumZ (m.take k) + (m[k]?.getD ⟨#[]⟩).size ≤ 9223372036854775807 := fun k hk h => by
    have e := sumZ_take hk
    have h4 := sumZ_le (l := m.take (k + 1)) (fun x hx => hm x (List.mem_of_mem_take hx))
    rw [List.length_take] at h4
    have h3 : min (k + 1) m.length * 140737488355328 ≤ 10 * 140737488355328 := Nat.mul_le_mul_right _ (by omega)
    have := hB h
    rw [List.getElem?_eq_getElem hk, Option.getD_some]
    omega
  have HL := Lib.hid H1; have HM := Lib.hid H1'; have HBK := Lib.hid hBk; have HBM := Lib.hid hBm
  have hBf := hB
  have HBF := Lib.hid hBf
  clear H1 H1' hBk hBm hB hBf hl hm hm1 hv hu
  generalize hbb : decide (l.length ≤ 100) = b at *
  have HBB := Lib.hid hbb
  obtain ⟨F, hF⟩ : ∃ F, fewB l m = F := ⟨_, rfl⟩
  rw [hF]
  have HF := Lib.hid hF
  clear hF
  have l1 : l.length ≤ 9223372036854775807 := by omega
  have l2 : m.length ≤ 9223372036854775807 := by omega
  clear hbb
  go_enter Try.func13, Try.ntmps13
  go_wp2_with fail
  go_loop [5, 12] (fun n i => ∃ k : Nat, k ≤ l.length ∧ i = .int .i64 (k : Int) ∧ Sum b (sumZ (l.take k)) n) (fun _ i => l.length - (intOf i).toNat)
  case atStart => exact ⟨0, Nat.zero_le _, rfl, 0, rfl, fun _ => rfl⟩
  case round =>
    obtain ⟨k, hk, rfl, z, rfl, hz⟩ := hrel
    have HZ := Lib.hid hz
    clear hz
    by_cases hlt : k < l.length
    · obtain ⟨B, off, rfl, lb, d0⟩ := HL.out k hlt
      have hstep := Sum.step (k := (l[k]?.getD ⟨#[]⟩).size) HZ.out (HBK.out k hlt)
      have htk := sumZ_take hlt
      rw [List.getElem?_eq_getElem hlt, Option.getD_some] at hstep
      rw [← htk] at hstep
      have HS := Lib.hid hstep
      clear hstep htk HL
      generalize l[k] = x at *
      go_wp2_with fail
      go_round
      case rel => exact ⟨k + 1, by omega, by go_num, HS.out⟩
      case measure => simp [intOf]; omega
    · obtain rfl : k = l.length := by omega
      rw [List.take_length] at HZ
      go_wp2_with fail
      go_loop [5, 23] (fun n i => ∃ k : Nat, k ≤ m.length ∧ i = .int .i64 (k : Int) ∧ Sum b (sumZ l + sumZ (m.take k)) n) (fun _ i => m.length - (intOf i).toNat)
      case atStart => exact ⟨0, Nat.zero_le _, rfl, z, rfl, fun h => by rw [HZ.out h]; simp [sumZ]⟩
      case round =>
        obtain ⟨k, hk, rfl, z, rfl, hz⟩ := hrel
        have HZ := Lib.hid hz
        clear hz
        by_cases hlt : k < m.length
        · obtain ⟨B, off, rfl, lb, d0⟩ := HM.out k hlt
          have hstep := Sum.step (k := (m[k]?.getD ⟨#[]⟩).size) HZ.out (HBM.out k hlt)
          have htk := sumZ_take hlt
          rw [List.getElem?_eq_getElem hlt, Option.getD_some] at hstep
          rw [Nat.add_assoc, ← htk] at hstep
          have HS := Lib.hid hstep
          clear hstep htk HM
          generalize m[k] = x at *
          go_wp2_with fail
          go_round
          case rel => exact ⟨k + 1, by omega, by go_num, HS.out⟩
          case measure => simp [intOf]; omega
        · obtain rfl : k = m.length := by omega
          rw [List.take_length] at HZ
          have hres : fewB l m = (b && decide (z ≤ 4000)) := by
            unfold fewB
            rw [HBB.out]
            cases hb : b
            · rfl
            · rw [HZ.out hb, Bool.true_and, Bool.true_and, Bool.eq_iff_iff, decide_eq_true_iff, decide_eq_true_iff]; omega
          rw [HF.out] at hres
          have HR := Lib.hid hres
          have g1 : decide ((l.length : Int) ≤ 100) = b := by rw [← HBB.out, Bool.eq_iff_iff, decide_eq_true_iff, decide_eq_true_iff]; omega
          have g2 : decide (l.length ≤ 100) = b := HBB.out
          clear hres
          cases b
          · go_wp2_with fail
            go_returns
            exact ⟨by rw [HR.out]; rfl, Below.refl _ _⟩
          · go_wp2_with fail
            go_returns
            exact ⟨by rw [HR.out]; simp, Below.refl _ _⟩
/-- A call that answers yes or no and changes nothing; yes only if n is at most 100. -/
def SomeB (n : Nat) (w : World) (e : Ending) (w' : World) : Prop := ∃ b : Bool, e = .returned (.bool b) ∧ (b = true → n ≤ 100) ∧ Below w.heap.size w w'
set_option maxRecDepth 100000 in
set_option maxHeartbeats 4000000 in
/-- few, whatever the sizes are (their sum may pass over the edge of int): it answers yes or no. -/
theorem few_some (l m : List ByteArray) (v u : Value) (w : World) (hv : Ss w v l) (hu : Ss w u m) (hl : ∀ x ∈ l, x.size ≤ maxLen) (hm : ∀ x ∈ m, x.size ≤ maxLen) : Calls Try.prog 13 #[v, u] w (SomeB l.length w) := by
  obtain ⟨ao, cap, rfl, c1, m1, H1⟩ := hv.open
  obtain ⟨bo, cap', rfl, c1', m1', H1'⟩ := hu.open
  unfold maxLen at m1 m1' hl hm
  have HL := Lib.hid H1; have HM := Lib.hid H1'; have HA := Lib.hid hl; have HB := Lib.hid hm
  have l1 : l.length ≤ 9223372036854775807 := by omega
  have l2 : m.length ≤ 9223372036854775807 := by omega
  clear H1 H1' hl hm hv hu
  go_enter Try.func13, Try.ntmps13
  go_wp2_with fail
  go_loop [5, 12] (fun n i => ∃ k : Nat, k ≤ l.length ∧ i = .int .i64 (k : Int) ∧ ∃ z : Int, n = .int .i64 z) (fun _ i => l.length - (intOf i).toNat)
  case atStart => exact ⟨0, Nat.zero_le _, rfl, 0, rfl⟩
  case round =>
    obtain ⟨k, hk, rfl, z, rfl⟩ := hrel
    by_cases hlt : k < l.length
    · obtain ⟨B, off, rfl, lb, d0⟩ := HL.out k hlt
      have hsz := HA.out l[k] (List.getElem_mem hlt)
      clear HL
      generalize l[k] = x at *
      go_wp2_with fail
      go_round
      case rel => exact ⟨k + 1, by omega, by go_num, _, rfl⟩
      case measure => simp [intOf]; omega
    · obtain rfl : k = l.length := by omega
      go_wp2_with fail
      go_loop [5, 23] (fun n i => ∃ k : Nat, k ≤ m.length ∧ i = .int .i64 (k : Int) ∧ ∃ z : Int, n = .int .i64 z) (fun _ i => m.length - (intOf i).toNat)
      case atStart => exact ⟨0, Nat.zero_le _, rfl, z, rfl⟩
      case round =>
        obtain ⟨k, hk, rfl, z, rfl⟩ := hrel
        by_cases hlt : k < m.length
        · obtain ⟨B, off, rfl, lb, d0⟩ := HM.out k hlt
          have hsz := HB.out m[k] (List.getElem_mem hlt)
          clear HM
          generalize m[k] = x at *
          go_wp2_with fail
          go_round
          case rel => exact ⟨k + 1, by omega, by go_num, _, rfl⟩
          case measure => simp [intOf]; omega
        · obtain rfl : k = m.length := by omega
          by_cases h1 : l.length ≤ 100
          · have g1 : decide ((l.length : Int) ≤ 100) = true := decide_eq_true (by omega)
            have g2 : decide (l.length ≤ 100) = true := decide_eq_true h1
            by_cases h2 : z ≤ 4000
            · have g3 : decide (z ≤ 4000) = true := decide_eq_true h2
              clear h2
              go_wp2_with fail
              go_returns
              exact ⟨_, rfl, fun _ => h1, Below.refl _ _⟩
            · have g3 : decide (z ≤ 4000) = false := decide_eq_false h2
              clear h2
              go_wp2_with fail
              go_returns
              exact ⟨_, rfl, fun _ => h1, Below.refl _ _⟩
          · have g1 : decide ((l.length : Int) ≤ 100) = false := decide_eq_false (by omega)
            have g2 : decide (l.length ≤ 100) = false := decide_eq_false h1
            go_wp2_with fail
            go_returns
            exact ⟨_, rfl, (fun h => absurd h (by decide)), Below.refl _ _⟩
end Go.Proofs.Ytmgikhldkebjbaa
