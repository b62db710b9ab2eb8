/-
  has: a word is among the words of a list.
-/
import Derived.Test.YtfjngkdpembdcaaHd
import Derived.Test.YtfjngkdpembdcaaHg
namespace Go.Proofs.Ytfjngkdpembdcaa
open Go.RowKit Go.Sort
theorem has_step {l : List (Value × List Snd)} {k : Nat} {xs : List Snd} (h : k < l.length) (hp : xs ∉ (l.take k).map (·.2)) (hn : ¬ l[k].2 = xs) : xs ∉ (l.take (k + 1)).map (·.2) := by
  rw [List.take_succ_eq_append_getElem h, List.map_append, List.mem_append]
  rintro (h1 | h1)
  · exact hp h1
  · simp only [List.map_cons, List.map_nil, List.mem_singleton] at h1
    exact hn h1.symm
set_option maxHeartbeats 2000000 in
theorem has_any (l : List (Value × List Snd)) (xs : List Snd) (v u : Value) (w : World) (h1 : Ws w v l) (h2 : Wd w u xs) : Gives 14 #[v, u] w (.bool (decide (xs ∈ l.map (·.2)))) := by
  unfold Gives
  have DX := Lib.hid h2
  obtain ⟨ao, cap, rfl, c1, m1, H1⟩ := h1.open
  obtain ⟨xo, xc, rfl, -, -, -⟩ := h2.open
  have l1 := maxLen_lt (Nat.le_trans c1 m1)
  clear h1 h2 c1 m1
  have H1 := Lib.hid H1
  obtain ⟨n, hn⟩ : ∃ n, l.length = n := ⟨_, rfl⟩
  have HN := Lib.hid hn
  rw [hn] at l1 ⊢
  clear hn
  generalize hdd : decide (xs ∈ l.map (·.2)) = D
  have HDD := Lib.hid hdd; clear hdd
  go_enter Try.func14, Try.ntmps14
  go_wp2_with fail
  go_loopw [5] (fun i wr => ∃ k : Nat, k ≤ n ∧ i = .int .i64 (k : Int) ∧ xs ∉ (l.take k).map (·.2) ∧ Below w.heap.size w wr ∧ w.heap.size ≤ wr.heap.size) (fun i _ => n - (intOf i).toNat)
  case atStart => exact ⟨0, by omega, rfl, by simp, Below.refl _ _, Nat.le_refl _⟩
  case round =>
    obtain ⟨k, hk, rfl, hp, hw, hsz⟩ := hrel
    have HP := Lib.hid hp; clear hp
    by_cases hlt : k < n
    · have hlt' : k < l.length := by rw [HN.out]; exact hlt
      obtain ⟨b, off, rfl, lb, d0, da⟩ := H1.out k hlt'
      have d0 := (hw.cell (p := ⟨b, off + k, none⟩) lb).trans d0
      have HS0 := Lib.hid (same_any l[k].2 xs l[k].1 _ wr (da.below hw) (DX.out.below hw))
      have hst := has_step hlt' HP.out
      by_cases hxy : l[k].2 = xs
      · have hD : D = true := by
          rw [← HDD.out, decide_eq_true_eq]
          exact List.mem_map.2 ⟨l[k], List.getElem_mem _, hxy⟩
        subst hD
        have HSM := Lib.hid (show Gives _ _ _ (.bool true) from Gives.eq HS0.out rfl (by rw [decide_eq_true hxy]))
        generalize l[k].1 = y at *
        clear HS0 hst hxy da H1 hlt'
        go_wp2_with (go_at_call 13; with_reducible refine Gives.then HSM.out ?_; intro w1 hb)
        go_returns
        exact ⟨rfl, hw.trans (hb.mono hsz)⟩
      · have HSM := Lib.hid (show Gives _ _ _ (.bool false) from Gives.eq HS0.out rfl (by rw [decide_eq_false hxy]))
        have HST := Lib.hid (hst hxy)
        generalize l[k].1 = y at *
        clear HS0 hst hxy da H1 hlt'
        go_wp2_with (go_at_call 13; with_reducible refine Gives.then HSM.out ?_; intro w1 hb)
        have hw2 := hw.trans (hb.mono hsz)
        go_roundw
        case rel => exact ⟨k + 1, by omega, by go_num, HST.out, hw2, hw2.size⟩
        case measure => simp [intOf]; omega
    · obtain rfl : k = n := by omega
      have hD : D = false := by
        rw [← HDD.out, decide_eq_false_iff_not]
        have := HP.out
        rw [List.take_of_length_le (by rw [HN.out]; exact Nat.le_refl _)] at this
        exact this
      subst hD
      go_wp2_with fail
      go_returns
      exact ⟨rfl, hw⟩
end Go.Proofs.Ytfjngkdpembdcaa
