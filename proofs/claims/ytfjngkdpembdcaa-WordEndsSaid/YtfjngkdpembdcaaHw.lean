/-
  The specification's Same on lists of words.
-/
import Derived.Test.YtfjngkdpembdcaaHg
namespace Go.Proofs.Ytfjngkdpembdcaa
open Go.RowKit Go.Sort
theorem pre_same {l m : List (Value × List Snd)} {k : Nat} (h : k < l.length) (h' : k < m.length) (hp : (l.take k).map (·.2) = (m.take k).map (·.2)) (he : l[k].2 = m[k].2) : (l.take (k + 1)).map (·.2) = (m.take (k + 1)).map (·.2) := by
  rw [List.take_succ_eq_append_getElem h, List.take_succ_eq_append_getElem h', List.map_append, List.map_append, hp]; simp [he]
theorem same_no {l m : List (Value × List Snd)} {k : Nat} (h : k < l.length) (h' : k < m.length) (he : ¬ l[k].2 = m[k].2) : ¬ l.map (·.2) = m.map (·.2) := fun e => he (by
  have e1 := congrArg (fun z => z[k]?) e
  simp only [List.getElem?_map, List.getElem?_eq_getElem h, List.getElem?_eq_getElem h', Option.map_some, Option.some.injEq] at e1
  exact e1)
set_option maxHeartbeats 2000000 in
theorem rSame_any (l m : List (Value × List Snd)) (v u : Value) (w : World) (h1 : Ws w v l) (h2 : Ws w u m) : Gives 10 #[v, u] w (.bool (decide (l.map (·.2) = m.map (·.2)))) := by
  unfold Gives
  obtain ⟨ao, cap, rfl, c1, m1, H1⟩ := h1.open
  obtain ⟨bo, cap', rfl, c2, m2, H2⟩ := h2.open
  have l1 := maxLen_lt (Nat.le_trans c1 m1); have l2 := maxLen_lt (Nat.le_trans c2 m2)
  clear h1 h2 c1 m1 c2 m2
  by_cases hl : l.length = m.length
  · have H1 := Lib.hid H1; have H2 := Lib.hid H2
    generalize hdd : decide (l.map (·.2) = m.map (·.2)) = D
    have HDD := Lib.hid hdd; clear hdd
    go_enter Try.func10, Try.ntmps10
    go_wp2_with fail
    go_loopw [5] (fun i wr => ∃ k : Nat, k ≤ l.length ∧ i = .int .i64 (k : Int) ∧ (l.take k).map (·.2) = (m.take k).map (·.2) ∧ Below w.heap.size w wr ∧ w.heap.size ≤ wr.heap.size) (fun i _ => l.length - (intOf i).toNat)
    case atStart => exact ⟨0, by omega, rfl, by simp, Below.refl _ _, Nat.le_refl _⟩
    case round =>
      obtain ⟨k, hk, rfl, hp, hw, hsz⟩ := hrel
      have HP := Lib.hid hp; clear hp
      by_cases hlt : k < l.length
      · obtain ⟨b, off, rfl, lb, d0, da⟩ := H1.out k hlt
        obtain ⟨b', off', rfl, lb', e0, db⟩ := H2.out k (by omega)
        have d0 := (hw.cell (p := ⟨b, off + k, none⟩) lb).trans d0
        have e0 := (hw.cell (p := ⟨b', off' + k, none⟩) lb').trans e0
        have HA := Lib.hid da; have HB := Lib.hid db
        have hlt' : k < m.length := by omega
        clear da db H1 H2
        go_wp2_with fail
        by_cases hxy : l[k].2 = m[k].2
        · have HQ := Lib.hid (decide_eq_true hxy)
          have HPM := Lib.hid (pre_same hlt hlt' HP.out hxy)
          generalize l[k] = x at *
          generalize m[k] = y at *
          clear hxy
          refine wp_gen ?_
          intro W1 hW1
          have hw1 : Below w.heap.size w W1 := by rw [hW1]; go_grown
          have hz1 : wr.heap.size ≤ W1.heap.size := by rw [hW1]; go_size
          have c0 : W1.cell? ⟨b, off + k, none⟩ = some (x.1) := by rw [hW1]; first | assumption | go_cell | (go_simp; done) | exact cell_past (by first | assumption | omega) (by assumption)
          have c1 : W1.cell? ⟨b', off' + k, none⟩ = some (y.1) := by rw [hW1]; first | assumption | go_cell | (go_simp; done) | exact cell_past (by first | assumption | omega) (by assumption)
          clear hW1
          have k0 := cell_regrown c0
          have k1 := cell_regrown c1
          refine wp_region_quiet_below (by kernel_rfl) (by kernel_rfl) ?_
          try simp only [List.append]
          repeat (go_big_quiet_step (first | (go_at_call 23; with_reducible exact Calls.regrown_of (Gives.eq (rEqual_any _ _ _ _ _ (HA.out.below (hw1.trans ((below_regrown _ _ _).mono hw1.size))) (HB.out.below (hw1.trans ((below_regrown _ _ _).mono hw1.size)))) rfl (by rw [HQ.out])))))
          refine wpQuiet_nil ?_
          intro w2 hw2
          have hb : Below W1.heap.size W1 w2 := by obtain ⟨q, rfl⟩ := hw2; exact below_regrown _ _ _
          clear hw2
          clear k0 k1
          have hw := chain hw1 (by omega) hb
          obtain ⟨hc, hf, hz⟩ := bcell hb
          clear hb
          try have r0 : w2.cell? ⟨b, off + k, none⟩ = some (x.1) := (hc _ _ (by omega)).trans c0
          try have r1 : w2.cell? ⟨b', off' + k, none⟩ = some (y.1) := (hc _ _ (by omega)).trans c1
          go_wp2_with fail
          go_roundw
          case rel => exact ⟨k + 1, by omega, by first | go_num | simp, by simpa only [List.map_take] using HPM.out, hw.size⟩
          case measure => simp [intOf]; omega
        · have HQ := Lib.hid (decide_eq_false hxy)
          have HF := Lib.hid (decide_eq_false (same_no hlt hlt' hxy))
          generalize l[k] = x at *
          generalize m[k] = y at *
          clear hxy
          refine wp_gen ?_
          intro W1 hW1
          have hw1 : Below w.heap.size w W1 := by rw [hW1]; go_grown
          have hz1 : wr.heap.size ≤ W1.heap.size := by rw [hW1]; go_size
          have c0 : W1.cell? ⟨b, off + k, none⟩ = some (x.1) := by rw [hW1]; first | assumption | go_cell | (go_simp; done) | exact cell_past (by first | assumption | omega) (by assumption)
          have c1 : W1.cell? ⟨b', off' + k, none⟩ = some (y.1) := by rw [hW1]; first | assumption | go_cell | (go_simp; done) | exact cell_past (by first | assumption | omega) (by assumption)
          clear hW1
          have k0 := cell_regrown c0
          have k1 := cell_regrown c1
          refine wp_region_quiet_below (by kernel_rfl) (by kernel_rfl) ?_
          try simp only [List.append]
          repeat (go_big_quiet_step (first | (go_at_call 23; with_reducible exact Calls.regrown_of (Gives.eq (rEqual_any _ _ _ _ _ (HA.out.below (hw1.trans ((below_regrown _ _ _).mono hw1.size))) (HB.out.below (hw1.trans ((below_regrown _ _ _).mono hw1.size)))) rfl (by rw [HQ.out])))))
          refine wpQuiet_nil ?_
          intro w2 hw2
          have hb : Below W1.heap.size W1 w2 := by obtain ⟨q, rfl⟩ := hw2; exact below_regrown _ _ _
          clear hw2
          clear k0 k1
          have hw := chain hw1 (by omega) hb
          obtain ⟨hc, hf, hz⟩ := bcell hb
          clear hb
          try have r0 : w2.cell? ⟨b, off + k, none⟩ = some (x.1) := (hc _ _ (by omega)).trans c0
          try have r1 : w2.cell? ⟨b', off' + k, none⟩ = some (y.1) := (hc _ _ (by omega)).trans c1
          go_wp2_with fail
          go_returns
          exact ⟨ret_bool (HF.out.symm.trans HDD.out), hw⟩
      · have hfin : decide (l.map (·.2) = m.map (·.2)) = true := decide_eq_true (by
          have := HP.out
          rwa [List.take_of_length_le (by omega), List.take_of_length_le (by omega)] at this)
        have HF := Lib.hid hfin
        clear hfin H1 H2
        go_wp2_with fail
        go_returns
        exact ⟨ret_bool (HF.out.symm.trans HDD.out), hw⟩
  · have hfin : decide (l.map (·.2) = m.map (·.2)) = false := decide_eq_false fun e => hl (by simpa using congrArg List.length e)
    rw [hfin]
    clear hfin H1 H2
    go_enter Try.func10, Try.ntmps10
    go_wp2_with fail
    go_returns
    exact ⟨rfl, Below.refl _ _⟩
end Go.Proofs.Ytfjngkdpembdcaa
