/-
  Whether a word is left when sounds of another one are left out: Inside.
-/
import Derived.Test.YtfjngkdpembdcaaHh
namespace Go.Proofs.Ytfjngkdpembdcaa
open Go.RowKit Go.Sort
attribute [local go_sem ↓] snd_eql snd_neq
/-- What is left of r when the sounds of a word that fit are taken away. -/
def rem : List Snd → List Snd → List Snd
  | r, [] => r
  | [], _ :: w => rem [] w
  | x :: r, s :: w => if x = s then rem r w else rem (x :: r) w
def insS (v w : List Snd) : Bool := decide (rem v w = [])
theorem rem_nil {xs : List Snd} {k : Nat} (h : k < xs.length) : rem [] (xs.drop k) = rem [] (xs.drop (k + 1)) := by
  rw [List.drop_eq_getElem_cons h]; rfl
theorem rem_step {xs rs : List Snd} {k : Nat} {x : Snd} (h : k < xs.length) : rem (x :: rs) (xs.drop k) = if x = xs[k] then rem rs (xs.drop (k + 1)) else rem (x :: rs) (xs.drop (k + 1)) := by
  rw [List.drop_eq_getElem_cons h]; rfl
theorem rem_end {xs rs : List Snd} {k : Nat} (h : ¬ k < xs.length) : rem rs (xs.drop k) = rs := by
  rw [List.drop_of_length_le (by omega)]; cases rs <;> rfl
set_option maxHeartbeats 4000000 in
theorem inside_any (xs ys : List Snd) (v u : Value) (w : World) (hl : ys.length ≤ 1000000000) (h : Wd w v ys) (hu : Wd w u xs) : Gives 20 #[v, u] w (.bool (insS ys xs)) := by
  unfold Gives
  obtain ⟨uo, ucap, rfl, k1, k2, H2⟩ := hu.open
  have l2 := maxLen_lt (Nat.le_trans k1 k2)
  clear k1 k2 hu
  obtain ⟨vo, vcap, hv, -, -, -⟩ := h.open
  subst hv
  have HV := Lib.hid h; have H2 := Lib.hid H2
  generalize ho : insS ys xs = o
  have ho' : decide (rem ys (xs.drop 0) = []) = o := ho
  have HO := Lib.hid ho'
  clear ho ho' h
  have HL := Lib.hid hl; clear hl
  go_enter Try.func20, Try.ntmps20
  go_wp2_with fail
  go_loopw [11, 5] (fun i r wr => ∃ (k : Nat) (rs : List Snd), k ≤ xs.length ∧ i = .int .i64 (k : Int) ∧ decide (rem rs (xs.drop k) = []) = o ∧ Wd w r rs ∧ rs.length ≤ 1000000000 ∧ Below w.heap.size w wr ∧ w.heap.size ≤ wr.heap.size) (fun i _ _ => xs.length - (intOf i).toNat)
  case atStart => exact ⟨0, ys, by omega, rfl, HO.out, HV.out, HL.out, Below.refl _ _, Nat.le_refl _⟩
  case round =>
    clear HO HV HL
    obtain ⟨k, rs, hk, rfl, hp, hr, hrl, hw, hsz⟩ := hrel
    by_cases hlt : k < xs.length
    · obtain ⟨b, off, rfl, lb, d0, d1⟩ := H2.out k hlt
      have d0 := (hw.cell (p := ⟨b, off + k * 2, none⟩) lb).trans d0
      have d1 := (hw.cell (p := ⟨b, off + k * 2 + 1, none⟩) lb).trans d1
      clear H2
      have lbr : b < wr.heap.size := by omega
      rcases rs with _ | ⟨x, rs⟩
      · rw [rem_nil hlt] at hp
        have HP := Lib.hid hp; have HR := Lib.hid hr
        obtain ⟨ro, rcap, rfl, -, -, -⟩ := hr.open
        generalize hx : xs[k] = x at *
        clear hp hr hx
        go_wp2_with fail
        refine wp_gen ?_
        intro W1 hW1
        have hw1 : Below w.heap.size w W1 := by rw [hW1]; go_grown
        have hz1 : wr.heap.size ≤ W1.heap.size := by rw [hW1]; go_size
        clear hW1
        refine wp_region_quiet_below (by kernel_rfl) (by kernel_rfl) ?_
        try simp only [List.append]
        repeat (go_big_quiet_step (first | exact Calls.regrown_of ()))
        refine wpQuiet_nil ?_
        intro w2 hw2
        have hb : Below W1.heap.size W1 w2 := by obtain ⟨q, rfl⟩ := hw2; exact below_regrown _ _ _
        clear hw2
        have hw := chain hw1 (by omega) hb
        obtain ⟨hc, hf, hz⟩ := bcell hb
        clear hb
        go_wp2_with fail
        go_roundw
        case rel => exact ⟨k + 1, [], by omega, by go_num, HP.out, HR.out, hrl, hw, hw.size⟩
        case measure => simp [intOf]; omega
      · rw [rem_step hlt] at hp
        have HR := Lib.hid hr
        rcases hr with ⟨_, hn⟩ | ⟨b', off', rcap, rfl, c1, m1, lb', h3⟩
        · cases hn
        have hd := Wd.drop (A := 1) (by simp) c1 m1 lb' h3
        have hd0 := fun (hc : rcap = 1) => Wd.drop0 (cap := 1) (off := off') (ss := x :: rs) (w := w) (b := b') (by omega) lb'
        obtain ⟨e0, e1⟩ := h3 0 (by simp)
        simp only [List.length_cons, Nat.add_sub_cancel, List.drop_succ_cons, List.drop_zero, Nat.one_mul, Nat.zero_mul, Nat.add_zero, List.getElem_cons_zero] at hd hd0 e0 e1 c1 hrl
        have e0 := (hw.cell (p := ⟨b', off', none⟩) lb').trans e0
        have e1 := (hw.cell (p := ⟨b', off' + 1, none⟩) lb').trans e1
        have hD : Wd w (.slice (if rcap = 1 then some ⟨b', off', none⟩ else some ⟨b', off' + 2, none⟩) rs.length (rcap - 1)) rs := by
          by_cases h1 : rcap = 1
          · have r0 : rs.length = 0 := by omega
            have := hd0 h1
            rw [if_pos h1, r0, h1]; exact this
          · rw [if_neg h1]; exact hd
        have HD := Lib.hid hD
        clear hD
        have hm : rcap ≤ 9223372036854775807 := m1
        have lbr' : b' < wr.heap.size := by omega
        clear h3 hd hd0 m1 c1
        generalize hx : xs[k] = y at *
        have HX := Lib.hid hx
        clear hx
        by_cases hxy : x = y
        · have HP := Lib.hid ((congrArg (fun l => decide (l = [])) (if_pos hxy)).symm.trans hp)
          subst hxy
          clear hp
          go_wp2_with fail
          refine wp_gen ?_
          intro W1 hW1
          have hw1 : Below w.heap.size w W1 := by rw [hW1]; go_grown
          have hz1 : wr.heap.size + 1 ≤ W1.heap.size := by rw [hW1]; go_size
          have c0 : W1.cell? ⟨b, off + k * 2, none⟩ = some (.int .u32 x.1.toNat) := by rw [hW1]; first | assumption | go_cell | (go_simp; done) | exact cell_past (by first | assumption | omega) (by assumption)
          have c1 : W1.cell? ⟨b, off + k * 2 + 1, none⟩ = some (.int .u32 x.2.toNat) := by rw [hW1]; first | assumption | go_cell | (go_simp; done) | exact cell_past (by first | assumption | omega) (by assumption)
          have c2 : W1.cell? ⟨b', off', none⟩ = some (.int .u32 x.1.toNat) := by rw [hW1]; first | assumption | go_cell | (go_simp; done) | exact cell_past (by first | assumption | omega) (by assumption)
          have c3 : W1.cell? ⟨b', off' + 1, none⟩ = some (.int .u32 x.2.toNat) := by rw [hW1]; first | assumption | go_cell | (go_simp; done) | exact cell_past (by first | assumption | omega) (by assumption)
          have c4 : W1.cell? ⟨wr.heap.size, 0, none⟩ = some (.int .u32 x.1.toNat) := by rw [hW1]; first | assumption | go_cell | (go_simp; done) | exact cell_past (by first | assumption | omega) (by assumption)
          have c5 : W1.cell? ⟨wr.heap.size, 1, none⟩ = some (.int .u32 x.2.toNat) := by rw [hW1]; first | assumption | go_cell | (go_simp; done) | exact cell_past (by first | assumption | omega) (by assumption)
          clear hW1
          have k0 := cell_regrown c0
          have k1 := cell_regrown c1
          have k2 := cell_regrown c2
          have k3 := cell_regrown c3
          have k4 := cell_regrown c4
          have k5 := cell_regrown c5
          refine wp_region_quiet_below (by kernel_rfl) (by kernel_rfl) ?_
          try simp only [List.append]
          repeat (go_big_quiet_step (first | exact Calls.regrown_of ()))
          refine wpQuiet_nil ?_
          intro w2 hw2
          have hb : Below W1.heap.size W1 w2 := by obtain ⟨q, rfl⟩ := hw2; exact below_regrown _ _ _
          clear hw2
          clear k0 k1 k2 k3 k4 k5
          have hw := chain hw1 (by omega) hb
          obtain ⟨hc, hf, hz⟩ := bcell hb
          clear hb
          try have r0 : w2.cell? ⟨b, off + k * 2, none⟩ = some (.int .u32 x.1.toNat) := (hc _ _ (by omega)).trans c0
          try have r1 : w2.cell? ⟨b, off + k * 2 + 1, none⟩ = some (.int .u32 x.2.toNat) := (hc _ _ (by omega)).trans c1
          try have r2 : w2.cell? ⟨b', off', none⟩ = some (.int .u32 x.1.toNat) := (hc _ _ (by omega)).trans c2
          try have r3 : w2.cell? ⟨b', off' + 1, none⟩ = some (.int .u32 x.2.toNat) := (hc _ _ (by omega)).trans c3
          try have r4 : w2.cell? ⟨wr.heap.size, 0, none⟩ = some (.int .u32 x.1.toNat) := (hc _ _ (by omega)).trans c4
          try have r5 : w2.cell? ⟨wr.heap.size, 1, none⟩ = some (.int .u32 x.2.toNat) := (hc _ _ (by omega)).trans c5
          go_wp2_with fail
          go_roundw
          case rel => exact ⟨k + 1, rs, by omega, by go_num, HP.out, HD.out, by omega, hw, hw.size⟩
          case measure => simp [intOf]; omega
        · have HP := Lib.hid ((congrArg (fun l => decide (l = [])) (if_neg hxy)).symm.trans hp)
          have hne := snd_ne hxy
          obtain ⟨x1, x2⟩ := x
          obtain ⟨y1, y2⟩ := y
          simp only at d0 d1 e0 e1 hne
          clear hp hxy
          go_wp2_with fail
          refine wp_gen ?_
          intro W1 hW1
          have hw1 : Below w.heap.size w W1 := by rw [hW1]; go_grown
          have hz1 : wr.heap.size + 1 ≤ W1.heap.size := by rw [hW1]; go_size
          have c0 : W1.cell? ⟨b, off + k * 2, none⟩ = some (.int .u32 y1.toNat) := by rw [hW1]; first | assumption | go_cell | (go_simp; done) | exact cell_past (by first | assumption | omega) (by assumption)
          have c1 : W1.cell? ⟨b, off + k * 2 + 1, none⟩ = some (.int .u32 y2.toNat) := by rw [hW1]; first | assumption | go_cell | (go_simp; done) | exact cell_past (by first | assumption | omega) (by assumption)
          have c2 : W1.cell? ⟨b', off', none⟩ = some (.int .u32 x1.toNat) := by rw [hW1]; first | assumption | go_cell | (go_simp; done) | exact cell_past (by first | assumption | omega) (by assumption)
          have c3 : W1.cell? ⟨b', off' + 1, none⟩ = some (.int .u32 x2.toNat) := by rw [hW1]; first | assumption | go_cell | (go_simp; done) | exact cell_past (by first | assumption | omega) (by assumption)
          have c4 : W1.cell? ⟨wr.heap.size, 0, none⟩ = some (.int .u32 y1.toNat) := by rw [hW1]; first | assumption | go_cell | (go_simp; done) | exact cell_past (by first | assumption | omega) (by assumption)
          have c5 : W1.cell? ⟨wr.heap.size, 1, none⟩ = some (.int .u32 y2.toNat) := by rw [hW1]; first | assumption | go_cell | (go_simp; done) | exact cell_past (by first | assumption | omega) (by assumption)
          clear hW1
          have k0 := cell_regrown c0
          have k1 := cell_regrown c1
          have k2 := cell_regrown c2
          have k3 := cell_regrown c3
          have k4 := cell_regrown c4
          have k5 := cell_regrown c5
          refine wp_region_quiet_below (by kernel_rfl) (by kernel_rfl) ?_
          try simp only [List.append]
          repeat (go_big_quiet_step (first | exact Calls.regrown_of ()))
          refine wpQuiet_nil ?_
          intro w2 hw2
          have hb : Below W1.heap.size W1 w2 := by obtain ⟨q, rfl⟩ := hw2; exact below_regrown _ _ _
          clear hw2
          clear k0 k1 k2 k3 k4 k5
          have hw := chain hw1 (by omega) hb
          obtain ⟨hc, hf, hz⟩ := bcell hb
          clear hb
          try have r0 : w2.cell? ⟨b, off + k * 2, none⟩ = some (.int .u32 y1.toNat) := (hc _ _ (by omega)).trans c0
          try have r1 : w2.cell? ⟨b, off + k * 2 + 1, none⟩ = some (.int .u32 y2.toNat) := (hc _ _ (by omega)).trans c1
          try have r2 : w2.cell? ⟨b', off', none⟩ = some (.int .u32 x1.toNat) := (hc _ _ (by omega)).trans c2
          try have r3 : w2.cell? ⟨b', off' + 1, none⟩ = some (.int .u32 x2.toNat) := (hc _ _ (by omega)).trans c3
          try have r4 : w2.cell? ⟨wr.heap.size, 0, none⟩ = some (.int .u32 y1.toNat) := (hc _ _ (by omega)).trans c4
          try have r5 : w2.cell? ⟨wr.heap.size, 1, none⟩ = some (.int .u32 y2.toNat) := (hc _ _ (by omega)).trans c5
          go_wp2_with fail
          go_roundw
          case rel => exact ⟨k + 1, (x1, x2) :: rs, by omega, by go_num, HP.out, HR.out, by simp; omega, hw, hw.size⟩
          case measure => simp [intOf]; omega
    · have HP := Lib.hid hp
      rw [rem_end hlt] at hp
      have HP := Lib.hid hp
      obtain ⟨ro, rcap, rfl, -, -, -⟩ := hr.open
      clear hr H2 hp
      rcases rs with _ | ⟨x, rs⟩
      · go_wp2_with fail
        go_returns
        exact ⟨ret_bool (by rw [← HP.out]; rfl), hw⟩
      · simp only [List.length_cons] at hrl
        go_wp2_with fail
        go_returns
        exact ⟨ret_bool (by rw [← HP.out]; simp <;> omega), hw⟩
end Go.Proofs.Ytfjngkdpembdcaa
