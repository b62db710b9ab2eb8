/-
  The specification of features: Valid, Get, put and With: what they return.
-/
import Derived.Test.YtmgikhldkebjbaaHa
namespace Go.Proofs.Ytmgikhldkebjbaa
open Go.RowKit Go.Sort
theorem vld_bv {p m : BitVec 32} : vld p m = true ↔ p &&& m = 0#32 ∧ (p ||| m) &&& ~~~16777215#32 = 0#32 := by simp [vld]
theorem bv_ext {x y : BitVec 32} (h : ∀ i, i < 32 → x.getLsbD i = y.getLsbD i) : x = y := BitVec.eq_of_getLsbD_eq h
def gI (p m : BitVec 32) (g : Int) : Int := if 0 ≤ g ∧ g < 24 then getV p m g.toNat else 0
theorem gI_nat (p m : BitVec 32) (k : Nat) (h : k < 24) : gI p m (k : Int) = getV p m k := by unfold gI; rw [if_pos (by omega)]; rfl
theorem withP_get (p : BitVec 32) (k : Nat) (v : Int) (j : Nat) (hk : k < 32) (hj : j < 32) : (withP p k v).getLsbD j = if j = k then decide (v = 1) else p.getLsbD j := by
  unfold withP
  have hd : decide (j < 32) = true := decide_eq_true hj
  by_cases hv : v = 1
  · rw [if_pos hv]
    simp only [BitVec.getLsbD_or, BitVec.getLsbD_and, BitVec.getLsbD_not, bit_get k j hk, hd, Bool.true_and]
    by_cases e : j = k <;> simp [e, hv]
  · rw [if_neg hv]
    simp only [BitVec.getLsbD_and, BitVec.getLsbD_not, bit_get k j hk, hd, Bool.true_and]
    by_cases e : j = k <;> simp [e, hv]
theorem withM_get (p : BitVec 32) (k : Nat) (v : Int) (j : Nat) (hk : k < 32) (hj : j < 32) : (withM p k v).getLsbD j = if j = k then decide (v = -1) else p.getLsbD j := by
  unfold withM
  have hd : decide (j < 32) = true := decide_eq_true hj
  by_cases hv : v = -1
  · rw [if_pos hv]
    simp only [BitVec.getLsbD_or, BitVec.getLsbD_and, BitVec.getLsbD_not, bit_get k j hk, hd, Bool.true_and]
    by_cases e : j = k <;> simp [e, hv]
  · rw [if_neg hv]
    simp only [BitVec.getLsbD_and, BitVec.getLsbD_not, bit_get k j hk, hd, Bool.true_and]
    by_cases e : j = k <;> simp [e, hv]
theorem all_get (k : Nat) (h : k < 24) : (16777215#32).getLsbD k = true := (by decide : ∀ k : Fin 24, (16777215#32).getLsbD k.val = true) ⟨k, h⟩
theorem vld_bits {p m : BitVec 32} : vld p m = true ↔ ∀ j, j < 32 → (p.getLsbD j && m.getLsbD j) = false ∧ ((p.getLsbD j || m.getLsbD j) && !(16777215#32).getLsbD j) = false := by
  rw [vld_bv]
  constructor
  · rintro ⟨h1, h2⟩ j hj
    have a1 := congrArg (fun z => z.getLsbD j) h1
    have a2 := congrArg (fun z => z.getLsbD j) h2
    simp only [BitVec.getLsbD_and, BitVec.getLsbD_or, BitVec.getLsbD_not, BitVec.getLsbD_zero, decide_eq_true hj, Bool.true_and] at a1 a2
    exact ⟨a1, a2⟩
  · intro h
    constructor
    · apply bv_ext; intro j hj; simp only [BitVec.getLsbD_and, BitVec.getLsbD_zero]; exact (h j hj).1
    · apply bv_ext; intro j hj; simp only [BitVec.getLsbD_and, BitVec.getLsbD_or, BitVec.getLsbD_not, BitVec.getLsbD_zero, decide_eq_true hj, Bool.true_and]; exact (h j hj).2
theorem getV_of_vld {p m : BitVec 32} (h : vld p m = true) (k : Nat) (hk : k < 32) : decide (getV p m k = 1) = p.getLsbD k ∧ decide (getV p m k = -1) = m.getLsbD k := by
  have := (vld_bits.1 h k hk).1
  unfold getV
  revert this
  cases p.getLsbD k <;> cases m.getLsbD k <;> simp
theorem getV_three (p m : BitVec 32) (k : Nat) : getV p m k = 1 ∨ getV p m k = 0 ∨ getV p m k = -1 := by
  unfold getV; cases p.getLsbD k <;> cases m.getLsbD k <;> simp
theorem vld_with {p m : BitVec 32} (h : vld p m = true) (k : Nat) (v : Int) (hk : k < 24) : vld (withP p k v) (withM m k v) = true := by
  rw [vld_bits] at *
  intro j hj
  rw [withP_get p k v j (by omega) hj, withM_get m k v j (by omega) hj]
  by_cases e : j = k
  · subst e
    rw [if_pos rfl, if_pos rfl, all_get j hk]
    by_cases h1 : v = 1
    · subst h1; simp
    · simp [h1]
  · rw [if_neg e, if_neg e]; exact h j hj
theorem getV_with {p m : BitVec 32} (k : Nat) (v : Int) (j : Nat) (hk : k < 24) (hj : j < 32) (hv : v = 1 ∨ v = 0 ∨ v = -1) : getV (withP p k v) (withM m k v) j = if j = k then v else getV p m j := by
  unfold getV
  rw [withP_get p k v j (by omega) hj, withM_get m k v j (by omega) hj]
  by_cases e : j = k
  · subst e
    rw [if_pos rfl, if_pos rfl, if_pos rfl]
    rcases hv with rfl | rfl | rfl <;> simp
  · rw [if_neg e, if_neg e, if_neg e]
def withV (p m : BitVec 32) (k : Nat) (v : Int) : Value :=
  if v = 1 ∨ v = 0 ∨ v = -1 then .tuple #[sv (withP p k v) (withM m k v), .int .i64 0] else .tuple #[sv 0 0, .int .i64 2]
theorem shr_bit (p : BitVec 32) (k : Nat) : bits .and .u32 ((p.toNat : Int) / 2 ^ k) 1 = if p.getLsbD k then 1 else 0 := by
  have h : (p.toNat : Int) / 2 ^ k = ((p.toNat / 2 ^ k : Nat) : Int) := by rw [Int.natCast_ediv, Int.natCast_pow]; rfl
  have hlt : p.toNat / 2 ^ k < 2 ^ 32 := Nat.lt_of_le_of_lt (Nat.div_le_self _ _) p.isLt
  rw [bv_and, h, BitVec.ofInt_natCast, BitVec.toNat_and, BitVec.toNat_ofNat, Nat.mod_eq_of_lt hlt]
  have e : (BitVec.ofInt 32 1).toNat = 1 := by decide
  rw [e, Nat.and_one_is_mod, ← Nat.toNat_testBit]
  show _ = if p.toNat.testBit k then 1 else 0
  cases p.toNat.testBit k <;> rfl
theorem vld_no {p m : BitVec 32} {k : Nat} (hk : k < 32) (h : ((p.getLsbD k && m.getLsbD k) || ((p.getLsbD k || m.getLsbD k) && !decide (k < 24))) = true) : vld p m = false := by
  rw [Bool.eq_false_iff]
  intro hv
  obtain ⟨h1, h2⟩ := vld_bits.1 hv k hk
  have ha : (16777215#32).getLsbD k = decide (k < 24) := (by decide : ∀ k : Fin 32, (16777215#32).getLsbD k.val = decide (k.val < 24)) ⟨k, hk⟩
  rw [ha] at h2
  rw [h1, h2] at h
  cases h
theorem vld_yes {p m : BitVec 32} (h : ∀ k, k < 32 → ((p.getLsbD k && m.getLsbD k) || ((p.getLsbD k || m.getLsbD k) && !decide (k < 24))) = false) : vld p m = true := by
  rw [vld_bits]
  intro k hk
  have ha : (16777215#32).getLsbD k = decide (k < 24) := (by decide : ∀ k : Fin 32, (16777215#32).getLsbD k.val = decide (k.val < 24)) ⟨k, hk⟩
  rw [ha]
  simpa using h k hk
def okBit (p m : BitVec 32) (k : Nat) : Prop := ((p.getLsbD k && m.getLsbD k) || ((p.getLsbD k || m.getLsbD k) && !decide (k < 24))) = false
theorem okBit_more {p m : BitVec 32} {k : Nat} (h : ∀ j, j < k → okBit p m j) (hk : okBit p m k) : ∀ j, j < k + 1 → okBit p m j := fun j hj => by
  rcases Nat.lt_or_ge j k with h1 | h1
  · exact h j h1
  · obtain rfl : j = k := by omega
    exact hk
set_option maxHeartbeats 1000000 in
theorem rvalid_any (p m : BitVec 32) (w : World) : Gives 74 #[sn p.toNat m.toNat] w (.bool (vld p m)) := by
  unfold Gives
  generalize hv : vld p m = v
  have HV := Lib.hid hv; clear hv
  go_enter Try.func74, Try.ntmps74
  go_wp2_with fail
  go_loop [3] (fun i => ∃ k : Nat, k ≤ 32 ∧ i = .int .i64 (k : Int) ∧ ∀ j, j < k → okBit p m j) (fun i => 32 - (intOf i).toNat)
  case atStart => exact ⟨0, by omega, rfl, fun j hj => absurd hj (by omega)⟩
  case round =>
    obtain ⟨k, hk, rfl, hall⟩ := hrel
    have HA := Lib.hid hall; clear hall
    by_cases hlt : k < 32
    · have e1 := shr_bit p k
      have e2 := shr_bit m k
      have hno := fun h => vld_no (p := p) (m := m) hlt h
      have hyes := fun h => okBit_more (p := p) (m := m) HA.out h
      unfold okBit at hyes
      have HNO := Lib.hid hno; have HY := Lib.hid hyes; clear hno hyes
      by_cases h24 : k < 24
      all_goals rcases hp : p.getLsbD k with _ | _
      all_goals rcases hm : m.getLsbD k with _ | _
      all_goals (
        rw [hp] at e1; rw [hm] at e2
        simp only [if_true, Bool.false_eq_true, if_false] at e1 e2
        have HNO := HNO.out; have HY := HY.out
        rw [hp, hm] at HNO HY
        have HN := Lib.hid HNO; have HY2 := Lib.hid HY; clear HNO HY hp hm
        go_wp2_with fail
        first
          | (go_round
             case rel => exact ⟨k + 1, by omega, by go_num, HY2.out (by simp [h24])⟩
             case measure => simp [intOf]; omega)
          | (go_returns; exact ⟨by (rw [← HV.out, HN.out (by simp [h24])]; try rfl), by go_grown⟩))
    · go_wp2_with fail
      go_returns
      exact ⟨by (rw [← HV.out, vld_yes (fun j hj => HA.out j (by omega))]; try rfl), by go_grown⟩
theorem feature_any (k : Int) (b : Bool) (hb : (decide (0 ≤ k) && decide (k < 24)) = b) (w : World) : Calls Try.prog 77 #[.int .i64 k] w fun e w' => e = .returned (.bool b) ∧ w = w' := by
  subst hb
  by_cases h1 : 0 ≤ k
  · by_cases h2 : k < 24
    · go_enter Try.func77, Try.ntmps77
      go_wp2
      go_returns
      exact ⟨by first | (simp [h1, h2]; done) | rfl, rfl⟩
    · go_enter Try.func77, Try.ntmps77
      go_wp2
      go_returns
      exact ⟨by first | (simp [h1, h2]; done) | (simp; omega), rfl⟩
  · go_enter Try.func77, Try.ntmps77
    go_wp2
    go_returns
    exact ⟨by first | (simp [h1]; done) | (simp; omega), rfl⟩
set_option maxHeartbeats 1000000 in
theorem rget_bad (p m : BitVec 32) (g : Int) (h : vld p m = false ∨ ¬ (0 ≤ g ∧ g < 24)) (w : World) : Gives 59 #[sn p.toNat m.toNat, .int .i64 g] w (.int .i64 0) := by
  unfold Gives
  rcases hv : vld p m with _ | _
  · have HV := Lib.hid hv; clear hv h
    go_enter Try.func59, Try.ntmps59
    go_wp2_with (go_at_call 74; with_reducible refine Gives.then (Gives.eq (rvalid_any p m _) rfl (by rw [HV.out])) ?_; intro w1 hb; have hw := chain (B := w.heap.size) (a := w) (by go_grown) (by go_size) hb; obtain ⟨hc, hf, hz⟩ := bcell hb; clear hb; (try simp only [World.size_alloc, World.size_setCell, World.size_drew] at hc hf hz))
    go_returns
    exact ⟨rfl, hw⟩
  · have hg : (decide (0 ≤ g) && decide (g < 24)) = false := by
      rcases h with h | h
      · rw [hv] at h; cases h
      · simp only [Bool.and_eq_false_iff, decide_eq_false_iff_not]; omega
    have HG := Lib.hid hg; have HV := Lib.hid hv; clear hv h hg
    go_enter Try.func59, Try.ntmps59
    go_wp2_with (first | (go_at_call 74; with_reducible refine Gives.then (Gives.eq (rvalid_any p m _) rfl (by rw [HV.out])) ?_; intro w1 hb; have hw := chain (B := w.heap.size) (a := w) (by go_grown) (by go_size) hb; obtain ⟨hc, hf, hz⟩ := bcell hb; clear hb; (try simp only [World.size_alloc, World.size_setCell, World.size_drew] at hc hf hz)) | (go_at_call 77; refine (feature_any _ _ HG.out _).mono ?_; rintro e w2 ⟨rfl, rfl⟩))
    go_returns
    exact ⟨rfl, hw⟩
set_option maxHeartbeats 1000000 in
theorem rget_ok (p m : BitVec 32) (k : Nat) (hv : vld p m = true) (hk : k < 24) (w : World) : Gives 59 #[sn p.toNat m.toNat, .int .i64 (k : Int)] w (.int .i64 (getV p m k)) := by
  unfold Gives
  have hg : (decide (0 ≤ (k : Int)) && decide ((k : Int) < 24)) = true := by simp; omega
  have e1 := shr_bit p k
  have e2 := shr_bit m k
  have HG := Lib.hid hg; have HV := Lib.hid hv; clear hv hg
  unfold getV
  rcases hp : p.getLsbD k with _ | _
  all_goals rcases hm : m.getLsbD k with _ | _
  all_goals (
    rw [hp] at e1; rw [hm] at e2
    simp only [if_true, Bool.false_eq_true, if_false] at e1 e2
    clear hp hm
    go_enter Try.func59, Try.ntmps59
    go_wp2_with (first | (go_at_call 74; with_reducible refine Gives.then (Gives.eq (rvalid_any p m _) rfl (by rw [HV.out])) ?_; intro w1 hb; have hw := chain (B := w.heap.size) (a := w) (by go_grown) (by go_size) hb; obtain ⟨hc, hf, hz⟩ := bcell hb; clear hb; (try simp only [World.size_alloc, World.size_setCell, World.size_drew] at hc hf hz)) | (go_at_call 77; refine (feature_any _ _ HG.out _).mono ?_; rintro e w2 ⟨rfl, rfl⟩))
    go_returns
    exact ⟨by simp, hw⟩)
theorem rgv_get (p m : BitVec 32) (g : Int) (w : World) : Gives 59 #[sn p.toNat m.toNat, .int .i64 g] w (.int .i64 (if vld p m then gI p m g else 0)) := by
  rcases hv : vld p m with _ | _
  · exact rget_bad p m g (.inl hv) w
  · by_cases hg : 0 ≤ g ∧ g < 24
    · obtain ⟨k, rfl⟩ := Int.eq_ofNat_of_zero_le hg.1
      rw [if_pos rfl, gI_nat p m k (by omega)]
      exact rget_ok p m k hv (by omega) w
    · have e : gI p m g = 0 := by unfold gI; rw [if_neg hg]
      rw [if_pos rfl, e]
      exact rget_bad p m g (.inr hg) w
theorem b_andNot (x y : BitVec 32) : bits .andNot .u32 x.toNat y.toNat = ((x &&& ~~~y).toNat : Int) := by rw [bv_andNot, ofInt32_nat, ofInt32_nat]
theorem b_or (x y : BitVec 32) : bits .or .u32 x.toNat y.toNat = ((x ||| y).toNat : Int) := by rw [bv_or, ofInt32_nat, ofInt32_nat]
theorem b_and (x y : BitVec 32) : bits .and .u32 x.toNat y.toNat = ((x &&& y).toNat : Int) := by rw [bv_and, ofInt32_nat, ofInt32_nat]
set_option maxHeartbeats 1000000 in
theorem rput_any (p m : BitVec 32) (k : Nat) (v : Int) (hk : k < 24) (w : World) : Gives 78 #[sn p.toNat m.toNat, .int .i64 (k : Int), .int .i64 v] w (sn (withP p k v).toNat (withM m k v).toNat) := by
  unfold Gives
  have hb := pow_bit k (by omega)
  unfold withP withM
  generalize bit k = B at *
  have e1 := b_andNot p B
  have e2 := b_andNot m B
  generalize p &&& ~~~B = P at *
  generalize m &&& ~~~B = M at *
  have e3 := b_or P B
  have e4 := b_or M B
  generalize P ||| B = P1 at *
  generalize M ||| B = M1 at *
  by_cases v1 : v = 1
  · subst v1
    rw [if_pos rfl, if_neg (by decide)]
    go_enter Try.func78, Try.ntmps78
    go_wp2
    refine bodyPost_ret (v := sn P1.toNat M.toNat) (by simp [results, Try.results78, go_sem, *]) rfl ⟨rfl, by go_grown⟩
  · rw [if_neg v1]
    by_cases v2 : v = -1
    · subst v2
      rw [if_pos rfl]
      go_enter Try.func78, Try.ntmps78
      go_wp2
      refine bodyPost_ret (v := sn P.toNat M1.toNat) (by simp [results, Try.results78, go_sem, *]) rfl ⟨rfl, by go_grown⟩
    · rw [if_neg v2]
      have f1 : (v == 1) = false := by simpa using v1
      have f2 : (v == -1) = false := by simpa using v2
      go_enter Try.func78, Try.ntmps78
      go_wp2
      refine bodyPost_ret (v := sn P.toNat M.toNat) (by simp [results, Try.results78, go_sem, *]) rfl ⟨rfl, by go_grown⟩
set_option maxHeartbeats 1000000 in
theorem rwith_any (p m : BitVec 32) (g v : Int) (w : World) : Gives 60 #[sn p.toNat m.toNat, .int .i64 g, .int .i64 v] w
    (if vld p m then (if 0 ≤ g ∧ g < 24 then withV p m g.toNat v else .tuple #[sn 0 0, .int .i64 3]) else .tuple #[sn 0 0, .int .i64 14]) := by
  unfold Gives
  rcases hv : vld p m with _ | _
  · have HV := Lib.hid hv; clear hv
    simp only [Bool.false_eq_true, if_false]
    go_enter Try.func60, Try.ntmps60
    go_wp2_with (go_at_call 74; with_reducible refine Gives.then (Gives.eq (rvalid_any p m _) rfl (by rw [HV.out])) ?_; intro w1 hb; have hw := chain (B := w.heap.size) (a := w) (by go_grown) (by go_size) hb; (first | have h0 := chain (h0.trans (by go_grown)) (by go_size) hb | have h0 := hb); obtain ⟨hc, hf, hz⟩ := bcell hb; obtain ⟨hc0, hf0, hz0⟩ := bcell h0; clear hb; (try simp only [World.size_alloc, World.size_setCell, World.size_drew] at hc hf hz hc0 hf0 hz0))
    refine bodyPost_ret (v := .tuple #[sn 0 0, .int .i64 14]) (by simp [results, Try.results60, go_sem, hc, hz]) rfl ⟨rfl, by go_grown⟩
  · rw [if_pos rfl]
    have HV := Lib.hid hv; clear hv
    by_cases hg : 0 ≤ g ∧ g < 24
    · rw [if_pos hg]
      obtain ⟨k, rfl⟩ := Int.eq_ofNat_of_zero_le hg.1
      have hk : k < 24 := by omega
      have hgb : (decide (0 ≤ (k : Int)) && decide ((k : Int) < 24)) = true := by simp; omega
      have HG := Lib.hid hgb; clear hgb hg
      rw [Int.toNat_natCast]
      unfold withV
      by_cases h3 : v = 1 ∨ v = 0 ∨ v = -1
      · rw [if_pos h3]
        have g1 : -1 ≤ v := by omega
        have g2 : v ≤ 1 := by omega
        clear h3
        go_enter Try.func60, Try.ntmps60
        go_wp2_with (first | (go_at_call 74; with_reducible refine Gives.then (Gives.eq (rvalid_any p m _) rfl (by rw [HV.out])) ?_; intro w1 hb; have hw := chain (B := w.heap.size) (a := w) (by go_grown) (by go_size) hb; (first | have h0 := chain (h0.trans (by go_grown)) (by go_size) hb | have h0 := hb); obtain ⟨hc, hf, hz⟩ := bcell hb; obtain ⟨hc0, hf0, hz0⟩ := bcell h0; clear hb; (try simp only [World.size_alloc, World.size_setCell, World.size_drew] at hc hf hz hc0 hf0 hz0)) | (go_at_call 77; refine (feature_any _ _ HG.out _).mono ?_; rintro e w2 ⟨rfl, rfl⟩) | (go_at_call 78; with_reducible refine Gives.then (rput_any p m k v hk _) ?_; intro w1 hb; have hw := chain (B := w.heap.size) (a := w) (by go_grown) (by go_size) hb; (first | have h0 := chain (h0.trans (by go_grown)) (by go_size) hb | have h0 := hb); obtain ⟨hc, hf, hz⟩ := bcell hb; obtain ⟨hc0, hf0, hz0⟩ := bcell h0; clear hb; (try simp only [World.size_alloc, World.size_setCell, World.size_drew] at hc hf hz hc0 hf0 hz0)))
        refine bodyPost_ret (v := .tuple #[sn (withP p k v).toNat (withM m k v).toNat, .int .i64 0]) (by simp [results, Try.results60, go_sem, hc, hz, hc0, hz0]) rfl ⟨rfl, by go_grown⟩
      · rw [if_neg h3]
        have g1 : v < -1 ∨ 1 < v := by omega
        clear h3
        rcases g1 with g1 | g1
        all_goals (
          go_enter Try.func60, Try.ntmps60
          go_wp2_with (first | (go_at_call 74; with_reducible refine Gives.then (Gives.eq (rvalid_any p m _) rfl (by rw [HV.out])) ?_; intro w1 hb; have hw := chain (B := w.heap.size) (a := w) (by go_grown) (by go_size) hb; (first | have h0 := chain (h0.trans (by go_grown)) (by go_size) hb | have h0 := hb); obtain ⟨hc, hf, hz⟩ := bcell hb; obtain ⟨hc0, hf0, hz0⟩ := bcell h0; clear hb; (try simp only [World.size_alloc, World.size_setCell, World.size_drew] at hc hf hz hc0 hf0 hz0)) | (go_at_call 77; refine (feature_any _ _ HG.out _).mono ?_; rintro e w2 ⟨rfl, rfl⟩))
          refine bodyPost_ret (v := .tuple #[sn 0 0, .int .i64 2]) (by simp [results, Try.results60, go_sem, hc, hz]) rfl ⟨rfl, by go_grown⟩)
    · rw [if_neg hg]
      have hgb : (decide (0 ≤ g) && decide (g < 24)) = false := by simp only [Bool.and_eq_false_iff, decide_eq_false_iff_not]; omega
      have HG := Lib.hid hgb; clear hgb hg
      go_enter Try.func60, Try.ntmps60
      go_wp2_with (first | (go_at_call 74; with_reducible refine Gives.then (Gives.eq (rvalid_any p m _) rfl (by rw [HV.out])) ?_; intro w1 hb; have hw := chain (B := w.heap.size) (a := w) (by go_grown) (by go_size) hb; (first | have h0 := chain (h0.trans (by go_grown)) (by go_size) hb | have h0 := hb); obtain ⟨hc, hf, hz⟩ := bcell hb; obtain ⟨hc0, hf0, hz0⟩ := bcell h0; clear hb; (try simp only [World.size_alloc, World.size_setCell, World.size_drew] at hc hf hz hc0 hf0 hz0)) | (go_at_call 77; refine (feature_any _ _ HG.out _).mono ?_; rintro e w2 ⟨rfl, rfl⟩))
      refine bodyPost_ret (v := .tuple #[sn 0 0, .int .i64 3]) (by simp [results, Try.results60, go_sem, hc, hz]) rfl ⟨rfl, by go_grown⟩
end Go.Proofs.Ytmgikhldkebjbaa
