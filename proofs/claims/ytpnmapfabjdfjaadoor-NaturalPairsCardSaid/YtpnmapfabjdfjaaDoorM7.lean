/-
  Lemmas that the theorem of this claim rests on: 6 texts, one behind the other.
-/
import Derived.Test.YtpnmapfabjdfjaaDoorM6
import Derived.Test.YtpnmapfabjdfjaaDoorM3
set_option linter.unusedSimpArgs false
set_option linter.unusedVariables false

/-
  The specification's just (layer 5).
-/
namespace Go.Proofs.YtpnmapfabjdfjaaDoor
open Go.RowKit Go.Sort
/-- How many sounds of a list are in another. -/
def cnS (s : List Snd) : List Snd → Nat
  | [] => 0
  | x :: l => (if x ∈ s then 1 else 0) + cnS s l
theorem cnS_snoc (s : List Snd) (x : Snd) : ∀ l : List Snd, cnS s (l ++ [x]) = cnS s l + if x ∈ s then 1 else 0
  | [] => by simp [cnS]
  | y :: l => by
    simp only [List.cons_append, cnS, cnS_snoc s x l]
    omega
theorem cnS_le (s : List Snd) : ∀ l : List Snd, cnS s l ≤ l.length
  | [] => Nat.le_refl _
  | x :: l => by
    have := cnS_le s l
    simp only [cnS, List.length_cons]
    split <;> omega
def jsB (l s : List Snd) (xs : List Nat) : Bool := (xs.all fun i => decide (l.getD i (0#32, 0#32) ∈ s)) && (xs.length == cnS s l)
set_option maxRecDepth 100000 in
set_option maxHeartbeats 4000000 in
theorem rjust_any (l s : List Snd) (xs : List Nat) (v u x : Value) (w : World) (h : Wd w v l) (hu : Wd w u s) (hx : Is w x xs) (hin : ∀ i ∈ xs, i < l.length) : Gives 55 #[v, u, x] w (.bool (jsB l s xs)) := by
  unfold Gives
  have hhas := fun (y : Snd) (W : World) (hb : Below w.heap.size w W) => rhas_any s y u W (hu.below hb)
  obtain ⟨uo, ucap, hue, -⟩ := hu.open
  obtain ⟨ao, cap, rfl, c1, m1, hc⟩ := h.open
  obtain ⟨xo, xcap, rfl, c2, m2, hd⟩ := hx.open
  subst hue
  obtain ⟨N, hN⟩ : ∃ N, l.length = N := ⟨_, rfl⟩
  obtain ⟨M, hM⟩ : ∃ M, xs.length = M := ⟨_, rfl⟩
  obtain ⟨U, hU⟩ : ∃ U, s.length = U := ⟨_, rfl⟩
  obtain ⟨R, hR⟩ : ∃ R, jsB l s xs = R := ⟨_, rfl⟩
  rw [hN] at c1
  rw [hM] at c2
  rw [hU] at hhas
  rw [hN, hM, hU, hR]
  have HC := Lib.hid hc; have HD := Lib.hid hd; have HN := Lib.hid hN; have HM := Lib.hid hM; have HR := Lib.hid hR; have HH := Lib.hid hhas; have HIN := Lib.hid hin
  have l1 : N ≤ 9223372036854775807 := by unfold maxLen at m1; omega
  have l2 : M ≤ 9223372036854775807 := by unfold maxLen at m2; omega
  clear hc hd hN hM hU hR hhas hin h hu hx m1 m2
  go_enter Tryd.func55, Tryd.ntmps55
  go_wp2_with fail
  go_loopw [7, 8] (fun n i wr => ∃ k : Nat, k ≤ N ∧ i = .int .i64 (k : Int) ∧ n = .int .i64 (cnS s (l.take k) : Int) ∧ Below w.heap.size w wr) (fun _ i _ => N - (intOf i).toNat)
  case atStart => exact ⟨0, by omega, rfl, rfl, Below.refl _ _⟩
  case round =>
    obtain ⟨k, hk, rfl, rfl, hw⟩ := hrel
    by_cases hlt : k < N
    · have hkl : k < l.length := by rw [HN.out]; exact hlt
      obtain ⟨b, off, hao, lb, d0, d1⟩ := HC.out k hkl
      subst hao
      have d0 := (hw.cell (p := ⟨b, _, none⟩) lb).trans d0
      have d1 := (hw.cell (p := ⟨b, _, none⟩) lb).trans d1
      have hsn := cnS_snoc s l[k] (l.take k)
      rw [← List.take_succ_eq_append_getElem hkl] at hsn
      have hle := cnS_le s (l.take k)
      rw [List.length_take] at hle
      have hle2 : cnS s (l.take k) ≤ k := by omega
      have hhs := HH.out l[k] wr hw
      have HSN := Lib.hid hsn; have HS := Lib.hid hhs; have HW := Lib.hid hw
      clear hsn hhs hw hle HC HD
      generalize cnS s (l.take k) = q at *
      generalize l[k] = y at *
      obtain ⟨p, m⟩ := y
      simp only at d0 d1 HS
      by_cases hy : (p, m) ∈ s
      · have hs2 := HS.out
        have hsn := HSN.out
        rw [decide_eq_true hy] at hs2
        rw [if_pos hy] at hsn
        have HS2 := Lib.hid hs2; have HSN2 := Lib.hid hsn
        clear hs2 hsn HS HSN hy
        go_wp2_with (go_at_call 52; (with_reducible refine Gives.then HS2.out ?_); intro w2 hb2; have HW2 := Lib.hid (HW.out.trans (hb2.mono HW.out.size)); clear hb2)
        go_roundw
        case rel => exact ⟨k + 1, by omega, by go_num, by rw [HSN2.out]; go_num, HW2.out⟩
        case measure => simp [intOf]; omega
      · have hs2 := HS.out
        have hsn := HSN.out
        rw [decide_eq_false hy] at hs2
        rw [if_neg hy] at hsn
        have HS2 := Lib.hid hs2; have HSN2 := Lib.hid hsn
        clear hs2 hsn HS HSN hy
        go_wp2_with (go_at_call 52; (with_reducible refine Gives.then HS2.out ?_); intro w2 hb2; have HW2 := Lib.hid (HW.out.trans (hb2.mono HW.out.size)); clear hb2)
        go_roundw
        case rel => exact ⟨k + 1, by omega, by go_num, by rw [HSN2.out]; rfl, HW2.out⟩
        case measure => simp [intOf]; omega
    · obtain rfl : k = N := by omega
      have he : l.take k = l := by rw [← HN.out, List.take_length]
      rw [he]
      obtain ⟨q, hq⟩ : ∃ q, cnS s l = q := ⟨_, rfl⟩
      rw [hq]
      have HQ := Lib.hid hq; have HW := Lib.hid hw
      clear he hq hw hlt hk
      go_wp2_with fail
      go_loopw [9] (fun i wr => ∃ k : Nat, k ≤ M ∧ i = .int .i64 (k : Int) ∧ (∀ j (hj : j < xs.length), j < k → l.getD xs[j] (0#32, 0#32) ∈ s) ∧ Below w.heap.size w wr) (fun i _ => M - (intOf i).toNat)
      case atStart => exact ⟨0, by omega, rfl, fun j _ hj => by omega, HW.out⟩
      case round =>
        clear HW
        obtain ⟨t, ht, rfl, hall, hw⟩ := hrel
        have HALL := Lib.hid hall
        clear hall
        by_cases hlt : t < M
        · have htl : t < xs.length := by rw [HM.out]; exact hlt
          obtain ⟨b, rfl, lb, g0⟩ := HD.out t htl
          have g0 := (hw.cell (p := ⟨b, _, none⟩) lb).trans g0
          have hil := HIN.out _ (List.getElem_mem htl)
          have hgd : l.getD xs[t] (0#32, 0#32) = l[xs[t]] := by simp [List.getD, List.getElem?_eq_getElem hil]
          obtain ⟨b', off, hao, lb', d0, d1⟩ := HC.out xs[t] hil
          subst hao
          have d0 := (hw.cell (p := ⟨b', _, none⟩) lb').trans d0
          have d1 := (hw.cell (p := ⟨b', _, none⟩) lb').trans d1
          have hhs := HH.out l[xs[t]] wr hw
          have hmore : l[xs[t]] ∈ s → ∀ j (hj : j < xs.length), j < t + 1 → l.getD xs[j] (0#32, 0#32) ∈ s := fun h j hj hjk => by
            by_cases e : j = t
            · subst e; rw [hgd]; exact h
            · exact HALL.out j hj (by omega)
          have hno : l[xs[t]] ∉ s → R = false := fun h => by
            rw [← HR.out]
            unfold jsB
            rw [List.all_eq_false.2 ⟨xs[t], List.getElem_mem htl, by rw [hgd]; simp [h]⟩, Bool.false_and]
          have hil2 : xs[t] < k := by rw [← HN.out]; exact hil
          have HMO := Lib.hid hmore; have HNO := Lib.hid hno; have HS := Lib.hid hhs; have HW := Lib.hid hw
          clear hmore hno hhs hw hgd HC HD
          generalize l[xs[t]] = y at *
          clear hil
          generalize xs[t] = z at *
          obtain ⟨p, m⟩ := y
          simp only at d0 d1 HS
          by_cases hy : (p, m) ∈ s
          · have hs2 := HS.out
            rw [decide_eq_true hy] at hs2
            have HS2 := Lib.hid hs2; have HM2 := Lib.hid (HMO.out hy)
            clear hs2 HS HMO HNO hy
            go_wp2_with (go_at_call 52; (with_reducible refine Gives.then HS2.out ?_); intro w2 hb2; have HW2 := Lib.hid (HW.out.trans (hb2.mono HW.out.size)); clear hb2)
            go_roundw
            case rel => exact ⟨t + 1, by omega, by go_num, HM2.out, HW2.out⟩
            case measure => simp [intOf]; omega
          · have hr := HNO.out hy
            have hs2 := HS.out
            rw [decide_eq_false hy] at hs2
            have HS2 := Lib.hid hs2
            subst hr
            clear hs2 HS HMO HNO hy
            go_wp2_with (go_at_call 52; (with_reducible refine Gives.then HS2.out ?_); intro w2 hb2; have HW2 := Lib.hid (HW.out.trans (hb2.mono HW.out.size)); clear hb2)
            go_returns
            exact ⟨rfl, HW2.out⟩
        · obtain rfl : t = M := by omega
          have hr : R = ((t : Int) == (q : Int)) := by
            have e : ((t : Int) == (q : Int)) = (t == q) := by rw [Bool.eq_iff_iff, beq_iff_eq, beq_iff_eq]; omega
            rw [e, ← HR.out]
            unfold jsB
            rw [List.all_eq_true.2 (fun i hi => by
              obtain ⟨j, hj, rfl⟩ := List.getElem_of_mem hi
              exact decide_eq_true (HALL.out j hj (by rw [← HM.out]; exact hj))), Bool.true_and, HM.out, HQ.out]
          subst hr
          go_wp2_with fail
          go_returns
          exact ⟨rfl, hw⟩
end Go.Proofs.YtpnmapfabjdfjaaDoor

/-
  The specification's Is: the pure part.
-/
namespace Go.Proofs.YtpnmapfabjdfjaaDoor
open Go.RowKit Go.Sort
theorem len_of_sub : ∀ (a b : List Snd), a.Nodup → (∀ x ∈ a, x ∈ b) → a.length ≤ b.length
  | [], b, _, _ => Nat.zero_le _
  | x :: a, b, hn, hs => by
    rw [List.nodup_cons] at hn
    have hx : x ∈ b := hs x (by simp)
    have ih := len_of_sub a (b.erase x) hn.2 (fun y hy => (List.mem_erase_of_ne (fun e : y = x => hn.1 (by rw [← e]; exact hy))).2 (hs y (by simp [hy])))
    have hl := List.length_erase_of_mem hx
    have hp : 0 < b.length := List.length_pos_of_mem hx
    simp only [List.length_cons]
    omega
theorem addS_nodup {ks : List Snd} {k : Snd} (h : ks.Nodup) : (addS ks k).Nodup := by
  unfold addS
  split
  · exact h
  · rename_i hk
    rw [List.nodup_append]
    refine ⟨h, by simp, ?_⟩
    intro a ha b hb
    rw [List.mem_singleton] at hb
    subst hb
    intro e
    exact hk (e ▸ ha)
theorem setS_nodup (l : List Snd) : (setS l).Nodup := by
  have key : ∀ (l ks : List Snd), ks.Nodup → (l.foldl addS ks).Nodup := fun l => by
    induction l with
    | nil => exact fun ks h => h
    | cons x l ih => exact fun ks h => ih _ (addS_nodup h)
  exact key l [] List.nodup_nil
theorem cnS_filter (s : List Snd) : ∀ l : List Snd, cnS s l = (l.filter fun x => decide (x ∈ s)).length
  | [] => rfl
  | x :: l => by
    simp only [cnS, cnS_filter s l, List.filter_cons]
    by_cases h : x ∈ s
    · simp [h]; omega
    · simp [h]
theorem nodup_of_ck {l : List Snd} {most : Nat} (h : ckE l most = 0) : l.Nodup := by
  rw [List.nodup_iff_pairwise_ne, List.pairwise_iff_getElem]
  intro i j hi hj hij e
  have hm : ¬ most < l.length := fun hm => by rw [ckE_many hm] at h; cases h
  have hv : ∀ j (hj : j < l.length), vld l[j].1 l[j].2 = true := fun j hj => ckE_vld h _ (List.getElem_mem hj)
  have ht : l[j] ∈ l.take j := by
    rw [← e]
    exact List.mem_take_iff_getElem.2 ⟨i, by omega, rfl⟩
  rw [ckE_have hm hv hj ht] at h
  cases h
theorem cnS_set {l s : List Snd} (hl : l.Nodup) (hs : ∀ x ∈ s, x ∈ l) : cnS s l = (setS s).length := by
  rw [cnS_filter]
  refine Nat.le_antisymm (len_of_sub _ _ (hl.filter _) (fun x hx => ?_)) (len_of_sub _ _ (setS_nodup s) (fun x hx => ?_))
  · rw [List.mem_filter, decide_eq_true_iff] at hx
    exact (mem_setS s x).2 hx.2
  · have := (mem_setS s x).1 hx
    rw [List.mem_filter, decide_eq_true_iff]
    exact ⟨hs x this, this⟩
theorem ms_cn {s : List Snd} {c : Snd} (hs : ∀ x ∈ s, sat x c = true) : ∀ (l : List Snd) (i : Nat), cnS s l ≤ (msL c l i).length ∧ ((msL c l i).length = cnS s l → ∀ j ∈ msL c l i, ∃ t, j = i + t ∧ l.getD t (0#32, 0#32) ∈ s)
  | [], i => ⟨Nat.le_refl _, fun _ j hj => by simp [msL] at hj⟩
  | x :: l, i => by
    obtain ⟨h1, h2⟩ := ms_cn hs l (i + 1)
    have key : ∀ j ∈ msL c l (i + 1), (∃ t, j = i + 1 + t ∧ l.getD t (0#32, 0#32) ∈ s) → ∃ t, j = i + t ∧ (x :: l).getD t (0#32, 0#32) ∈ s := by
      rintro j hj ⟨t, rfl, ht⟩
      exact ⟨t + 1, by omega, by simpa using ht⟩
    by_cases hx : x ∈ s
    · have hsx := hs x hx
      simp only [msL, cnS, hsx, if_true, hx, List.length_cons]
      refine ⟨by omega, fun e j hj => ?_⟩
      rw [List.mem_cons] at hj
      rcases hj with rfl | hj
      · exact ⟨0, by omega, by simpa using hx⟩
      · exact key j hj (h2 (by omega) j hj)
    · simp only [msL, cnS, if_neg hx, Nat.zero_add]
      by_cases hsx : sat x c = true
      · simp only [hsx, if_true, List.length_cons]
        exact ⟨by omega, fun e => by omega⟩
      · rw [if_neg hsx]
        exact ⟨h1, fun e j hj => key j hj (h2 e j hj)⟩
theorem js_is {l s : List Snd} {c : Snd} (hl : l.Nodup) (hs : ∀ x ∈ s, x ∈ l) (hc : ∀ x ∈ s, sat x c = true) : jsB l s (msL c l 0) = decide ((msL c l 0).length = (setS s).length) := by
  unfold jsB
  have e := cnS_set hl hs
  obtain ⟨h1, h2⟩ := ms_cn hc l 0
  rw [e] at h1 h2 ⊢
  by_cases h : (msL c l 0).length = (setS s).length
  · rw [decide_eq_true h, h, List.all_eq_true.2 (fun j hj => by
      obtain ⟨t, ht, hts⟩ := h2 h j hj
      rw [Nat.zero_add] at ht
      subst ht
      exact decide_eq_true hts)]
    simp
  · rw [decide_eq_false h, beq_false_of_ne h, Bool.and_false]
theorem sat_meS {x a b : Snd} (h : sat x a = true) : sat x (meS a b) = true := by
  unfold sat meS at *
  rw [Bool.and_eq_true, beq_iff_eq, beq_iff_eq] at *
  refine ⟨?_, ?_⟩
  · rw [← BitVec.and_assoc, h.1]
  · rw [← BitVec.and_assoc, h.2]
theorem sat_fold : ∀ (l : List Snd) (a x : Snd), sat x a = true → sat x (l.foldl meS a) = true
  | [], _, _, h => h
  | y :: l, a, x, h => sat_fold l (meS a y) x (sat_meS h)
theorem sat_self (x a : Snd) : sat x (meS a x) = true := by
  unfold sat meS
  rw [Bool.and_eq_true, beq_iff_eq, beq_iff_eq]
  refine ⟨?_, ?_⟩
  · rw [BitVec.and_comm a.1 x.1, ← BitVec.and_assoc, BitVec.and_self]
  · rw [BitVec.and_comm a.2 x.2, ← BitVec.and_assoc, BitVec.and_self]
theorem sat_in : ∀ (l : List Snd) (a x : Snd), x ∈ l → sat x (l.foldl meS a) = true
  | y :: l, a, x, h => by
    rw [List.foldl_cons]
    rcases List.mem_cons.1 h with rfl | h
    · exact sat_fold l _ _ (sat_self x a)
    · exact sat_in l _ x h
theorem sat_cmS {s : List Snd} : ∀ x ∈ s, sat x (cmS s) = true := by
  intro x hx
  cases s with
  | nil => simp at hx
  | cons y s => exact sat_in (y :: s) y x hx
end Go.Proofs.YtpnmapfabjdfjaaDoor

/-
  The specification's Is.
-/
namespace Go.Proofs.YtpnmapfabjdfjaaDoor
open Go.RowKit Go.Sort
theorem clo_ok {l s : List Snd} (h : cloE l s = 0) : ckE l 256 = 0 ∧ ∀ x ∈ s, x ∈ l := by
  unfold cloE at h
  split at h
  · rename_i h1; exact absurd h h1
  · rename_i h1
    split at h
    · cases h
    · rename_i h2
      exact ⟨Classical.byContradiction h1, Classical.byContradiction fun h3 => h2 (.inr h3)⟩
theorem js_clo {l s : List Snd} (h : cloE l s = 0) : jsB l s (cloM l s) = isB l s := by
  obtain ⟨h1, h2⟩ := clo_ok h
  have e : cloM l s = msL (cmS s) l 0 := by unfold cloM; rw [if_pos h]
  unfold isB
  rw [e, h, js_is (nodup_of_ck h1) h2 sat_cmS]
  simp
theorem clo_lt {l s : List Snd} : ∀ i ∈ cloM l s, i < l.length := by
  intro i hi
  unfold cloM at hi
  split at hi
  · have := msL_lt (cmS s) l 0 i hi
    omega
  · simp at hi
set_option maxRecDepth 100000 in
set_option maxHeartbeats 4000000 in
theorem ris_any (l s : List Snd) (v u : Value) (w : World) (h : Wd w v l) (hu : Wd w u s) : Gives 18 #[v, u] w (.tuple #[.bool (isB l s), .int .i64 (cloE l s)]) := by
  unfold Gives
  have hcl := rclosure_any l s v u w h hu
  have hju := fun (x : Value) (W : World) (hb : Below w.heap.size w W) (hx : Is W x (cloM l s)) => rjust_any l s (cloM l s) v u x W (h.below hb) (hu.below hb) hx clo_lt
  have hjs := js_clo (l := l) (s := s)
  have hB : cloE l s ≠ 0 → isB l s = false := fun h0 => by unfold isB; rw [decide_eq_false h0, Bool.false_and]
  obtain ⟨ao, cap, rfl, -, -, -⟩ := h.open
  obtain ⟨ao2, cap2, rfl, -, -, -⟩ := hu.open
  generalize isB l s = B at *
  generalize jsB l s (cloM l s) = J at *
  generalize cloE l s = E at *
  generalize cloC l s = C at *
  generalize cloM l s = ML at *
  obtain ⟨p, m⟩ := C
  obtain ⟨n, hn⟩ : ∃ n, ML.length = n := ⟨_, rfl⟩
  have HCL := Lib.hid hcl; have HJU := Lib.hid hju; have HN := Lib.hid hn
  clear hcl hju h hu hn
  by_cases h0 : E = 0
  · subst h0
    obtain rfl := hjs rfl
    clear hB hjs
    go_enter Tryd.func18, Tryd.ntmps18
    go_wp2_with fail
    go_at_call 16
    refine HCL.out.mono ?_
    rintro e w1 ⟨v1, rfl, ho1, hb1⟩
    obtain ⟨a1, c1, hv1⟩ := ho1.slice
    rw [HN.out] at hv1
    subst hv1
    have hb2 := hb1.alloc hb1.size (.cells #[.int .u32 (p.toNat : Int), .int .u32 (m.toNat : Int)] 27)
    have HJ := Lib.hid (HJU.out _ _ hb2 (ho1.is.below ((Below.refl _ w1).alloc (Nat.le_refl _) (.cells #[.int .u32 (p.toNat : Int), .int .u32 (m.toNat : Int)] 27))))
    have HW1 := Lib.hid hb2
    clear ho1 hb1 hb2
    go_wp2_with fail
    go_at_call 55
    refine Gives.then HJ.out ?_
    intro w2 hb2
    have HW2 := Lib.hid (HW1.out.trans (hb2.mono HW1.out.size))
    clear hb2
    go_wp2_with fail
    go_ret2
    exact ⟨rfl, HW2.out⟩
  · rw [hB h0]
    have g1 : (E == 0) = false := by simpa using h0
    have g2 : (E != 0) = true := by simpa using h0
    clear hB hjs HJU
    go_enter Tryd.func18, Tryd.ntmps18
    go_wp2_with fail
    go_at_call 16
    refine HCL.out.mono ?_
    rintro e w1 ⟨v1, rfl, ho1, hb1⟩
    obtain ⟨a1, c1, hv1⟩ := ho1.slice
    rw [HN.out] at hv1
    subst hv1
    have HW1 := Lib.hid (hb1.alloc hb1.size (.cells #[.int .u32 (p.toNat : Int), .int .u32 (m.toNat : Int)] 27))
    clear ho1 hb1
    go_wp2_with fail
    go_ret2
    exact ⟨rfl, HW1.out⟩
end Go.Proofs.YtpnmapfabjdfjaaDoor

/-
  same of the natural laws' package.
-/
namespace Go.Proofs.YtpnmapfabjdfjaaDoor
open Go.RowKit Go.Sort
theorem snds_more {xs ys : List Snd} {k : Nat} (h : k < xs.length) (h' : k < ys.length) (hp : xs.take k = ys.take k) (he : xs[k] = ys[k]) : xs.take (k + 1) = ys.take (k + 1) := by
  rw [List.take_succ_eq_append_getElem h, List.take_succ_eq_append_getElem h', hp, he]
theorem snds_no {xs ys : List Snd} {k : Nat} (h : k < xs.length) (h' : k < ys.length) (he : xs[k] ≠ ys[k]) : xs ≠ ys := fun e => he (by subst e; rfl)
set_option maxRecDepth 100000 in
set_option maxHeartbeats 4000000 in
theorem same_any (xs ys : List Snd) (v u : Value) (w : World) (h1 : Wd w v xs) (h2 : Wd w u ys) : Gives 22 #[v, u] w (.bool (decide (xs = ys))) := by
  unfold Gives
  obtain ⟨ao, cap, rfl, c1, m1, hc⟩ := h1.open
  obtain ⟨bo, cap', rfl, c2, m2, hd⟩ := h2.open
  clear h1 h2
  obtain ⟨n, hn⟩ : ∃ n, xs.length = n := ⟨_, rfl⟩
  obtain ⟨m, hm⟩ : ∃ m, ys.length = m := ⟨_, rfl⟩
  rw [hn] at c1 ⊢
  rw [hm] at c2 ⊢
  have HN := Lib.hid hn; have HM := Lib.hid hm; have HC := Lib.hid hc; have HD := Lib.hid hd
  have l1 : n ≤ 9223372036854775807 := by unfold maxLen at m1; omega
  have l2 : m ≤ 9223372036854775807 := by unfold maxLen at m2; omega
  clear hn hm hc hd m1 m2
  by_cases hnm : n = m
  · subst hnm
    obtain ⟨R, hR⟩ : ∃ R, decide (xs = ys) = R := ⟨_, rfl⟩
    have HR := Lib.hid hR
    rw [hR]
    clear hR
    go_enter Tryd.func22, Tryd.ntmps22
    go_wp2_with fail
    go_loopw [5] (fun i wr => ∃ k : Nat, k ≤ n ∧ i = .int .i64 (k : Int) ∧ xs.take k = ys.take k ∧ Below w.heap.size w wr) (fun i _ => n - (intOf i).toNat)
    case atStart => exact ⟨0, by omega, rfl, by simp, Below.refl _ _⟩
    case round =>
      obtain ⟨k, hk, rfl, hp, hw⟩ := hrel
      have HP := Lib.hid hp
      clear hp
      by_cases hlt : k < n
      · have hx : k < xs.length := by rw [HN.out]; exact hlt
        have hy : k < ys.length := by rw [HM.out]; exact hlt
        obtain ⟨b, off, hao, lb, d0, d1⟩ := HC.out k hx
        subst hao
        obtain ⟨b', off', hbo, lb', g0, g1⟩ := HD.out k hy
        subst hbo
        have d0 := (hw.cell (p := ⟨b, _, none⟩) lb).trans d0
        have g0 := (hw.cell (p := ⟨b', _, none⟩) lb').trans g0
        have d1 := (hw.cell (p := ⟨b, _, none⟩) lb).trans d1
        have g1 := (hw.cell (p := ⟨b', _, none⟩) lb').trans g1
        have hmore := snds_more hx hy HP.out
        have hno := snds_no hx hy
        have HMO := Lib.hid hmore; have HNO := Lib.hid hno; have HW := Lib.hid hw
        clear hmore hno HC HD HP hw
        generalize xs[k] = x at *
        generalize ys[k] = y at *
        have hne := fun W => snd_neq (x.1.toNat : Int) (x.2.toNat : Int) (y.1.toNat : Int) (y.2.toNat : Int) W
        rw [snd_beq] at hne
        by_cases hxy : x = y
        · have HM2 := Lib.hid (HMO.out hxy)
          rw [decide_eq_true hxy] at hne
          clear HNO HMO
          subst hxy
          obtain ⟨p, m⟩ := x
          simp only at d0 d1 g0 g1 hne
          go_wp2_with fail
          go_region
          all_goals go_wp2_with fail
          all_goals (
            go_roundw
            case rel => exact ⟨k + 1, by omega, by go_num, HM2.out, HW.out.drew⟩
            case measure => simp [intOf]; omega)
        · have hr : R = false := by rw [← HR.out]; exact decide_eq_false (HNO.out hxy)
          subst hr
          rw [decide_eq_false hxy] at hne
          clear HNO HMO hxy
          obtain ⟨p, m⟩ := x
          obtain ⟨p', m'⟩ := y
          simp only at d0 d1 g0 g1 hne
          go_wp2_with fail
          go_region
          all_goals go_wp2_with fail
          all_goals go_returns
          all_goals exact ⟨rfl, HW.out.drew⟩
      · obtain rfl : k = n := by omega
        have hr : R = true := by
          rw [← HR.out]
          have hp := HP.out
          rw [List.take_of_length_le (by rw [HN.out]; exact Nat.le_refl _), List.take_of_length_le (by rw [HM.out]; exact Nat.le_refl _)] at hp
          exact decide_eq_true hp
        subst hr
        go_wp2_with fail
        go_returns
        exact ⟨rfl, hw⟩
  · rw [decide_eq_false (fun e => hnm (by rw [← HN.out, ← HM.out, e]))]
    have e1 : ((n : Int) == (m : Int)) = false := by rw [beq_eq_false_iff_ne]; omega
    have e2 : (n == m) = false := by rw [beq_eq_false_iff_ne]; exact hnm
    go_enter Tryd.func22, Tryd.ntmps22
    go_wp2_with fail
    go_returns
    exact ⟨rfl, Below.refl _ _⟩
end Go.Proofs.YtpnmapfabjdfjaaDoor

/-
  The specification's alone.
-/
namespace Go.Proofs.YtpnmapfabjdfjaaDoor
open Go.RowKit Go.Sort
/-- The feature alone in which a set lies, if there is one. -/
def lonF (D : BitVec 32) : Nat × Bool := match (List.range 24).find? (fun f => decide (D = 1#32 <<< f)) with
  | some f => (f, true)
  | none => (0, false)
theorem lon_yes {D : BitVec 32} {k : Nat} (hk : k < 24) (h : ∀ j, j < k → D ≠ 1#32 <<< j) (e : D = 1#32 <<< k) : lonF D = (k, true) := by
  have hf : (List.range 24).find? (fun f => decide (D = 1#32 <<< f)) = some k := by
    rw [List.find?_range_eq_some]
    exact ⟨decide_eq_true e, List.mem_range.2 hk, fun j hj => by simp [h j hj]⟩
  unfold lonF
  rw [hf]
theorem lon_no {D : BitVec 32} (h : ∀ j, j < 24 → D ≠ 1#32 <<< j) : lonF D = (0, false) := by
  have hf : (List.range 24).find? (fun f => decide (D = 1#32 <<< f)) = none := by
    rw [List.find?_eq_none]
    exact fun j hj => by simp [h j (List.mem_range.1 hj)]
  unfold lonF
  rw [hf]
set_option maxRecDepth 100000 in
set_option maxHeartbeats 4000000 in
theorem ralone_any (a b : Snd) (h1 : vld a.1 a.2 = true) (h2 : vld b.1 b.2 = true) (w : World) : Gives 61 #[.agg #[.int .u32 (a.1.toNat : Int), .int .u32 (a.2.toNat : Int)], .agg #[.int .u32 (b.1.toNat : Int), .int .u32 (b.2.toNat : Int)]] w (.tuple #[.int .i64 ((lonF (dif a b)).1 : Int), .bool (lonF (dif a b)).2]) := by
  unfold Gives
  have hd := rdiff_ok a.1 a.2 b.1 b.2 (dif a b) h1 h2 rfl
  obtain ⟨D, hD⟩ : ∃ D, dif a b = D := ⟨_, rfl⟩
  rw [hD] at hd ⊢
  obtain ⟨⟨F, B⟩, hF⟩ : ∃ F, lonF D = F := ⟨_, rfl⟩
  have hyes := fun k hk h e => (lon_yes (D := D) (k := k) hk h e).symm.trans hF
  have hno := fun h => (lon_no (D := D) h).symm.trans hF
  rw [hF]
  obtain ⟨p, m⟩ := a
  obtain ⟨q, n⟩ := b
  have kA := World.alloc_heap_new w (.cells #[.int .u32 (p.toNat : Int), .int .u32 (m.toNat : Int)] 27)
  have kB := World.alloc_heap_new (w.alloc (.cells #[.int .u32 (p.toNat : Int), .int .u32 (m.toNat : Int)] 27)) (.cells #[.int .u32 (q.toNat : Int), .int .u32 (n.toNat : Int)] 27)
  have kA := (((Below.refl _ (w.alloc (.cells #[.int .u32 (p.toNat : Int), .int .u32 (m.toNat : Int)] 27))).alloc (Nat.le_refl _) (.cells #[.int .u32 (q.toNat : Int), .int .u32 (n.toNat : Int)] 27)).block w.heap.size (by rw [World.size_alloc]; omega)).trans kA
  rw [World.size_alloc] at kB
  have b0 := (Below.refl w.heap.size w).alloc (Nat.le_refl _) (.cells #[.int .u32 (p.toNat : Int), .int .u32 (m.toNat : Int)] 27)
  have b1 := b0.alloc b0.size (.cells #[.int .u32 (q.toNat : Int), .int .u32 (n.toNat : Int)] 27)
  have KA := Lib.hid kA; have KB := Lib.hid kB; have HB := Lib.hid b1; have HD := Lib.hid hd; have HY := Lib.hid hyes; have HNO := Lib.hid hno
  clear kA kB b0 b1 hd hyes hno h1 h2 hD hF
  simp only at HD
  go_enter Tryd.func61, Tryd.ntmps61
  go_wp2_with fail
  go_loopw [6] (fun i wr => ∃ k : Nat, k ≤ 24 ∧ i = .int .i64 (k : Int) ∧ (∀ j, j < k → D ≠ 1#32 <<< j) ∧ wr.heap[w.heap.size]? = some (.cells #[.int .u32 (p.toNat : Int), .int .u32 (m.toNat : Int)] 27 (0, 0)) ∧ wr.heap[w.heap.size + 1]? = some (.cells #[.int .u32 (q.toNat : Int), .int .u32 (n.toNat : Int)] 27 (0, 0)) ∧ Below w.heap.size w wr) (fun i _ => 24 - (intOf i).toNat)
  case atStart => exact ⟨0, by omega, rfl, fun j hj => by omega, KA.out, KB.out, HB.out⟩
  case round =>
    clear KA KB HB
    obtain ⟨k, hk, rfl, hall, qA, qB, hw⟩ := hrel
    have HALL := Lib.hid hall
    clear hall
    by_cases hlt : k < 24
    · have hsh := shl32 k hlt
      have hyes := HY.out k hlt HALL.out
      have hmore : D ≠ 1#32 <<< k → ∀ j, j < k + 1 → D ≠ 1#32 <<< j := fun h j hj => by
        by_cases e : j = k
        · subst e; exact h
        · exact HALL.out j (by omega)
      generalize 1#32 <<< k = S at *
      have e0 := cell_block qA (o := 0) rfl
      have e1 := cell_block qA (o := 1) rfl
      have g0 := cell_block qB (o := 0) rfl
      have g1 := cell_block qB (o := 1) rfl
      have zA := (Array.getElem?_eq_some_iff.1 qA).1
      have zB := (Array.getElem?_eq_some_iff.1 qB).1
      have QA := Lib.hid qA; have QB := Lib.hid qB; have HW := Lib.hid hw; have HYE := Lib.hid hyes; have HM := Lib.hid hmore
      clear qA qB hw hyes hmore HY HNO
      by_cases hx : D = S
      · have hr := HYE.out hx
        obtain ⟨rfl, rfl⟩ := Prod.mk.inj hr
        subst hx
        clear hr HYE HM
        go_wp2_with fail
        go_region_with (go_at_call 92; (with_reducible refine Gives.then (HD.out _) ?_); intro w2 hb2; have HW2 := Lib.hid (HW.out.drew.trans (hb2.mono HW.out.size)); clear hb2)
        all_goals go_wp2_with fail
        all_goals go_ret2
        all_goals exact ⟨rfl, HW2.out⟩
      · have f1 : ((D.toNat : Int) == (S.toNat : Int)) = false := by
          rw [beq_eq_false_iff_ne]
          intro e
          exact hx (BitVec.eq_of_toNat_eq (by omega))
        have f2 : (D.toNat == S.toNat) = false := by
          rw [beq_eq_false_iff_ne]
          intro e
          exact hx (BitVec.eq_of_toNat_eq e)
        have HM2 := Lib.hid (HM.out hx)
        clear HYE HM hx
        go_wp2_with fail
        go_region_with (go_at_call 92; (with_reducible refine Gives.then (HD.out _) ?_); intro w2 hb2; have HW2 := Lib.hid (HW.out.drew.trans (hb2.mono HW.out.size)); have QA2 := Lib.hid ((hb2.block _ (show w.heap.size < wr.drew.heap.size from zA)).trans QA.out); have QB2 := Lib.hid ((hb2.block _ (show w.heap.size + 1 < wr.drew.heap.size from zB)).trans QB.out); clear hb2)
        all_goals go_wp2_with fail
        all_goals (
          go_roundw
          case rel => exact ⟨k + 1, by omega, by go_num, HM2.out, QA2.out, QB2.out, HW2.out⟩
          case measure => simp [intOf]; omega)
    · obtain rfl : k = 24 := by omega
      have hr := HNO.out HALL.out
      obtain ⟨rfl, rfl⟩ := Prod.mk.inj hr
      go_wp2_with fail
      go_ret2
      exact ⟨rfl, hw⟩
end Go.Proofs.YtpnmapfabjdfjaaDoor

/-
  Sounds that differ in one feature: the two ways to say it.
-/
namespace Go.Proofs.YtpnmapfabjdfjaaDoor
open Go.RowKit Go.Sort
theorem oc0 : ∀ y : Fin 256, Lib.onesCount y.val = 0 → y.val = 0 := by decide +kernel
theorem oc1 : ∀ y : Fin 256, Lib.onesCount y.val = 1 → ∃ j : Fin 8, y.val = 2 ^ j.val := by decide +kernel
theorem oc_pow : ∀ f : Fin 24, ones (1#32 <<< f.val).toNat = 1 := by decide +kernel
theorem oc_sh : ∀ f : Fin 24, (1#32 <<< f.val).toNat = 2 ^ f.val := by decide +kernel
theorem one_pow {D : BitVec 32} (hD : D.toNat < 16777216) (h : ones D.toNat = 1) : ∃ k, k < 24 ∧ D = 1#32 <<< k := by
  have key : ∀ k, k < 24 → D.toNat = 2 ^ k → D = 1#32 <<< k := fun k hk e => BitVec.eq_of_toNat_eq (by rw [e]; exact (oc_sh ⟨k, hk⟩).symm)
  unfold ones at h
  obtain ⟨x, hx⟩ : ∃ x, D.toNat = x := ⟨_, rfl⟩
  rw [hx] at h hD key
  have z0 := oc0 ⟨x % 256, by omega⟩
  have z1 := oc0 ⟨x / 256 % 256, by omega⟩
  have z2 := oc0 ⟨x / 65536 % 256, by omega⟩
  have z3 : x / 16777216 = 0 := by omega
  have o0 := oc1 ⟨x % 256, by omega⟩
  have o1 := oc1 ⟨x / 256 % 256, by omega⟩
  have o2 := oc1 ⟨x / 65536 % 256, by omega⟩
  simp only at z0 z1 z2 o0 o1 o2
  have h3 : Lib.onesCount (x / 16777216) = 0 := by rw [z3]; decide +kernel
  rw [h3] at h
  have hc : (Lib.onesCount (x / 65536 % 256) = 1 ∧ Lib.onesCount (x / 256 % 256) = 0 ∧ Lib.onesCount (x % 256) = 0) ∨ (Lib.onesCount (x / 65536 % 256) = 0 ∧ Lib.onesCount (x / 256 % 256) = 1 ∧ Lib.onesCount (x % 256) = 0) ∨ (Lib.onesCount (x / 65536 % 256) = 0 ∧ Lib.onesCount (x / 256 % 256) = 0 ∧ Lib.onesCount (x % 256) = 1) := by omega
  rcases hc with ⟨a, b, c⟩ | ⟨a, b, c⟩ | ⟨a, b, c⟩
  · obtain ⟨⟨j, hj⟩, e⟩ := o2 a
    have b := z1 b; have c := z0 c
    simp only at e
    refine ⟨j + 16, by omega, key _ (by omega) ?_⟩
    rw [Nat.pow_add]
    omega
  · obtain ⟨⟨j, hj⟩, e⟩ := o1 b
    have a := z2 a; have c := z0 c
    simp only at e
    refine ⟨j + 8, by omega, key _ (by omega) ?_⟩
    rw [Nat.pow_add]
    omega
  · obtain ⟨⟨j, hj⟩, e⟩ := o0 c
    have a := z2 a; have b := z1 b
    simp only at e
    refine ⟨j, by omega, key _ (by omega) ?_⟩
    omega
theorem lon_one {D : BitVec 32} (hD : D.toNat < 16777216) : (lonF D).2 = decide (ones D.toNat = 1) := by
  rcases hf : (List.range 24).find? (fun f => decide (D = 1#32 <<< f)) with _ | f
  · have h2 : (lonF D).2 = false := by unfold lonF; rw [hf]
    rw [h2]
    refine (decide_eq_false fun h => ?_).symm
    obtain ⟨k, hk, e⟩ := one_pow hD h
    have := List.find?_eq_none.1 hf k (List.mem_range.2 hk)
    simp [e] at this
  · have h2 : (lonF D).2 = true := by unfold lonF; rw [hf]
    have h3 := List.find?_some hf
    have h4 := List.mem_range.1 (List.mem_of_find?_eq_some hf)
    rw [decide_eq_true_iff] at h3
    rw [h2, h3]
    exact (decide_eq_true (oc_pow ⟨f, h4⟩)).symm
theorem dif_lt {a b : Snd} (h1 : vld a.1 a.2 = true) (h2 : vld b.1 b.2 = true) : (dif a b).toNat < 16777216 := by
  have h := Nat.lt_pow_two_of_testBit (n := 24) (dif a b).toNat (fun i hi => by
    rw [BitVec.testBit_toNat]
    by_cases h32 : i < 32
    · obtain ⟨a1, a2⟩ := vld_high h1 i h32 hi
      obtain ⟨b1, b2⟩ := vld_high h2 i h32 hi
      unfold dif
      simp [a1, a2, b1, b2]
    · exact BitVec.getLsbD_of_ge _ _ (by omega))
  exact h
theorem lon_dif {a b : Snd} (h1 : vld a.1 a.2 = true) (h2 : vld b.1 b.2 = true) : (lonF (dif a b)).2 = one a b := lon_one (dif_lt h1 h2)
end Go.Proofs.YtpnmapfabjdfjaaDoor
