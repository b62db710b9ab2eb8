/-
  Lemmas that the theorem of this claim rests on: 8 texts, one behind the other.
-/
import Derived.Test.YtpnmapfabjdfjaaDoorM4
import Derived.Test.YtpnmapfabjdfjaaDoorM3
set_option linter.unusedSimpArgs false
set_option linter.unusedVariables false

/-
  Count of package natural.
-/
namespace Go.Proofs.YtpnmapfabjdfjaaDoor
open Go.RowKit Go.Sort
/-- The sounds whose bits are 1 in a number. -/
def pk (c : Nat) : List Snd → Nat → List Snd
  | [], _ => []
  | x :: l, i => if c.testBit i then x :: pk c l (i + 1) else pk c l (i + 1)
theorem pk_snoc (c : Nat) (x : Snd) : ∀ (l : List Snd) (i : Nat), pk c (l ++ [x]) i = pk c l i ++ (if c.testBit (i + l.length) then [x] else [])
  | [], i => by simp [pk]
  | y :: l, i => by
    simp only [List.cons_append, pk, pk_snoc c x l (i + 1), List.length_cons]
    have e : i + 1 + l.length = i + (l.length + 1) := by omega
    rw [e]
    split <;> simp
theorem pk_mem {c : Nat} {x : Snd} : ∀ {l : List Snd} {i : Nat}, x ∈ pk c l i → x ∈ l
  | [], _, h => by simp [pk] at h
  | y :: l, i, h => by
    unfold pk at h
    split at h
    · rcases List.mem_cons.1 h with rfl | h
      · simp
      · exact List.mem_cons_of_mem _ (pk_mem h)
    · exact List.mem_cons_of_mem _ (pk_mem h)
theorem pk_len (c : Nat) : ∀ (l : List Snd) (i : Nat), (pk c l i).length ≤ l.length
  | [], _ => by simp [pk]
  | x :: l, i => by
    have := pk_len c l (i + 1)
    unfold pk
    split
    · simp; omega
    · simp; omega
theorem pk_some (c : Nat) : ∀ (l : List Snd) (i j : Nat), i ≤ j → j < i + l.length → c.testBit j = true → pk c l i ≠ []
  | [], i, j, h1, h2, _ => by simp at h2; omega
  | x :: l, i, j, h1, h2, h => by
    unfold pk
    by_cases e : i = j
    · rw [e, if_pos h]; simp
    · split
      · simp
      · exact pk_some c l (i + 1) j (by omega) (by simp at h2; omega) h
theorem pk_ne {c : Nat} {l : List Snd} (h0 : c ≠ 0) (h : c < 2 ^ l.length) : pk c l 0 ≠ [] := by
  obtain ⟨j, hj⟩ : ∃ j, c.testBit j = true := Classical.byContradiction fun hn => h0 (Nat.eq_of_testBit_eq fun j => by
    rw [Nat.zero_testBit]
    cases e : c.testBit j with
    | false => rfl
    | true => exact absurd ⟨j, e⟩ hn)
  have hjl : j < l.length := by
    rcases Nat.lt_or_ge j l.length with h1 | h1
    · exact h1
    · have h2 : c < 2 ^ j := Nat.lt_of_lt_of_le h (Nat.pow_le_pow_right (by decide) h1)
      rw [Nat.testBit_lt_two_pow h2] at hj
      cases hj
  exact pk_some c l 0 j (by omega) (by omega) hj
/-- The closure of a choice of sounds, as a crowd. -/
def crAt (l : List Snd) (c : Nat) : Cr := crT (msL (cmS (pk c l 0)) l 0)
/-- The closures of the choices before m, each once. -/
def kk (l : List Snd) : Nat → List Cr
  | 0 => []
  | m + 1 => if m = 0 then [] else addK (kk l m) (crAt l m)
theorem kk_len (l : List Snd) : ∀ m, (kk l m).length ≤ m
  | 0 => by simp [kk]
  | m + 1 => by
    unfold kk
    split
    · simp
    · have h1 := kk_len l m
      have h2 := addK_len (kk l m) (crAt l m)
      omega
theorem msL_lt (c : Snd) : ∀ (l : List Snd) (i : Nat), ∀ x ∈ msL c l i, x < i + l.length
  | [], _, x, h => by simp [msL] at h
  | y :: l, i, x, h => by
    have ih := msL_lt c l (i + 1) x
    unfold msL at h
    simp only [List.length_cons]
    split at h
    · rcases List.mem_cons.1 h with rfl | h
      · omega
      · have := ih h; omega
    · have := ih h; omega
theorem wd_one (w : World) (p m : BitVec 32) : Wd (w.alloc (.cells #[.int .u32 (p.toNat : Int), .int .u32 (m.toNat : Int)] 27)) (.slice (some ⟨w.heap.size, 0, none⟩) 1 1) [(p, m)] :=
  .inr ⟨w.heap.size, 0, 1, rfl, Nat.le_refl _, by decide, by rw [World.size_alloc]; omega, fun i hi => by
    match i, hi with
    | 0, _ => exact ⟨cell_block (World.alloc_heap_new w _) rfl, cell_block (World.alloc_heap_new w _) rfl⟩⟩
theorem and_pk (c k : Nat) (hc : c ≤ 4096) : bits .and .i64 ((c : Int) / 2 ^ k) 1 = if c.testBit k then 1 else 0 := by
  have e : ((c : Int) / 2 ^ k) = ((c / 2 ^ k : Nat) : Int) := by simp
  have hy : c / 2 ^ k ≤ 4096 := Nat.le_trans (Nat.div_le_self _ _) hc
  have ht : c.testBit k = decide (c / 2 ^ k % 2 = 1) := Nat.testBit_eq_decide_div_mod_eq
  rw [e, ht]
  generalize c / 2 ^ k = y at *
  have key : bits .and .i64 (y : Int) 1 = ((y % 2 : Nat) : Int) := by
    have h1 : (1 : Int) = ((1 : Nat) : Int) := rfl
    show IntKind.i64.wrap ((BitVec.ofInt 64 (y : Int) &&& BitVec.ofInt 64 1).toNat : Int) = _
    rw [h1, BitVec.ofInt_natCast, BitVec.ofInt_natCast, BitVec.toNat_and, BitVec.toNat_ofNat, BitVec.toNat_ofNat, Nat.mod_eq_of_lt (show y < 2 ^ 64 by omega), show 1 % 2 ^ 64 = 2 ^ 1 - 1 by decide, Nat.and_two_pow_sub_one_eq_mod, IntKind.wrap_i64]
    omega
  rw [key]
  rcases Nat.mod_two_eq_zero_or_one y with h | h
  · rw [h]; simp
  · rw [h]; simp
def cntN (l : List Snd) : Int := if ckE l 12 = 0 then ((kk l (2 ^ l.length)).length : Int) else 0
set_option maxRecDepth 100000 in
set_option maxHeartbeats 8000000 in
theorem count_any (l : List Snd) (v : Value) (w : World) (h : Wd w v l) : Gives 31 #[v] w (.tuple #[.int .i64 (cntN l), .int .i64 (ckE l 12)]) := by
  unfold Gives
  have hmm := @run_makeMap Tryd.prog
  have hck := check_any l v 12 w (by decide) h
  rw [show ((12 : Nat) : Int) = 12 from rfl] at hck
  have hvl := fun (h1 : ckE l 12 = 0) => ckE_vld h1
  have hln := fun (h1 : ckE l 12 = 0) => ckE_len h1
  have hCN : cntN l = if ckE l 12 = 0 then ((kk l (2 ^ l.length)).length : Int) else 0 := rfl
  have hWd := fun (W : World) (hb : Below w.heap.size w W) => h.below hb
  obtain ⟨ao, cap, rfl, c1, m1, hc⟩ := h.open
  obtain ⟨N, hN⟩ : ∃ N, l.length = N := ⟨_, rfl⟩
  have HC := Lib.hid hc; have HCK := Lib.hid hck; have HVL := Lib.hid hvl; have HLN := Lib.hid hln; have HN := Lib.hid hN; have HWD := Lib.hid hWd
  rw [hN] at c1 hCN HCK HLN HWD ⊢
  clear hc hck hvl hln h hN hWd
  generalize cntN l = CN at *
  generalize hE : ckE l 12 = E at *
  clear hE
  by_cases h0 : E = 0
  · subst h0
    rw [if_pos rfl] at hCN
    have l2 : N ≤ 12 := HLN.out rfl
    have l1 : N ≤ 9223372036854775807 := by omega
    have HV := Lib.hid (HVL.out rfl)
    obtain ⟨P, hP⟩ : ∃ P : Nat, 2 ^ N = P := ⟨_, rfl⟩
    have hP2 : P ≤ 4096 := by rw [← hP]; exact Nat.le_trans (Nat.pow_le_pow_right (by decide) l2) (by decide)
    have hP1 : 1 ≤ P := by rw [← hP]; exact Nat.one_le_two_pow
    have hPi : ((2 : Int) ^ N) = (P : Int) := by rw [← hP]; simp
    have hPw : IntKind.i64.wrap ((2 : Int) ^ N) = (P : Int) := by rw [hPi, IntKind.wrap_i64]; omega
    rw [hP] at hCN
    subst hCN
    have HP := Lib.hid hP; have HPi := Lib.hid hPi
    clear HLN HVL m1 hP hPi
    go_enter Tryd.func31, Tryd.ntmps31
    go_wp2_with fail
    go_at_call 46
    refine Gives.then HCK.out ?_
    intro w1 hb1
    have HW1 := Lib.hid hb1
    clear hb1 HCK
    go_wp2_with fail
    have hK0 : KMap crv (w1.alloc (.map #[] 0)) w1.heap.size (kk l 1) := KMap.new w1
    have HK0 := Lib.hid hK0
    have HB0 := Lib.hid (HW1.out.alloc HW1.out.size (.map #[] 0))
    have HMB := Lib.hid HW1.out.size
    clear hK0
    generalize w1.heap.size = MB at *
    generalize (w1.alloc (.map #[] 0)) = w2 at *
    go_loopw [6] (fun i wr => ∃ c : Nat, 1 ≤ c ∧ c ≤ P ∧ i = .int .i64 (c : Int) ∧ KMap crv wr MB (kk l c) ∧ Below w.heap.size w wr) (fun i _ => P - (intOf i).toNat)
    case atStart => exact ⟨1, by omega, hP1, rfl, HK0.out, HB0.out⟩
    case round =>
      obtain ⟨c, hc1, hcP, rfl, hk, hw⟩ := hrel
      by_cases hlt : c < P
      · obtain ⟨wS, hS⟩ : ∃ x, x = wr := ⟨_, rfl⟩
        subst hS
        have HK := Lib.hid hk; have HW := Lib.hid hw
        have hcp : c ≤ 9223372036854775807 := by omega
        clear hk hw
        go_wp2_with fail
        go_loopw [7, 25] (fun u i wi => ∃ k : Nat, k ≤ N ∧ i = .int .i64 (k : Int) ∧ Own wi wS.heap.size u (pk c (l.take k) 0) ∧ Below wS.heap.size wS wi) (fun _ i _ => N - (intOf i).toNat)
        case atStart => exact ⟨0, by omega, rfl, Own.nil _ _, Below.refl _ _⟩
        case round =>
          obtain ⟨k, hk, rfl, ho, hwi⟩ := hrel
          obtain ⟨oa, oc, hov, -, -, -⟩ := ho.wd.open
          obtain ⟨n, hn⟩ : ∃ n, (pk c (l.take k) 0).length = n := ⟨_, rfl⟩
          rw [hn] at hov
          subst hov
          have hn2 := pk_len c (l.take k) 0
          rw [hn, List.length_take] at hn2
          have hn3 : n ≤ 12 := by omega
          have HNn := Lib.hid hn
          clear hn hn2
          by_cases hlt2 : k < N
          · have hkl : k < l.length := by rw [HN.out]; exact hlt2
            obtain ⟨b, off, hao, lb, d0, d1⟩ := HC.out k hkl
            subst hao
            have lb2 := Nat.lt_of_lt_of_le lb HW.out.size
            have d0 := (hwi.cell (p := ⟨b, _, none⟩) lb2).trans ((HW.out.cell (p := ⟨b, _, none⟩) lb).trans d0)
            have d1 := (hwi.cell (p := ⟨b, _, none⟩) lb2).trans ((HW.out.cell (p := ⟨b, _, none⟩) lb).trans d1)
            have hsn := pk_snoc c l[k] (l.take k) 0
            rw [← List.take_succ_eq_append_getElem hkl, List.length_take, Nat.min_eq_left (by omega), Nat.zero_add] at hsn
            have HSN := Lib.hid hsn
            clear hsn HC
            generalize l[k] = x at *
            obtain ⟨p, m⟩ := x
            simp only at d0 d1
            have hwo := wd_one wr p m
            have hbo := (Below.refl wr.heap.size wr).alloc (Nat.le_refl _) (.cells #[.int .u32 (p.toNat : Int), .int .u32 (m.toNat : Int)] 27)
            have hab := and_pk c k (by omega)
            have hWr := hwo
            have hbo2 := hbo.alloc hbo.size (.cells #[.int .u32 (p.toNat : Int), .int .u32 (m.toNat : Int)] 27)
            have hwo2 := wd_one (wr.alloc (.cells #[.int .u32 (p.toNat : Int), .int .u32 (m.toNat : Int)] 27)) p m
            rw [World.size_alloc] at hwo2
            have HWO := Lib.hid hwo2; have HBO := Lib.hid hbo; have HBO2 := Lib.hid hbo2
            clear hwo hbo hbo2 hwo2 hWr
            rcases ht : c.testBit k with _ | _
            · rw [ht] at hab HSN
              have hab : bits .and .i64 ((c : Int) / 2 ^ k) 1 = 0 := hab
              have HW3 := Lib.hid (hwi.trans (HBO.out.mono hwi.size)); have HO3 := Lib.hid (ho.below HBO.out)
              clear ht ho hwi
              go_wp2_with fail
              go_roundw
              case rel => exact ⟨k + 1, by omega, by go_num, by rw [HSN.out]; simpa using HO3.out, HW3.out⟩
              case measure => simp [intOf]; omega
            · rw [ht] at hab HSN
              have hab : bits .and .i64 ((c : Int) / 2 ^ k) 1 = 1 := hab
              have HW3 := Lib.hid (hwi.trans (HBO2.out.mono hwi.size)); have HO3 := Lib.hid (ho.below HBO2.out); have HZ := Lib.hid hwi.size
              clear ht ho hwi
              go_wp2_with (at_builtin; refine wpList_app rfl (.tmp 35) (.tmp 37) 22 Tryd.underlying22 rfl wS.heap.size (.slice oa n oc) (.slice (some ⟨wr.heap.size + 1, 0, none⟩) 1 1) (pk c (l.take k) 0) [(p, m)] rfl rfl HO3.out HWO.out (by rw [HNn.out]; simp; omega) (by have := HZ.out; simp only [World.size_alloc]; omega) ?_; intro v4 w4 ho4 hk4 hz4; have HO4 := Lib.hid ho4; have HW4 := Lib.hid (hk4 _ _ (Nat.le_refl _) HW3.out); clear ho4 hk4 hz4)
              go_roundw
              case rel => exact ⟨k + 1, by omega, by go_num, by rw [HSN.out]; exact HO4.out, HW4.out⟩
              case measure => simp [intOf]; omega
          · obtain rfl : k = N := by omega
            have ho : Own wr wS.heap.size (.slice oa n oc) (pk c l 0) := by
              rw [← HN.out, List.take_length] at ho
              exact ho
            have hpn : pk c l 0 ≠ [] := pk_ne (by omega) (by rw [HN.out, HP.out]; exact hlt)
            have hpv : ∀ x ∈ pk c l 0, vld x.1 x.2 = true := fun x hx => HV.out x (pk_mem hx)
            have hcm := common_any (pk c l 0) _ wr ho.wd hpn hpv
            have hpl : (pk c l 0).length = n := by have := HNn.out; rw [← HN.out, List.take_length] at this; exact this
            have hwS := HW.out.trans (hwi.mono HW.out.size)
            have hmm2 := fun (W : World) (hb : Below w.heap.size w W) => members_any l (cmS (pk c l 0)) _ W (HWD.out W hb) HV.out (cmS_vld hpv) (by rw [HN.out]; omega)
            have hk1 := HK.out.below hwi
            have hca : crAt l c = crT (msL (cmS (pk c l 0)) l 0) := rfl
            have hml := msL_lt (cmS (pk c l 0)) l 0
            have hmn := msL_len (cmS (pk c l 0)) l 0
            rw [HN.out] at hml hmn
            generalize cmS (pk c l 0) = cm at *
            generalize msL cm l 0 = ml at *
            obtain ⟨cp, cmm⟩ := cm
            have HCM := Lib.hid hcm; have HMM := Lib.hid hmm2; have HK1 := Lib.hid hk1; have HWS := Lib.hid hwS; have HCA := Lib.hid hca; have HML := Lib.hid hml; have HMN := Lib.hid hmn
            clear hcm hmm2 hk1 hwS hca hml hmn ho hwi hpn hpv hlt2
            go_wp2_with fail
            go_at_call 49
            refine Gives.then HCM.out ?_
            intro w5 hb5
            have HW5 := Lib.hid (HWS.out.trans (hb5.mono HWS.out.size)); have HK5 := Lib.hid (HK1.out.below hb5)
            clear hb5
            go_wp2_with fail
            go_at_call 50
            refine (HMM.out _ HW5.out).mono ?_
            rintro e w6 ⟨v6, rfl, ho6, hb6⟩
            have hcr := crowd_any ml v6 w6 ho6.is (fun i hi => by have := HML.out i hi; omega) (by have := HMN.out; omega)
            obtain ⟨a6, c6, rfl⟩ := ho6.slice
            rw [crv_crT] at hcr
            have HCR := Lib.hid hcr; have HW6 := Lib.hid (HW5.out.trans (hb6.mono HW5.out.size)); have HK6 := Lib.hid (HK5.out.below hb6)
            clear hb6 ho6 hcr
            go_wp2_with fail
            go_at_call 68
            refine Gives.then HCR.out ?_
            intro w7 hb7
            have HW7 := Lib.hid (HW6.out.trans (hb7.mono HW6.out.size)); have HK7 := Lib.hid (HK6.out.below hb7)
            clear hb7
            have hks : kk l (c + 1) = addK (kk l c) (crAt l c) := by
              show (if c = 0 then [] else _) = _
              rw [if_neg (by omega)]
            rw [HCA.out] at hks
            have HKS := Lib.hid hks
            clear hks
            generalize kk l c = ks at *
            generalize crT ml = cr at *
            go_wp2_with (at_mapUpdate; refine wpList_update_k crowd_key rfl (.tmp 40) (.tmp 45) (.const (.bool true)) 93 rfl Tryd.underlying93 MB ks cr rfl rfl rfl HK7.out ?_; intro w8 hk8 hg8; have HK8 := Lib.hid hk8; have HW8 := Lib.hid (HW7.out.grown hg8 HW7.out.size (fun q e => by cases e; exact HMB.out)); clear hk8 hg8)
            go_roundw
            case rel => exact ⟨c + 1, by omega, by omega, by go_num, by rw [HKS.out]; exact HK8.out, HW8.out⟩
            case measure => simp [intOf]; omega
      · obtain rfl : c = P := by omega
        have HK := Lib.hid hk; have HW := Lib.hid hw
        clear hk hw hlt
        go_wp2_with fail
        rw [run_len_k Tryd.underlying93 HK.out]
        simp only [Result.andThen]
        rw [Oper.upon_value]
        go_wp2_with fail
        go_ret2
        exact ⟨rfl, HW.out⟩
  · rw [if_neg h0] at hCN
    subst hCN
    have g1 : (E == 0) = false := by simpa using h0
    clear HVL HLN
    go_enter Tryd.func31, Tryd.ntmps31
    go_wp2_with fail
    go_at_call 46
    refine Gives.then HCK.out ?_
    intro w1 hb1
    go_wp2_with fail
    go_ret2
    exact ⟨rfl, hb1⟩
end Go.Proofs.YtpnmapfabjdfjaaDoor

/-
  The specification of features: Valid, Get, put and With: what they return.
-/
namespace Go.Proofs.YtpnmapfabjdfjaaDoor
open Go.RowKit Go.Sort
def gI (p m : BitVec 32) (g : Int) : Int := if 0 ≤ g ∧ g < 24 then getV p m g.toNat else 0
theorem gI_nat (p m : BitVec 32) (k : Nat) (h : k < 24) : gI p m (k : Int) = getV p m k := by unfold gI; rw [if_pos (by omega)]; rfl
theorem withP_get (p : BitVec 32) (k : Nat) (v : Int) (j : Nat) (hk : k < 32) (hj : j < 32) : (withP p k v).getLsbD j = if j = k then decide (v = 1) else p.getLsbD j := by
  unfold withP
  have hd : decide (j < 32) = true := decide_eq_true hj
  by_cases hv : v = 1
  · rw [if_pos hv]
    simp only [BitVec.getLsbD_or, BitVec.getLsbD_and, BitVec.getLsbD_not, bit_get k j hk, hd, Bool.true_and]
    by_cases e : j = k <;> simp [e, hv]
  · rw [if_neg hv]
    simp only [BitVec.getLsbD_and, BitVec.getLsbD_not, bit_get k j hk, hd, Bool.true_and]
    by_cases e : j = k <;> simp [e, hv]
theorem withM_get (p : BitVec 32) (k : Nat) (v : Int) (j : Nat) (hk : k < 32) (hj : j < 32) : (withM p k v).getLsbD j = if j = k then decide (v = -1) else p.getLsbD j := by
  unfold withM
  have hd : decide (j < 32) = true := decide_eq_true hj
  by_cases hv : v = -1
  · rw [if_pos hv]
    simp only [BitVec.getLsbD_or, BitVec.getLsbD_and, BitVec.getLsbD_not, bit_get k j hk, hd, Bool.true_and]
    by_cases e : j = k <;> simp [e, hv]
  · rw [if_neg hv]
    simp only [BitVec.getLsbD_and, BitVec.getLsbD_not, bit_get k j hk, hd, Bool.true_and]
    by_cases e : j = k <;> simp [e, hv]
theorem all_get (k : Nat) (h : k < 24) : (16777215#32).getLsbD k = true := (by decide : ∀ k : Fin 24, (16777215#32).getLsbD k.val = true) ⟨k, h⟩
theorem vld_bits {p m : BitVec 32} : vld p m = true ↔ ∀ j, j < 32 → (p.getLsbD j && m.getLsbD j) = false ∧ ((p.getLsbD j || m.getLsbD j) && !(16777215#32).getLsbD j) = false := by
  rw [vld_bv]
  constructor
  · rintro ⟨h1, h2⟩ j hj
    have a1 := congrArg (fun z => z.getLsbD j) h1
    have a2 := congrArg (fun z => z.getLsbD j) h2
    simp only [BitVec.getLsbD_and, BitVec.getLsbD_or, BitVec.getLsbD_not, BitVec.getLsbD_zero, decide_eq_true hj, Bool.true_and] at a1 a2
    exact ⟨a1, a2⟩
  · intro h
    constructor
    · apply bv_ext; intro j hj; simp only [BitVec.getLsbD_and, BitVec.getLsbD_zero]; exact (h j hj).1
    · apply bv_ext; intro j hj; simp only [BitVec.getLsbD_and, BitVec.getLsbD_or, BitVec.getLsbD_not, BitVec.getLsbD_zero, decide_eq_true hj, Bool.true_and]; exact (h j hj).2
theorem getV_of_vld {p m : BitVec 32} (h : vld p m = true) (k : Nat) (hk : k < 32) : decide (getV p m k = 1) = p.getLsbD k ∧ decide (getV p m k = -1) = m.getLsbD k := by
  have := (vld_bits.1 h k hk).1
  unfold getV
  revert this
  cases p.getLsbD k <;> cases m.getLsbD k <;> simp
theorem getV_three (p m : BitVec 32) (k : Nat) : getV p m k = 1 ∨ getV p m k = 0 ∨ getV p m k = -1 := by
  unfold getV; cases p.getLsbD k <;> cases m.getLsbD k <;> simp
theorem vld_with {p m : BitVec 32} (h : vld p m = true) (k : Nat) (v : Int) (hk : k < 24) : vld (withP p k v) (withM m k v) = true := by
  rw [vld_bits] at *
  intro j hj
  rw [withP_get p k v j (by omega) hj, withM_get m k v j (by omega) hj]
  by_cases e : j = k
  · subst e
    rw [if_pos rfl, if_pos rfl, all_get j hk]
    by_cases h1 : v = 1
    · subst h1; simp
    · simp [h1]
  · rw [if_neg e, if_neg e]; exact h j hj
theorem getV_with {p m : BitVec 32} (k : Nat) (v : Int) (j : Nat) (hk : k < 24) (hj : j < 32) (hv : v = 1 ∨ v = 0 ∨ v = -1) : getV (withP p k v) (withM m k v) j = if j = k then v else getV p m j := by
  unfold getV
  rw [withP_get p k v j (by omega) hj, withM_get m k v j (by omega) hj]
  by_cases e : j = k
  · subst e
    rw [if_pos rfl, if_pos rfl, if_pos rfl]
    rcases hv with rfl | rfl | rfl <;> simp
  · rw [if_neg e, if_neg e, if_neg e]
theorem shr_bit (p : BitVec 32) (k : Nat) : bits .and .u32 ((p.toNat : Int) / 2 ^ k) 1 = if p.getLsbD k then 1 else 0 := by
  have h : (p.toNat : Int) / 2 ^ k = ((p.toNat / 2 ^ k : Nat) : Int) := by rw [Int.natCast_ediv, Int.natCast_pow]; rfl
  have hlt : p.toNat / 2 ^ k < 2 ^ 32 := Nat.lt_of_le_of_lt (Nat.div_le_self _ _) p.isLt
  rw [bv_and, h, BitVec.ofInt_natCast, BitVec.toNat_and, BitVec.toNat_ofNat, Nat.mod_eq_of_lt hlt]
  have e : (BitVec.ofInt 32 1).toNat = 1 := by decide
  rw [e, Nat.and_one_is_mod, ← Nat.toNat_testBit]
  show _ = if p.toNat.testBit k then 1 else 0
  cases p.toNat.testBit k <;> rfl
theorem vld_no {p m : BitVec 32} {k : Nat} (hk : k < 32) (h : ((p.getLsbD k && m.getLsbD k) || ((p.getLsbD k || m.getLsbD k) && !decide (k < 24))) = true) : vld p m = false := by
  rw [Bool.eq_false_iff]
  intro hv
  obtain ⟨h1, h2⟩ := vld_bits.1 hv k hk
  have ha : (16777215#32).getLsbD k = decide (k < 24) := (by decide : ∀ k : Fin 32, (16777215#32).getLsbD k.val = decide (k.val < 24)) ⟨k, hk⟩
  rw [ha] at h2
  rw [h1, h2] at h
  cases h
theorem vld_yes {p m : BitVec 32} (h : ∀ k, k < 32 → ((p.getLsbD k && m.getLsbD k) || ((p.getLsbD k || m.getLsbD k) && !decide (k < 24))) = false) : vld p m = true := by
  rw [vld_bits]
  intro k hk
  have ha : (16777215#32).getLsbD k = decide (k < 24) := (by decide : ∀ k : Fin 32, (16777215#32).getLsbD k.val = decide (k.val < 24)) ⟨k, hk⟩
  rw [ha]
  simpa using h k hk
def okBit (p m : BitVec 32) (k : Nat) : Prop := ((p.getLsbD k && m.getLsbD k) || ((p.getLsbD k || m.getLsbD k) && !decide (k < 24))) = false
theorem okBit_more {p m : BitVec 32} {k : Nat} (h : ∀ j, j < k → okBit p m j) (hk : okBit p m k) : ∀ j, j < k + 1 → okBit p m j := fun j hj => by
  rcases Nat.lt_or_ge j k with h1 | h1
  · exact h j h1
  · obtain rfl : j = k := by omega
    exact hk
set_option maxHeartbeats 1000000 in
theorem rvalid_any (p m : BitVec 32) (w : World) : Gives 59 #[sn p.toNat m.toNat] w (.bool (vld p m)) := by
  unfold Gives
  generalize hv : vld p m = v
  have HV := Lib.hid hv; clear hv
  go_enter Tryd.func59, Tryd.ntmps59
  go_wp2_with fail
  go_loop [3] (fun i => ∃ k : Nat, k ≤ 32 ∧ i = .int .i64 (k : Int) ∧ ∀ j, j < k → okBit p m j) (fun i => 32 - (intOf i).toNat)
  case atStart => exact ⟨0, by omega, rfl, fun j hj => absurd hj (by omega)⟩
  case round =>
    obtain ⟨k, hk, rfl, hall⟩ := hrel
    have HA := Lib.hid hall; clear hall
    by_cases hlt : k < 32
    · have e1 := shr_bit p k
      have e2 := shr_bit m k
      have hno := fun h => vld_no (p := p) (m := m) hlt h
      have hyes := fun h => okBit_more (p := p) (m := m) HA.out h
      unfold okBit at hyes
      have HNO := Lib.hid hno; have HY := Lib.hid hyes; clear hno hyes
      by_cases h24 : k < 24
      all_goals rcases hp : p.getLsbD k with _ | _
      all_goals rcases hm : m.getLsbD k with _ | _
      all_goals (
        rw [hp] at e1; rw [hm] at e2
        simp only [if_true, Bool.false_eq_true, if_false] at e1 e2
        have HNO := HNO.out; have HY := HY.out
        rw [hp, hm] at HNO HY
        have HN := Lib.hid HNO; have HY2 := Lib.hid HY; clear HNO HY hp hm
        go_wp2_with fail
        first
          | (go_round
             case rel => exact ⟨k + 1, by omega, by go_num, HY2.out (by simp [h24])⟩
             case measure => simp [intOf]; omega)
          | (go_returns; exact ⟨by (rw [← HV.out, HN.out (by simp [h24])]; try rfl), by go_grown⟩))
    · go_wp2_with fail
      go_returns
      exact ⟨by (rw [← HV.out, vld_yes (fun j hj => HA.out j (by omega))]; try rfl), by go_grown⟩
theorem feature_any (k : Int) (b : Bool) (hb : (decide (0 ≤ k) && decide (k < 24)) = b) (w : World) : Calls Tryd.prog 97 #[.int .i64 k] w fun e w' => e = .returned (.bool b) ∧ w = w' := by
  subst hb
  by_cases h1 : 0 ≤ k
  · by_cases h2 : k < 24
    · go_enter Tryd.func97, Tryd.ntmps97
      go_wp2
      go_returns
      exact ⟨by first | (simp [h1, h2]; done) | rfl, rfl⟩
    · go_enter Tryd.func97, Tryd.ntmps97
      go_wp2
      go_returns
      exact ⟨by first | (simp [h1, h2]; done) | (simp; omega), rfl⟩
  · go_enter Tryd.func97, Tryd.ntmps97
    go_wp2
    go_returns
    exact ⟨by first | (simp [h1]; done) | (simp; omega), rfl⟩
set_option maxHeartbeats 1000000 in
theorem rget_bad (p m : BitVec 32) (g : Int) (h : vld p m = false ∨ ¬ (0 ≤ g ∧ g < 24)) (w : World) : Gives 65 #[sn p.toNat m.toNat, .int .i64 g] w (.int .i64 0) := by
  unfold Gives
  rcases hv : vld p m with _ | _
  · have HV := Lib.hid hv; clear hv h
    go_enter Tryd.func65, Tryd.ntmps65
    go_wp2_with (go_at_call 59; with_reducible refine Gives.then (Gives.eq (rvalid_any p m _) rfl (by rw [HV.out])) ?_; intro w1 hb; have hw := chain (B := w.heap.size) (a := w) (by go_grown) (by go_size) hb; obtain ⟨hc, hf, hz⟩ := bcell hb; clear hb; (try simp only [World.size_alloc, World.size_setCell, World.size_drew] at hc hf hz))
    go_returns
    exact ⟨rfl, hw⟩
  · have hg : (decide (0 ≤ g) && decide (g < 24)) = false := by
      rcases h with h | h
      · rw [hv] at h; cases h
      · simp only [Bool.and_eq_false_iff, decide_eq_false_iff_not]; omega
    have HG := Lib.hid hg; have HV := Lib.hid hv; clear hv h hg
    go_enter Tryd.func65, Tryd.ntmps65
    go_wp2_with (first | (go_at_call 59; with_reducible refine Gives.then (Gives.eq (rvalid_any p m _) rfl (by rw [HV.out])) ?_; intro w1 hb; have hw := chain (B := w.heap.size) (a := w) (by go_grown) (by go_size) hb; obtain ⟨hc, hf, hz⟩ := bcell hb; clear hb; (try simp only [World.size_alloc, World.size_setCell, World.size_drew] at hc hf hz)) | (go_at_call 97; refine (feature_any _ _ HG.out _).mono ?_; rintro e w2 ⟨rfl, rfl⟩))
    go_returns
    exact ⟨rfl, hw⟩
set_option maxHeartbeats 1000000 in
theorem rget_ok (p m : BitVec 32) (k : Nat) (hv : vld p m = true) (hk : k < 24) (w : World) : Gives 65 #[sn p.toNat m.toNat, .int .i64 (k : Int)] w (.int .i64 (getV p m k)) := by
  unfold Gives
  have hg : (decide (0 ≤ (k : Int)) && decide ((k : Int) < 24)) = true := by simp; omega
  have e1 := shr_bit p k
  have e2 := shr_bit m k
  have HG := Lib.hid hg; have HV := Lib.hid hv; clear hv hg
  unfold getV
  rcases hp : p.getLsbD k with _ | _
  all_goals rcases hm : m.getLsbD k with _ | _
  all_goals (
    rw [hp] at e1; rw [hm] at e2
    simp only [if_true, Bool.false_eq_true, if_false] at e1 e2
    clear hp hm
    go_enter Tryd.func65, Tryd.ntmps65
    go_wp2_with (first | (go_at_call 59; with_reducible refine Gives.then (Gives.eq (rvalid_any p m _) rfl (by rw [HV.out])) ?_; intro w1 hb; have hw := chain (B := w.heap.size) (a := w) (by go_grown) (by go_size) hb; obtain ⟨hc, hf, hz⟩ := bcell hb; clear hb; (try simp only [World.size_alloc, World.size_setCell, World.size_drew] at hc hf hz)) | (go_at_call 97; refine (feature_any _ _ HG.out _).mono ?_; rintro e w2 ⟨rfl, rfl⟩))
    go_returns
    exact ⟨by simp, hw⟩)
theorem rgv_get (p m : BitVec 32) (g : Int) (w : World) : Gives 65 #[sn p.toNat m.toNat, .int .i64 g] w (.int .i64 (if vld p m then gI p m g else 0)) := by
  rcases hv : vld p m with _ | _
  · exact rget_bad p m g (.inl hv) w
  · by_cases hg : 0 ≤ g ∧ g < 24
    · obtain ⟨k, rfl⟩ := Int.eq_ofNat_of_zero_le hg.1
      rw [if_pos rfl, gI_nat p m k (by omega)]
      exact rget_ok p m k hv (by omega) w
    · have e : gI p m g = 0 := by unfold gI; rw [if_neg hg]
      rw [if_pos rfl, e]
      exact rget_bad p m g (.inr hg) w
theorem b_andNot (x y : BitVec 32) : bits .andNot .u32 x.toNat y.toNat = ((x &&& ~~~y).toNat : Int) := by rw [bv_andNot, ofInt32_nat, ofInt32_nat]
theorem b_or (x y : BitVec 32) : bits .or .u32 x.toNat y.toNat = ((x ||| y).toNat : Int) := by rw [bv_or, ofInt32_nat, ofInt32_nat]
theorem b_and (x y : BitVec 32) : bits .and .u32 x.toNat y.toNat = ((x &&& y).toNat : Int) := by rw [bv_and, ofInt32_nat, ofInt32_nat]
set_option maxHeartbeats 1000000 in
theorem rput_any (p m : BitVec 32) (k : Nat) (v : Int) (hk : k < 24) (w : World) : Gives 98 #[sn p.toNat m.toNat, .int .i64 (k : Int), .int .i64 v] w (sn (withP p k v).toNat (withM m k v).toNat) := by
  unfold Gives
  have hb := pow_bit k (by omega)
  unfold withP withM
  generalize bit k = B at *
  have e1 := b_andNot p B
  have e2 := b_andNot m B
  generalize p &&& ~~~B = P at *
  generalize m &&& ~~~B = M at *
  have e3 := b_or P B
  have e4 := b_or M B
  generalize P ||| B = P1 at *
  generalize M ||| B = M1 at *
  by_cases v1 : v = 1
  · subst v1
    rw [if_pos rfl, if_neg (by decide)]
    go_enter Tryd.func98, Tryd.ntmps98
    go_wp2
    refine bodyPost_ret (v := sn P1.toNat M.toNat) (by simp [results, Tryd.results98, go_sem, *]) rfl ⟨rfl, by go_grown⟩
  · rw [if_neg v1]
    by_cases v2 : v = -1
    · subst v2
      rw [if_pos rfl]
      go_enter Tryd.func98, Tryd.ntmps98
      go_wp2
      refine bodyPost_ret (v := sn P.toNat M1.toNat) (by simp [results, Tryd.results98, go_sem, *]) rfl ⟨rfl, by go_grown⟩
    · rw [if_neg v2]
      have f1 : (v == 1) = false := by simpa using v1
      have f2 : (v == -1) = false := by simpa using v2
      go_enter Tryd.func98, Tryd.ntmps98
      go_wp2
      refine bodyPost_ret (v := sn P.toNat M.toNat) (by simp [results, Tryd.results98, go_sem, *]) rfl ⟨rfl, by go_grown⟩
set_option maxHeartbeats 1000000 in
theorem rwith_any (p m : BitVec 32) (g v : Int) (w : World) : Gives 66 #[sn p.toNat m.toNat, .int .i64 g, .int .i64 v] w
    (if vld p m then (if 0 ≤ g ∧ g < 24 then withV p m g.toNat v else .tuple #[sn 0 0, .int .i64 3]) else .tuple #[sn 0 0, .int .i64 14]) := by
  unfold Gives
  rcases hv : vld p m with _ | _
  · have HV := Lib.hid hv; clear hv
    simp only [Bool.false_eq_true, if_false]
    go_enter Tryd.func66, Tryd.ntmps66
    go_wp2_with (go_at_call 59; with_reducible refine Gives.then (Gives.eq (rvalid_any p m _) rfl (by rw [HV.out])) ?_; intro w1 hb; have hw := chain (B := w.heap.size) (a := w) (by go_grown) (by go_size) hb; (first | have h0 := chain (h0.trans (by go_grown)) (by go_size) hb | have h0 := hb); obtain ⟨hc, hf, hz⟩ := bcell hb; obtain ⟨hc0, hf0, hz0⟩ := bcell h0; clear hb; (try simp only [World.size_alloc, World.size_setCell, World.size_drew] at hc hf hz hc0 hf0 hz0))
    refine bodyPost_ret (v := .tuple #[sn 0 0, .int .i64 14]) (by simp [results, Tryd.results66, go_sem, hc, hz]) rfl ⟨rfl, by go_grown⟩
  · rw [if_pos rfl]
    have HV := Lib.hid hv; clear hv
    by_cases hg : 0 ≤ g ∧ g < 24
    · rw [if_pos hg]
      obtain ⟨k, rfl⟩ := Int.eq_ofNat_of_zero_le hg.1
      have hk : k < 24 := by omega
      have hgb : (decide (0 ≤ (k : Int)) && decide ((k : Int) < 24)) = true := by simp; omega
      have HG := Lib.hid hgb; clear hgb hg
      rw [Int.toNat_natCast]
      unfold withV
      by_cases h3 : v = 1 ∨ v = 0 ∨ v = -1
      · rw [if_pos h3]
        have g1 : -1 ≤ v := by omega
        have g2 : v ≤ 1 := by omega
        clear h3
        go_enter Tryd.func66, Tryd.ntmps66
        go_wp2_with (first | (go_at_call 59; with_reducible refine Gives.then (Gives.eq (rvalid_any p m _) rfl (by rw [HV.out])) ?_; intro w1 hb; have hw := chain (B := w.heap.size) (a := w) (by go_grown) (by go_size) hb; (first | have h0 := chain (h0.trans (by go_grown)) (by go_size) hb | have h0 := hb); obtain ⟨hc, hf, hz⟩ := bcell hb; obtain ⟨hc0, hf0, hz0⟩ := bcell h0; clear hb; (try simp only [World.size_alloc, World.size_setCell, World.size_drew] at hc hf hz hc0 hf0 hz0)) | (go_at_call 97; refine (feature_any _ _ HG.out _).mono ?_; rintro e w2 ⟨rfl, rfl⟩) | (go_at_call 98; with_reducible refine Gives.then (rput_any p m k v hk _) ?_; intro w1 hb; have hw := chain (B := w.heap.size) (a := w) (by go_grown) (by go_size) hb; (first | have h0 := chain (h0.trans (by go_grown)) (by go_size) hb | have h0 := hb); obtain ⟨hc, hf, hz⟩ := bcell hb; obtain ⟨hc0, hf0, hz0⟩ := bcell h0; clear hb; (try simp only [World.size_alloc, World.size_setCell, World.size_drew] at hc hf hz hc0 hf0 hz0)))
        refine bodyPost_ret (v := .tuple #[sn (withP p k v).toNat (withM m k v).toNat, .int .i64 0]) (by simp [results, Tryd.results66, go_sem, hc, hz, hc0, hz0]) rfl ⟨rfl, by go_grown⟩
      · rw [if_neg h3]
        have g1 : v < -1 ∨ 1 < v := by omega
        clear h3
        rcases g1 with g1 | g1
        all_goals (
          go_enter Tryd.func66, Tryd.ntmps66
          go_wp2_with (first | (go_at_call 59; with_reducible refine Gives.then (Gives.eq (rvalid_any p m _) rfl (by rw [HV.out])) ?_; intro w1 hb; have hw := chain (B := w.heap.size) (a := w) (by go_grown) (by go_size) hb; (first | have h0 := chain (h0.trans (by go_grown)) (by go_size) hb | have h0 := hb); obtain ⟨hc, hf, hz⟩ := bcell hb; obtain ⟨hc0, hf0, hz0⟩ := bcell h0; clear hb; (try simp only [World.size_alloc, World.size_setCell, World.size_drew] at hc hf hz hc0 hf0 hz0)) | (go_at_call 97; refine (feature_any _ _ HG.out _).mono ?_; rintro e w2 ⟨rfl, rfl⟩))
          refine bodyPost_ret (v := .tuple #[sn 0 0, .int .i64 2]) (by simp [results, Tryd.results66, go_sem, hc, hz]) rfl ⟨rfl, by go_grown⟩)
    · rw [if_neg hg]
      have hgb : (decide (0 ≤ g) && decide (g < 24)) = false := by simp only [Bool.and_eq_false_iff, decide_eq_false_iff_not]; omega
      have HG := Lib.hid hgb; clear hgb hg
      go_enter Tryd.func66, Tryd.ntmps66
      go_wp2_with (first | (go_at_call 59; with_reducible refine Gives.then (Gives.eq (rvalid_any p m _) rfl (by rw [HV.out])) ?_; intro w1 hb; have hw := chain (B := w.heap.size) (a := w) (by go_grown) (by go_size) hb; (first | have h0 := chain (h0.trans (by go_grown)) (by go_size) hb | have h0 := hb); obtain ⟨hc, hf, hz⟩ := bcell hb; obtain ⟨hc0, hf0, hz0⟩ := bcell h0; clear hb; (try simp only [World.size_alloc, World.size_setCell, World.size_drew] at hc hf hz hc0 hf0 hz0)) | (go_at_call 97; refine (feature_any _ _ HG.out _).mono ?_; rintro e w2 ⟨rfl, rfl⟩))
      refine bodyPost_ret (v := .tuple #[sn 0 0, .int .i64 3]) (by simp [results, Tryd.results66, go_sem, hc, hz]) rfl ⟨rfl, by go_grown⟩
end Go.Proofs.YtpnmapfabjdfjaaDoor

/-
  FeatsSets, walked.
-/
namespace Go.Proofs.YtpnmapfabjdfjaaDoor
open Go.RowKit Go.Sort
attribute [local go_sem ↓] snd_eql snd_neq
theorem calls_gen {P : Program} {f : Nat} {args : Array Value} {W : World} {Q : Ending → World → Prop} (h : ∀ W1, W1 = W → Calls P f args W1 Q) : Calls P f args W Q := h W rfl
end Go.Proofs.YtpnmapfabjdfjaaDoor

/-
  The specification's Valid, Get, put and With: what they return.
-/
namespace Go.Proofs.YtpnmapfabjdfjaaDoor
open Go.RowKit Go.Sort
end Go.Proofs.YtpnmapfabjdfjaaDoor

/-
  The law for a region that draws its order, where one extraction of a result may come up behind the first store. No program is named here.
-/
namespace Go.Proofs.YtpnmapfabjdfjaaDoor
open Go.RowKit Go.Sort
section
variable {P : Program} {ops : Array Oper} {md : Region.Mode}
theorem wpAny_makers {P : Program} {Q : Exit → Act → World → Prop} {a : Act} {W : World} {l : List Oper} (n : Nat) (mks : List (Nat × Obj)) (ks : List Nat) (A0 : Act) (qs : List Oper)
    (hB : regB l.toArray n (mks.map (·.1)) ks = true)
    (hrun : ∀ x ∈ mks, ∃ o, l[x.1]? = some o ∧ o.guard = none ∧ ∀ (a : Act) w, (execOp a.eval o).run P w = .ok (.value (ptr w.heap.size)) (w.alloc x.2))
    (hq : quiets l.toArray (mkOf mks) ks = qs)
    (h : ∀ W', Below W.heap.size W W' → wpQuiet P l.toArray (fun w' => ∃ p : Regrown, w' = grow (redrawn W' p.d) p.os) (fun a' => a' = A0) qs a)
    (fin : ∀ (bs : Nat → Nat) (w' : World), Below W.heap.size W w' → (∀ x ∈ mks, W.heap.size ≤ bs x.1 ∧ w'.heap[bs x.1]? = some x.2) → (∀ x ∈ mks, ∀ y ∈ mks, x.1 ≠ y.1 → bs x.1 ≠ bs y.1) →
      wpList P l.toArray Q (l.drop n) ((mks.map (·.1)).foldr (fun i a => a.put (dstOf l.toArray i) (ptr (bs i))) A0) w') :
    wpAny P .any l.toArray Q l.toArray.size (Array.replicate l.toArray.size false) a { W with drawn := W.drawn + 1 } := by
  simp only [regB, Bool.and_eq_true, decide_eq_true_eq, List.all_eq_true, Bool.or_eq_true, beq_iff_eq, List.mem_range] at hB
  obtain ⟨⟨⟨⟨⟨⟨⟨⟨⟨hsel, hn⟩, hs⟩, hc⟩, hord⟩, hlen⟩, hnd⟩, hms⟩, hdst⟩, hap⟩ := hB
  have hnodup := nodupB_spec hnd
  have hiso : ∀ i, (mkOf ((mks.map (·.1)).map fun i => (i, (default : Obj))) i).isSome = (mkOf mks i).isSome := fun i => by
    rw [Bool.eq_iff_iff, mkOf_some, mkOf_some]
    simp
  rw [ordB_congr hiso] at hord
  have hM : MakersOK P l.toArray (mkOf mks) n (mks.map (·.1)) := by
    refine ⟨hnodup, fun i => mkOf_some, fun i obj hi => ?_, fun i oi j oj hi hoi hj hji hoj => ?_⟩
    · obtain ⟨o, ho, hg, hr⟩ := hrun _ (mkOf_mem hi)
      exact ⟨o, by simpa using ho, fun ts => by unfold Region.wanted; rw [hg], hr⟩
    · rcases hap i hi j hj with e | e
      · exact absurd e.symm hji
      · simpa [apartB, hoi, hoj] using e
  have hd : ∀ i j d, i < n → j < l.toArray.size → i ≠ j → dstOf l.toArray i = some d → dstOf l.toArray j ≠ some d := fun i j d hi hj hij he => by
    rcases hdst i hi j hj with e | e
    · exact absurd e hij
    · rw [he] at e; simpa using e
  have hd1 : ∀ i j d, i < n → j < n → i ≠ j → (l.toArray[i]?).bind (·.dst) = some d → (l.toArray[j]?).bind (·.dst) ≠ some d := fun i j d hi hj hij he => hd i j d hi (by omega) hij he
  have hd2 : ∀ i t d, i < n → n ≤ t → (l.toArray[i]?).bind (·.dst) = some d → (l.toArray[t]?).bind (·.dst) ≠ some d := fun i t d hi ht he => by
    rcases Nat.lt_or_ge t l.toArray.size with h' | h'
    · exact hd i t d hi h' (by omega) he
    · rw [Array.getElem?_eq_none h']; simp
  have hmn : ∀ i ∈ mks.map (·.1), i < n := hms
  have inv0 : HeadInv .any l.toArray n (Array.replicate l.toArray.size false) :=
    ⟨by simp, fun j oj _ hl => (by rw [getD_replicate_false] at hl; cases hl), fun t _ ht => getD_in (by simpa using ht) (getD_replicate_false _ _)⟩
  have hdr : Below W.heap.size W { W with drawn := W.drawn + 1 } := (Below.refl _ W).drew
  have H := anyM_sound (P := P) (md := .any) (g := l.toArray.size - n) (A0 := A0) (Q := Q) (W := W) hsel hM hmn hn hd1 hd2
    (fun listed => Region.seqB .any l.toArray (l.toArray.size - n) n listed = true ∧ ((List.range n).all fun i => listed.getD i false) = true)
    (fun bs listed w hw hG hF => by
      have hall : ∀ i ∈ mks.map (·.1), listed.getD i false = true := fun i hi => List.all_eq_true.1 hG.2 i (List.mem_range.2 (hmn i hi))
      rw [conc_full _ _ hall]
      have hf := fin bs w hw (fun x hx => by
        obtain ⟨q1, obj, q2, q3⟩ := hF.at_ x.1 (List.mem_map_of_mem hx) (hall _ (List.mem_map_of_mem hx))
        rw [mkOf_of_mem hnodup hx] at q2
        cases q2
        exact ⟨q1, q3⟩) (fun x hx y hy hne => hF.ne _ (List.mem_map_of_mem hx) _ (List.mem_map_of_mem hy) (hall _ (List.mem_map_of_mem hx)) (hall _ (List.mem_map_of_mem hy)) hne)
      have := wpAny_of_seq (md := .any) (Q' := Q) (l.drop n) n listed _ w (fun j => by simp [List.getElem?_drop]) (by
        rw [show (l.drop n).length = l.toArray.size - n by simp]; exact hG.1) hf
      rwa [show (l.drop n).length = l.toArray.size - n by simp] at this)
    ks.length (fun _ => 0) (Array.replicate l.toArray.size false) a { W with drawn := W.drawn + 1 } inv0 hdr
    ⟨fun i _ hl => (by rw [getD_replicate_false] at hl; cases hl), fun i _ j _ hl => (by rw [getD_replicate_false] at hl; cases hl)⟩
    (fun W' hW' => by
      have := anyM_lex (P := P) (C := cls W') (mk := mkOf mks) (Lq := fun a' => a' = A0) hsel hs hc hn ks _ a inv0 hord (by rw [hq]; exact h W' (hdr.trans hW'))
      exact this)
  have hc0 : conc l.toArray (fun _ => 0) (Array.replicate l.toArray.size false) a (mks.map (·.1)) = a := by
    generalize mks.map (·.1) = ms
    induction ms with
    | nil => rfl
    | cons i ms ih => simp only [conc, List.foldr_cons, getD_replicate_false] at ih ⊢; simpa using ih
  rw [hc0, hlen, show n + (l.toArray.size - n) = l.toArray.size by omega] at H
  exact H

/-- Nothing but a normal end. -/
def OnlyNormal (Q : Exit → Act → World → Prop) : Exit → Act → World → Prop := fun e a w => e = .normal ∧ Q e a w
theorem onlyNormal_lets {Q : Exit → Act → World → Prop} : ¬ LetsOut (OnlyNormal Q) := by rintro ⟨a, w, h, _⟩; cases h
theorem wp_onlyNormal {o : Oper} {a : Act} {w : World} {K : Act → World → Prop} {Q : Exit → Act → World → Prop} (h : o.wp P a w K (OnlyNormal Q)) : o.wp P a w K Q := by
  unfold Oper.wp at *
  generalize (execOp a.eval o).run P w = r at *
  cases r with
  | ok n w' =>
    cases n <;> simp only [Oper.upon] at h ⊢ <;> first
      | exact h
      | exact Calls.mono h (fun e w'' he => by cases e <;> first | exact he | exact he.2 | exact absurd he onlyNormal_lets)
  | halt x w' => cases x <;> simp only [Oper.upon] at h ⊢ <;> first | exact h | exact h.2
theorem wpOp_onlyNormal {i : Nat} {a : Act} {w : World} {K : Act → World → Prop} {Q : Exit → Act → World → Prop} (h : wpOp P ops (OnlyNormal Q) i K a w) : wpOp P ops Q i K a w := by
  unfold wpOp at *
  split
  · simpa [*] using h
  · rename_i o ho
    simp only [ho] at h
    split
    · rename_i hw; simp only [hw, if_true] at h; exact .inl (h.elim wp_onlyNormal (fun x => absurd x.2 onlyNormal_lets))
    · rename_i hw; simp only [hw] at h; exact h
theorem wpAny_onlyNormal {Q : Exit → Act → World → Prop} : ∀ (fuel : Nat) (listed : Array Bool) (a : Act) (w : World), wpAny P md ops (OnlyNormal Q) fuel listed a w → wpAny P md ops Q fuel listed a w
  | 0, _, _, _, h => ⟨h.1, h.2.2⟩
  | _ + 1, _, _, _, h => ⟨fun h0 => (h.1 h0).2, fun i hi => wpOp_onlyNormal (wpOp_mono (fun _ _ h' => wpAny_onlyNormal _ _ _ _ h') (h.2 i hi))⟩

/-- One edge more: operation n waits for operation i. -/
def edged (l : List Oper) (i n : Nat) : List Oper := l.modify n fun o => { o with after := o.after.push ⟨i, .data⟩ }
theorem edged_ne {l : List Oper} {i n j : Nat} (h : j ≠ n) : (edged l i n)[j]? = l[j]? := by
  unfold edged; rw [List.getElem?_modify]; simp only [if_neg (Ne.symm h)]; cases l[j]? <;> rfl
theorem edged_at {l : List Oper} {i n : Nat} : (edged l i n)[n]? = (l[n]?).map fun o => { o with after := o.after.push ⟨i, .data⟩ } := by
  unfold edged; rw [List.getElem?_modify]; simp only [if_true]; cases l[n]? <;> rfl
theorem edged_yielded {l : List Oper} {i n : Nat} (ts : Array Value) : yielded (edged l i n).toArray ts = yielded l.toArray ts := by
  funext j
  unfold yielded
  have : ((edged l i n).toArray[j]?).bind (·.dst) = (l.toArray[j]?).bind (·.dst) := by
    by_cases h : j = n
    · subst h; simp only [List.getElem?_toArray, edged_at]; cases l[j]? <;> rfl
    · simp only [List.getElem?_toArray, edged_ne h]
  rw [this]
theorem edged_wpOp {l : List Oper} {i n j : Nat} {Q : Exit → Act → World → Prop} {K : Act → World → Prop} {a : Act} {w : World} (h : wpOp P (edged l i n).toArray Q j K a w) : wpOp P l.toArray Q j K a w := by
  unfold wpOp at *
  rw [edged_yielded] at h
  by_cases hj : j = n
  · subst hj
    simp only [List.getElem?_toArray, edged_at] at h ⊢
    cases ho : l[j]? with
    | none => simp only [ho] at h ⊢; exact h
    | some o => simp only [ho] at h ⊢; exact h
  · simp only [List.getElem?_toArray, edged_ne hj] at h ⊢
    exact h
/-- An operation whose yield hangs on the frame alone. -/
def Plain (P : Program) (o : Oper) : Prop := ∀ (a : Act), (∃ v, ∀ w, (execOp a.eval o).run P w = .ok (.value v) w) ∨ (∀ w, ∃ x w', (execOp a.eval o).run P w = .halt x w' ∧ ∀ v, x ≠ .panic v)
/-- What is asked of the operation that is late. -/
def lateB (md : Region.Mode) (l : List Oper) (i n : Nat) : Bool :=
  i != n && match l[i]?, l[n]? with
  | some oi, some on => (oi.guard == none) && (oi.after.all fun e => !Region.binds md e || on.after.any fun e' => Region.binds md e' && e'.on == e.on) &&
      (List.range l.length).all fun j => j == i || match l[j]? with
        | none => true
        | some oj => (oi.after.any fun e => Region.binds md e && e.on == j) || (oj.after.any fun e => Region.binds md e && e.on == i) || oi.apart l.toArray oj
  | _, _ => false
theorem wpAny_edged {l : List Oper} {i n : Nat} {oi : Oper} {Q : Exit → Act → World → Prop} (hsel : Region.noSelect l.toArray = true) (hi : l[i]? = some oi) (hL : lateB md l i n = true) (hp : Plain P oi) :
    ∀ (fuel : Nat) (listed : Array Bool) (a : Act) (w : World), listed.size = l.length → wpAny P md (edged l i n).toArray (OnlyNormal Q) fuel listed a w → wpAny P md l.toArray (OnlyNormal Q) fuel listed a w := by
  unfold lateB at hL
  rw [hi] at hL
  obtain ⟨hne, hL⟩ := Bool.and_eq_true_iff.1 hL
  have hne : i ≠ n := by simpa using hne
  cases hn : l[n]? with
  | none => rw [hn] at hL; simp at hL
  | some on =>
  rw [hn] at hL
  simp only [Bool.and_eq_true] at hL
  obtain ⟨⟨hg, hdep⟩, hap⟩ := hL
  have hg : oi.guard = none := by simpa using hg
  have hwant : ∀ ts, Region.wanted oi (yielded l.toArray ts) = true := fun ts => by unfold Region.wanted; rw [hg]
  have hdep : ∀ e ∈ oi.after, Region.binds md e = true → ∃ e' ∈ on.after, Region.binds md e' = true ∧ e'.on = e.on := fun e he hb => by
    have := Array.all_eq_true_iff_forall_mem.1 hdep e he
    simp only [hb, Bool.not_true, Bool.false_or] at this
    obtain ⟨e', he', h⟩ := Array.any_eq_true'.1 this
    simp only [Bool.and_eq_true, beq_iff_eq] at h
    exact ⟨e', he', h.1, h.2⟩
  -- what comes up there comes up here
  have sub : ∀ (listed : Array Bool) (j : Nat), j ∈ Region.ready md (edged l i n).toArray listed → j ∈ Region.ready md l.toArray listed := fun listed j h => by
    rw [mem_ready] at h ⊢
    obtain ⟨h0, o, ho, hall⟩ := h
    by_cases hj : j = n
    · subst hj
      simp only [List.getElem?_toArray, edged_at, hn, Option.map_some, Option.some.injEq] at ho
      subst ho
      exact ⟨h0, on, by simpa using hn, fun e he hb => hall e (Array.mem_push_of_mem _ he) hb⟩
    · simp only [List.getElem?_toArray, edged_ne hj] at ho
      exact ⟨h0, o, by simpa using ho, hall⟩
  have sup : ∀ (listed : Array Bool), listed.size = l.length → ∀ (j : Nat), j ∈ Region.ready md l.toArray listed → j ∈ Region.ready md (edged l i n).toArray listed ∨ (j = n ∧ i ∈ Region.ready md (edged l i n).toArray listed) := fun listed hsz j h => by
    rw [mem_ready] at h
    obtain ⟨h0, o, ho, hall⟩ := h
    by_cases hj : j = n
    · subst hj
      have : o = on := by simpa [hn] using ho.symm
      subst this
      by_cases hli : listed.getD i true = false
      · refine .inr ⟨rfl, ?_⟩
        rw [mem_ready]
        refine ⟨hli, oi, by simp [edged_ne hne, hi], fun e he hb => ?_⟩
        obtain ⟨e', he', hb', hon⟩ := hdep e he hb
        rw [← hon]; exact hall e' he' hb'
      · refine .inl ?_
        rw [mem_ready]
        have hli' : listed.getD i false = true := by
          have hlen : i < listed.size := by rw [hsz]; exact (List.getElem?_eq_some_iff.1 hi).1
          simp [hlen] at hli ⊢; exact hli
        refine ⟨h0, _, by simp only [List.getElem?_toArray, edged_at, hn]; rfl, fun e he hb => ?_⟩
        rcases Array.mem_push.1 he with he | rfl
        · exact hall e he hb
        · exact hli'
    · refine .inl ?_
      rw [mem_ready]
      exact ⟨h0, o, by simp only [List.getElem?_toArray, edged_ne hj]; simpa using ho, hall⟩
  intro fuel
  induction fuel with
  | zero =>
    intro listed a w hsz H
    refine ⟨List.eq_nil_iff_forall_not_mem.2 fun j hj => (sup _ hsz j hj).elim (fun h => by rw [H.1] at h; cases h) (fun h => by rw [H.1] at h; cases h.2), H.2⟩
  | succ f ih =>
    intro listed a w hsz H
    refine ⟨fun h0 => H.1 (List.eq_nil_iff_forall_not_mem.2 fun j hj => by have := sub _ j hj; rw [h0] at this; cases this), fun j hj => ?_⟩
    rcases sup listed hsz j hj with h | ⟨rfl, hir⟩
    · exact wpOp_mono (fun a' w' h' => ih _ a' w' (by simp [hsz]) h') (edged_wpOp (H.2 j h))
    · have h1 := edged_wpOp (H.2 i hir)
      unfold wpOp at h1
      simp only [List.getElem?_toArray, hi, hwant, if_true] at h1
      rcases h1 with h1 | ⟨_, hx⟩
      rotate_left
      · exact absurd hx onlyNormal_lets
      unfold Oper.wp at h1
      rcases hp a with ⟨v, hv⟩ | hv
      · have hy : Yields P l.toArray oi v a := .inl ⟨hwant _, hv⟩
        rw [hv w] at h1
        have h2 := ih _ _ _ (by simp [hsz]) h1
        have hri := sub _ _ hir
        have h3 := wpAny_first (md := md) (Q := OnlyNormal Q) (i := i) (oi := oi) (v := v) (ops := l.toArray) (by simpa using hi) (Region.noSelect_spec hsel) (fun c a w h => by cases h.1) f listed a w
          (fun k ok hk hki hun hno => by
            have hkl : l[k]? = some ok := by simpa using hk
            have hlt : k < l.length := (List.getElem?_eq_some_iff.1 hkl).1
            have h4 := List.all_eq_true.1 hap k (List.mem_range.2 hlt)
            simp only [hkl, Bool.or_eq_true, beq_iff_eq, hki, false_or] at h4
            rcases h4 with (h4 | h4) | h4
            · obtain ⟨e, he, hb⟩ := Array.any_eq_true'.1 h4
              simp only [Bool.and_eq_true, beq_iff_eq] at hb
              obtain ⟨_, o, ho, hall⟩ := mem_ready.1 hri
              have : o = oi := by simpa [hi] using ho.symm
              subst this
              have h5 := hall e he hb.1
              rw [hb.2, getD_both hun] at h5
              cases h5
            · obtain ⟨e, he, hb⟩ := Array.any_eq_true'.1 h4
              simp only [Bool.and_eq_true, beq_iff_eq] at hb
              exact absurd hb.2 (hno e he hb.1)
            · exact h4) hri hy h2
        exact h3.2 j hj
      · obtain ⟨x, w', hs, hx⟩ := hv w
        rw [hs] at h1
        cases x <;> first | exact h1.elim | exact absurd rfl (hx _)
theorem plain_extract {o : Oper} {x : Operand} {k : Nat} (h : o.op = .extract x k) : Plain P o := by
  intro a
  unfold execOp
  simp only [h]
  generalize a.eval x = v
  cases v with
  | tuple vs =>
    cases hk : vs[k]? with
    | some u => exact .inl ⟨u, fun w => by simp [go_sem, Instr.extract, hk]⟩
    | none => exact .inr fun w => ⟨_, _, by simp [go_sem, Instr.extract, hk]; exact ⟨rfl, rfl⟩, by simp⟩
  | _ => exact .inr fun w => ⟨_, _, by simp [go_sem, Instr.extract]; exact ⟨rfl, rfl⟩, by simp⟩
/-- **The law where one extraction is late**: operation i may come up behind the first store n. -/
theorem wp_region_late {id : Nat} {Q : Exit → Act → World → Prop} {a : Act} {W : World} {l l' : List Oper} {oi : Oper} {x : Operand} {k : Nat} (i : Nat) (n : Nat) (mks : List (Nat × Obj)) (ks : List Nat) (A0 : Act) (qs : List Oper)
    (he : edged l i n = l') (hi : l[i]? = some oi) (hx : oi.op = .extract x k) (hL : (Region.noSelect l.toArray && lateB .any l i n) = true)
    (hm : P.follows .mixedOrders = true) (hB : regB l'.toArray n (mks.map (·.1)) ks = true)
    (hrun : ∀ x ∈ mks, ∃ o, l'[x.1]? = some o ∧ o.guard = none ∧ ∀ (a : Act) w, (execOp a.eval o).run P w = .ok (.value (ptr w.heap.size)) (w.alloc x.2))
    (hq : quiets l'.toArray (mkOf mks) ks = qs)
    (h : ∀ W', Below W.heap.size W W' → wpQuiet P l'.toArray (fun w' => ∃ p : Regrown, w' = grow (redrawn W' p.d) p.os) (fun a' => a' = A0) qs a)
    (fin : ∀ (bs : Nat → Nat) (w' : World), Below W.heap.size W w' → (∀ x ∈ mks, W.heap.size ≤ bs x.1 ∧ w'.heap[bs x.1]? = some x.2) → (∀ x ∈ mks, ∀ y ∈ mks, x.1 ≠ y.1 → bs x.1 ≠ bs y.1) →
      wpList P l'.toArray (OnlyNormal Q) (l'.drop n) ((mks.map (·.1)).foldr (fun i a => a.put (dstOf l'.toArray i) (ptr (bs i))) A0) w') :
    (Code.region id l.toArray true).wp P Q a W := by
  subst he
  obtain ⟨hsel, hL⟩ := Bool.and_eq_true_iff.1 hL
  have hsz : (edged l i n).length = l.length := by unfold edged; simp
  refine wp_region_any hm (wpAny_onlyNormal _ _ _ _ (wpAny_edged hsel hi hL (plain_extract hx) _ _ _ _ (by simp) ?_))
  have := wpAny_makers n mks ks A0 qs hB hrun hq h fin
  simpa [hsz] using this
end
end Go.Proofs.YtpnmapfabjdfjaaDoor

/-
  Sets of features that are gone over one after the other: the first k bits of one set, the others of another one.
-/
namespace Go.Proofs.YtpnmapfabjdfjaaDoor
open Go.RowKit Go.Sort
/-- The first k features. -/
def low (k : Nat) : BitVec 32 := BitVec.ofNat 32 (2 ^ k - 1)
theorem low_get (k j : Nat) (hj : j < 32) : (low k).getLsbD j = decide (j < k) := by
  unfold low
  rw [BitVec.getLsbD_ofNat, Nat.testBit_two_pow_sub_one]
  simp [hj]
/-- The first k bits of F, the others of G. -/
def mix (F G : BitVec 32) (k : Nat) : BitVec 32 := (F &&& low k) ||| (G &&& ~~~low k)
theorem mix_get (F G : BitVec 32) (k j : Nat) (hj : j < 32) : (mix F G k).getLsbD j = if j < k then F.getLsbD j else G.getLsbD j := by
  unfold mix
  rw [BitVec.getLsbD_or, BitVec.getLsbD_and, BitVec.getLsbD_and, BitVec.getLsbD_not, low_get k j hj]
  by_cases h : j < k <;> simp [h, hj]
theorem mix_zero (F G : BitVec 32) : mix F G 0 = G := by
  apply bv_ext; intro j hj; rw [mix_get F G 0 j hj, if_neg (by omega)]
theorem mix_all {F G : BitVec 32} (h : ∀ j, j < 32 → 24 ≤ j → F.getLsbD j = G.getLsbD j) : mix F G 24 = F := by
  apply bv_ext; intro j hj; rw [mix_get F G 24 j hj]
  split
  · rfl
  · exact (h j hj (by omega)).symm
theorem mix_putP (F G : BitVec 32) (k : Nat) (v : Int) (hk : k < 32) (h : F.getLsbD k = decide (v = 1)) : withP (mix F G k) k v = mix F G (k + 1) := by
  apply bv_ext; intro j hj
  rw [withP_get _ k v j hk hj, mix_get F G (k + 1) j hj, mix_get F G k j hj]
  by_cases e : j = k
  · subst e; rw [if_pos rfl, if_pos (by omega), h]
  · rw [if_neg e]
    by_cases h2 : j < k
    · rw [if_pos h2, if_pos (by omega)]
    · rw [if_neg h2, if_neg (by omega)]
theorem mix_putM (F G : BitVec 32) (k : Nat) (v : Int) (hk : k < 32) (h : F.getLsbD k = decide (v = -1)) : withM (mix F G k) k v = mix F G (k + 1) := by
  apply bv_ext; intro j hj
  rw [withM_get _ k v j hk hj, mix_get F G (k + 1) j hj, mix_get F G k j hj]
  by_cases e : j = k
  · subst e; rw [if_pos rfl, if_pos (by omega), h]
  · rw [if_neg e]
    by_cases h2 : j < k
    · rw [if_pos h2, if_pos (by omega)]
    · rw [if_neg h2, if_neg (by omega)]
theorem mix_keep (F G : BitVec 32) (k : Nat) (h : F.getLsbD k = G.getLsbD k) : mix F G (k + 1) = mix F G k := by
  apply bv_ext; intro j hj
  rw [mix_get F G (k + 1) j hj, mix_get F G k j hj]
  by_cases e : j = k
  · subst e; rw [if_pos (by omega), if_neg (by omega), h]
  · by_cases h2 : j < k
    · rw [if_pos h2, if_pos (by omega)]
    · rw [if_neg h2, if_neg (by omega)]
theorem mix_bit (F G : BitVec 32) (k : Nat) (hk : k < 32) (h : F.getLsbD k = true) (hg : G = 0#32) : mix F G k ||| bit k = mix F G (k + 1) := by
  apply bv_ext; intro j hj
  rw [BitVec.getLsbD_or, mix_get F G (k + 1) j hj, mix_get F G k j hj, bit_get k j hk]
  by_cases e : j = k
  · subst e; rw [if_neg (Nat.lt_irrefl j), if_pos (Nat.lt_succ_self j), h]; simp
  · by_cases h2 : j < k
    · rw [if_pos h2, if_pos (by omega)]; simp [e]
    · rw [if_neg h2, if_neg (show ¬ j < k + 1 by omega), hg]; simp [e]
/-- The bits of a valid sound's features. -/
theorem vld_high {p m : BitVec 32} (h : vld p m = true) (j : Nat) (hj : j < 32) (h24 : 24 ≤ j) : p.getLsbD j = false ∧ m.getLsbD j = false := by
  have h2 := (vld_bits.1 h j hj).2
  have ha : (16777215#32).getLsbD j = false := (by decide : ∀ k : Fin 32, 24 ≤ k.val → (16777215#32).getLsbD k.val = false) ⟨j, hj⟩ h24
  rw [ha] at h2
  revert h2
  cases p.getLsbD j <;> cases m.getLsbD j <;> simp
theorem getV_bits {p m : BitVec 32} (h : vld p m = true) (k : Nat) (hk : k < 32) : p.getLsbD k = decide (getV p m k = 1) ∧ m.getLsbD k = decide (getV p m k = -1) := by
  obtain ⟨h1, h2⟩ := getV_of_vld h k hk
  exact ⟨h1.symm, h2.symm⟩
theorem diff_bit {p m q n : BitVec 32} (h1 : vld p m = true) (h2 : vld q n = true) (k : Nat) (hk : k < 32) : ((p ^^^ q) ||| (m ^^^ n)).getLsbD k = decide (getV p m k ≠ getV q n k) := by
  obtain ⟨a1, a2⟩ := getV_bits h1 k hk
  obtain ⟨b1, b2⟩ := getV_bits h2 k hk
  rw [BitVec.getLsbD_or, BitVec.getLsbD_xor, BitVec.getLsbD_xor, a1, a2, b1, b2]
  rcases getV_three p m k with e | e | e <;> rcases getV_three q n k with f | f | f <;> simp [e, f]
/-- What Get of the specification returns, of a feature. -/
def gV (p m : BitVec 32) (k : Nat) : Int := if vld p m then getV p m k else 0
theorem gV_of {p m : BitVec 32} (h : vld p m = true) (k : Nat) : gV p m k = getV p m k := by unfold gV; rw [if_pos h]
theorem gV_not {p m : BitVec 32} (h : vld p m = false) (k : Nat) : gV p m k = 0 := by unfold gV; rw [if_neg (by simp [h])]
theorem gV_three (p m : BitVec 32) (k : Nat) : gV p m k = 1 ∨ gV p m k = 0 ∨ gV p m k = -1 := by
  unfold gV; split
  · exact getV_three p m k
  · exact .inr (.inl rfl)
theorem rgv (p m : BitVec 32) (k : Nat) (hk : k < 24) (w : World) : Gives 65 #[sn p.toNat m.toNat, .int .i64 (k : Int)] w (.int .i64 (gV p m k)) := by
  have := rgv_get p m k w
  rwa [gI_nat p m k hk] at this
end Go.Proofs.YtpnmapfabjdfjaaDoor

/-
  The specification's Diff and Satisfies: what they return.
-/
namespace Go.Proofs.YtpnmapfabjdfjaaDoor
open Go.RowKit Go.Sort
attribute [local go_sem ↓] snd_eql snd_neq
theorem gens_calls {P : Program} {f : Nat} {args : Array Value} {W : World} {Q : Ending → World → Prop} (h : ∀ W1, W1 = W → Calls P f args W1 Q) : Calls P f args W Q := h W rfl
set_option maxHeartbeats 4000000 in
theorem rdiff_bad (p m q n : BitVec 32) (hv : (vld p m && vld q n) = false) (w : World) : Gives 92 #[sn p.toNat m.toNat, sn q.toNat n.toNat] w (.int .u32 0) := by
  unfold Gives
  rcases h1 : vld p m with _ | _
  · have H1 := Lib.hid h1; clear h1 hv
    go_enter Tryd.func92, Tryd.ntmps92
    go_wp2_with (go_at_call 59; with_reducible refine Gives.then (Gives.eq (rvalid_any p m _) rfl (by rw [H1.out])) ?_; intro w1 hb; have hw := chain (B := w.heap.size) (a := w) (by go_grown) (by go_size) hb; (first | have h0 := chain (h0.trans (by go_grown)) (by go_size) hb | have h0 := hb); obtain ⟨hc, hf, hz⟩ := bcell hb; obtain ⟨hc0, hf0, hz0⟩ := bcell h0; clear hb; (try simp only [World.size_alloc, World.size_setCell, World.size_drew] at hc hf hz hc0 hf0 hz0); (first | (have hy := (hc _ _ (by omega)).trans r0; have r0 := hy; clear hy) | (have hy := (hc _ _ (by omega)).trans (cell_past (by omega) r0); have r0 := hy; clear hy) | skip); (first | (have hy := (hc _ _ (by omega)).trans r1; have r1 := hy; clear hy) | (have hy := (hc _ _ (by omega)).trans (cell_past (by omega) r1); have r1 := hy; clear hy) | skip); (first | (have hy := (hc _ _ (by omega)).trans r2; have r2 := hy; clear hy) | (have hy := (hc _ _ (by omega)).trans (cell_past (by omega) r2); have r2 := hy; clear hy) | skip); (first | (have hy := (hc _ _ (by omega)).trans r3; have r3 := hy; clear hy) | (have hy := (hc _ _ (by omega)).trans (cell_past (by omega) r3); have r3 := hy; clear hy) | skip); (try have s0 := fun X => cell_past (X := X) (by omega : w.heap.size < w1.heap.size) r0); (try have s1 := fun X => cell_past (X := X) (by omega : w.heap.size < w1.heap.size) r1); (try have s2 := fun X => cell_past (X := X) (by omega : w.heap.size + 1 < w1.heap.size) r2); (try have s3 := fun X => cell_past (X := X) (by omega : w.heap.size + 1 < w1.heap.size) r3))
    go_returns
    exact ⟨rfl, hw⟩
  · rw [h1, Bool.true_and] at hv
    have H1 := Lib.hid h1; have H2 := Lib.hid hv; clear h1 hv
    go_enter Tryd.func92, Tryd.ntmps92
    go_wp2_with (first | (go_at_call 59; with_reducible refine Gives.then (Gives.eq (rvalid_any p m _) rfl (by rw [H1.out])) ?_; intro w1 hb; have hw := chain (B := w.heap.size) (a := w) (by go_grown) (by go_size) hb; (first | have h0 := chain (h0.trans (by go_grown)) (by go_size) hb | have h0 := hb); obtain ⟨hc, hf, hz⟩ := bcell hb; obtain ⟨hc0, hf0, hz0⟩ := bcell h0; clear hb; (try simp only [World.size_alloc, World.size_setCell, World.size_drew] at hc hf hz hc0 hf0 hz0); (first | (have hy := (hc _ _ (by omega)).trans r0; have r0 := hy; clear hy) | (have hy := (hc _ _ (by omega)).trans (cell_past (by omega) r0); have r0 := hy; clear hy) | skip); (first | (have hy := (hc _ _ (by omega)).trans r1; have r1 := hy; clear hy) | (have hy := (hc _ _ (by omega)).trans (cell_past (by omega) r1); have r1 := hy; clear hy) | skip); (first | (have hy := (hc _ _ (by omega)).trans r2; have r2 := hy; clear hy) | (have hy := (hc _ _ (by omega)).trans (cell_past (by omega) r2); have r2 := hy; clear hy) | skip); (first | (have hy := (hc _ _ (by omega)).trans r3; have r3 := hy; clear hy) | (have hy := (hc _ _ (by omega)).trans (cell_past (by omega) r3); have r3 := hy; clear hy) | skip); (try have s0 := fun X => cell_past (X := X) (by omega : w.heap.size < w1.heap.size) r0); (try have s1 := fun X => cell_past (X := X) (by omega : w.heap.size < w1.heap.size) r1); (try have s2 := fun X => cell_past (X := X) (by omega : w.heap.size + 1 < w1.heap.size) r2); (try have s3 := fun X => cell_past (X := X) (by omega : w.heap.size + 1 < w1.heap.size) r3)) | (go_at_call 59; with_reducible refine Gives.then (Gives.eq (rvalid_any q n _) rfl (by rw [H2.out])) ?_; intro w1 hb; have hw := chain (B := w.heap.size) (a := w) (by go_grown) (by go_size) hb; (first | have h0 := chain (h0.trans (by go_grown)) (by go_size) hb | have h0 := hb); obtain ⟨hc, hf, hz⟩ := bcell hb; obtain ⟨hc0, hf0, hz0⟩ := bcell h0; clear hb; (try simp only [World.size_alloc, World.size_setCell, World.size_drew] at hc hf hz hc0 hf0 hz0); (first | (have hy := (hc _ _ (by omega)).trans r0; have r0 := hy; clear hy) | (have hy := (hc _ _ (by omega)).trans (cell_past (by omega) r0); have r0 := hy; clear hy) | skip); (first | (have hy := (hc _ _ (by omega)).trans r1; have r1 := hy; clear hy) | (have hy := (hc _ _ (by omega)).trans (cell_past (by omega) r1); have r1 := hy; clear hy) | skip); (first | (have hy := (hc _ _ (by omega)).trans r2; have r2 := hy; clear hy) | (have hy := (hc _ _ (by omega)).trans (cell_past (by omega) r2); have r2 := hy; clear hy) | skip); (first | (have hy := (hc _ _ (by omega)).trans r3; have r3 := hy; clear hy) | (have hy := (hc _ _ (by omega)).trans (cell_past (by omega) r3); have r3 := hy; clear hy) | skip); (try have s0 := fun X => cell_past (X := X) (by omega : w.heap.size < w1.heap.size) r0); (try have s1 := fun X => cell_past (X := X) (by omega : w.heap.size < w1.heap.size) r1); (try have s2 := fun X => cell_past (X := X) (by omega : w.heap.size + 1 < w1.heap.size) r2); (try have s3 := fun X => cell_past (X := X) (by omega : w.heap.size + 1 < w1.heap.size) r3)))
    go_returns
    exact ⟨rfl, hw⟩
set_option maxHeartbeats 4000000 in
theorem rdiff_ok (p m q n D : BitVec 32) (h1 : vld p m = true) (h2 : vld q n = true) (hD : D = (p ^^^ q) ||| (m ^^^ n)) (w : World) : Gives 92 #[sn p.toNat m.toNat, sn q.toNat n.toNat] w (.int .u32 D.toNat) := by
  unfold Gives
  have hbit := fun k hk => (congrArg (fun z => z.getLsbD k) hD).trans (diff_bit h1 h2 k hk)
  have hend : mix D 0#32 24 = D := mix_all fun j hj h24 => by
    rw [hD, diff_bit h1 h2 j hj]
    obtain ⟨a1, a2⟩ := vld_high h1 j hj h24
    obtain ⟨b1, b2⟩ := vld_high h2 j hj h24
    simp [getV, a1, a2, b1, b2]
  have HB := Lib.hid hbit; have HE := Lib.hid hend; clear hbit hend hD
  have H1 := Lib.hid h1; have H2 := Lib.hid h2; clear h1 h2
  go_enter Tryd.func92, Tryd.ntmps92
  go_wp2_with (first | (go_at_call 59; with_reducible refine Gives.then (Gives.eq (rvalid_any p m _) rfl (by rw [H1.out])) ?_; intro w1 hb; have hw := chain (B := w.heap.size) (a := w) (by go_grown) (by go_size) hb; (first | have h0 := chain (h0.trans (by go_grown)) (by go_size) hb | have h0 := hb); obtain ⟨hc, hf, hz⟩ := bcell hb; obtain ⟨hc0, hf0, hz0⟩ := bcell h0; clear hb; (try simp only [World.size_alloc, World.size_setCell, World.size_drew] at hc hf hz hc0 hf0 hz0); (first | (have hy := (hc _ _ (by omega)).trans r0; have r0 := hy; clear hy) | (have hy := (hc _ _ (by omega)).trans (cell_past (by omega) r0); have r0 := hy; clear hy) | skip); (first | (have hy := (hc _ _ (by omega)).trans r1; have r1 := hy; clear hy) | (have hy := (hc _ _ (by omega)).trans (cell_past (by omega) r1); have r1 := hy; clear hy) | skip); (first | (have hy := (hc _ _ (by omega)).trans r2; have r2 := hy; clear hy) | (have hy := (hc _ _ (by omega)).trans (cell_past (by omega) r2); have r2 := hy; clear hy) | skip); (first | (have hy := (hc _ _ (by omega)).trans r3; have r3 := hy; clear hy) | (have hy := (hc _ _ (by omega)).trans (cell_past (by omega) r3); have r3 := hy; clear hy) | skip); (try have s0 := fun X => cell_past (X := X) (by omega : w.heap.size < w1.heap.size) r0); (try have s1 := fun X => cell_past (X := X) (by omega : w.heap.size < w1.heap.size) r1); (try have s2 := fun X => cell_past (X := X) (by omega : w.heap.size + 1 < w1.heap.size) r2); (try have s3 := fun X => cell_past (X := X) (by omega : w.heap.size + 1 < w1.heap.size) r3)) | (go_at_call 59; with_reducible refine Gives.then (Gives.eq (rvalid_any q n _) rfl (by rw [H2.out])) ?_; intro w1 hb; have hw := chain (B := w.heap.size) (a := w) (by go_grown) (by go_size) hb; (first | have h0 := chain (h0.trans (by go_grown)) (by go_size) hb | have h0 := hb); obtain ⟨hc, hf, hz⟩ := bcell hb; obtain ⟨hc0, hf0, hz0⟩ := bcell h0; clear hb; (try simp only [World.size_alloc, World.size_setCell, World.size_drew] at hc hf hz hc0 hf0 hz0); (first | (have hy := (hc _ _ (by omega)).trans r0; have r0 := hy; clear hy) | (have hy := (hc _ _ (by omega)).trans (cell_past (by omega) r0); have r0 := hy; clear hy) | skip); (first | (have hy := (hc _ _ (by omega)).trans r1; have r1 := hy; clear hy) | (have hy := (hc _ _ (by omega)).trans (cell_past (by omega) r1); have r1 := hy; clear hy) | skip); (first | (have hy := (hc _ _ (by omega)).trans r2; have r2 := hy; clear hy) | (have hy := (hc _ _ (by omega)).trans (cell_past (by omega) r2); have r2 := hy; clear hy) | skip); (first | (have hy := (hc _ _ (by omega)).trans r3; have r3 := hy; clear hy) | (have hy := (hc _ _ (by omega)).trans (cell_past (by omega) r3); have r3 := hy; clear hy) | skip); (try have s0 := fun X => cell_past (X := X) (by omega : w.heap.size < w1.heap.size) r0); (try have s1 := fun X => cell_past (X := X) (by omega : w.heap.size < w1.heap.size) r1); (try have s2 := fun X => cell_past (X := X) (by omega : w.heap.size + 1 < w1.heap.size) r2); (try have s3 := fun X => cell_past (X := X) (by omega : w.heap.size + 1 < w1.heap.size) r3)))
  first | refine wp_gen ?_ | refine calls_gen ?_
  intro W1 hW1
  have hw1 : Below w.heap.size w W1 := by rw [hW1]; go_grown
  have hz1 : w.heap.size + 1 + 1 ≤ W1.heap.size := by rw [hW1]; go_size
  have g0 : W1.cell? ⟨w.heap.size, 0, none⟩ = some (.int .u32 p.toNat) := by rw [hW1]; first | go_cell | (go_simp; done) | (simp [hc, hf, hc0, hf0]; done) | (refine cell_past (by omega) ?_; rw [hc0 _ _ (by omega)]; first | go_cell | (go_simp; done)) | (refine frozen_past (by omega) ?_; rw [hf0 _ _ (by omega)]; first | (go_simp; done) | (simp; done)) | (refine keep_set ?_ (by (try simp only []); omega); first | assumption | (refine keep_set ?_ (by (try simp only []); omega); assumption))
  have g1 : W1.cell? ⟨w.heap.size, 1, none⟩ = some (.int .u32 m.toNat) := by rw [hW1]; first | go_cell | (go_simp; done) | (simp [hc, hf, hc0, hf0]; done) | (refine cell_past (by omega) ?_; rw [hc0 _ _ (by omega)]; first | go_cell | (go_simp; done)) | (refine frozen_past (by omega) ?_; rw [hf0 _ _ (by omega)]; first | (go_simp; done) | (simp; done)) | (refine keep_set ?_ (by (try simp only []); omega); first | assumption | (refine keep_set ?_ (by (try simp only []); omega); assumption))
  have g2 : W1.cell? ⟨w.heap.size + 1, 0, none⟩ = some (.int .u32 q.toNat) := by rw [hW1]; first | go_cell | (go_simp; done) | (simp [hc, hf, hc0, hf0]; done) | (refine cell_past (by omega) ?_; rw [hc0 _ _ (by omega)]; first | go_cell | (go_simp; done)) | (refine frozen_past (by omega) ?_; rw [hf0 _ _ (by omega)]; first | (go_simp; done) | (simp; done)) | (refine keep_set ?_ (by (try simp only []); omega); first | assumption | (refine keep_set ?_ (by (try simp only []); omega); assumption))
  have g3 : W1.cell? ⟨w.heap.size + 1, 1, none⟩ = some (.int .u32 n.toNat) := by rw [hW1]; first | go_cell | (go_simp; done) | (simp [hc, hf, hc0, hf0]; done) | (refine cell_past (by omega) ?_; rw [hc0 _ _ (by omega)]; first | go_cell | (go_simp; done)) | (refine frozen_past (by omega) ?_; rw [hf0 _ _ (by omega)]; first | (go_simp; done) | (simp; done)) | (refine keep_set ?_ (by (try simp only []); omega); first | assumption | (refine keep_set ?_ (by (try simp only []); omega); assumption))
  clear hW1
  clear hc hf hz hc0 hf0 hz0 h0 hw
  go_loopw [6, 5] (fun i o wr => ∃ k : Nat, k ≤ 24 ∧ i = .int .i64 (k : Int) ∧ o = .int .u32 (mix D 0#32 k).toNat ∧ wr.cell? ⟨w.heap.size, 0, none⟩ = some (.int .u32 p.toNat) ∧ wr.cell? ⟨w.heap.size, 1, none⟩ = some (.int .u32 m.toNat) ∧ wr.cell? ⟨w.heap.size + 1, 0, none⟩ = some (.int .u32 q.toNat) ∧ wr.cell? ⟨w.heap.size + 1, 1, none⟩ = some (.int .u32 n.toNat) ∧ Below w.heap.size w wr ∧ w.heap.size + 2 ≤ wr.heap.size) (fun i _ _ => 24 - (intOf i).toNat)
  case atStart => exact ⟨0, by omega, rfl, by rw [mix_zero]; rfl, g0, g1, g2, g3, hw1, by omega⟩
  case round =>
    clear g0 g1 g2 g3 hw1 hz1
    obtain ⟨k, hk, rfl, rfl, r0, r1, r2, r3, hw, hsz⟩ := hrel
    by_cases hlt : k < 24
    · have hg1 := rgv p m k hlt
      have hg2 := rgv q n k hlt
      rw [gV_of H1.out] at hg1
      rw [gV_of H2.out] at hg2
      have hb := HB.out k (by omega)
      generalize getV p m k = a at *
      generalize getV q n k = b at *
      have hbk := pow_bit k (by omega)
      have HBB := Lib.hid hb; clear hb
      by_cases hab : a = b
      · go_wp2_with fail
        refine wp_gen ?_
        intro W1 hW1
        have hw1 : Below w.heap.size w W1 := by rw [hW1]; go_grown
        have hz1 : wr.heap.size ≤ W1.heap.size := by rw [hW1]; go_size
        have c0 : W1.cell? ⟨w.heap.size, 0, none⟩ = some (.int .u32 p.toNat) := by rw [hW1]; first | assumption | go_cell | (go_simp; done) | exact cell_past (by first | assumption | omega) (by assumption)
        have c1 : W1.cell? ⟨w.heap.size, 1, none⟩ = some (.int .u32 m.toNat) := by rw [hW1]; first | assumption | go_cell | (go_simp; done) | exact cell_past (by first | assumption | omega) (by assumption)
        have c2 : W1.cell? ⟨w.heap.size + 1, 0, none⟩ = some (.int .u32 q.toNat) := by rw [hW1]; first | assumption | go_cell | (go_simp; done) | exact cell_past (by first | assumption | omega) (by assumption)
        have c3 : W1.cell? ⟨w.heap.size + 1, 1, none⟩ = some (.int .u32 n.toNat) := by rw [hW1]; first | assumption | go_cell | (go_simp; done) | exact cell_past (by first | assumption | omega) (by assumption)
        clear hW1
        have k0 := cell_regrown c0
        have k1 := cell_regrown c1
        have k2 := cell_regrown c2
        have k3 := cell_regrown c3
        refine wp_region_quiet_below (by kernel_rfl) (by kernel_rfl) ?_
        try simp only [List.append]
        repeat (go_big_quiet_step (first | (go_at_call 65; with_reducible exact Calls.regrown_of (hg1 _)) | (go_at_call 65; with_reducible exact Calls.regrown_of (hg2 _))))
        refine wpQuiet_nil ?_
        intro w2 hw2
        have hb : Below W1.heap.size W1 w2 := by obtain ⟨q, rfl⟩ := hw2; exact below_regrown _ _ _
        clear hw2
        clear k0 k1 k2 k3
        have hw := chain hw1 (by omega) hb
        obtain ⟨hc, hf, hz⟩ := bcell hb
        clear hb
        try have r0 : w2.cell? ⟨w.heap.size, 0, none⟩ = some (.int .u32 p.toNat) := (hc _ _ (by omega)).trans c0
        try have r1 : w2.cell? ⟨w.heap.size, 1, none⟩ = some (.int .u32 m.toNat) := (hc _ _ (by omega)).trans c1
        try have r2 : w2.cell? ⟨w.heap.size + 1, 0, none⟩ = some (.int .u32 q.toNat) := (hc _ _ (by omega)).trans c2
        try have r3 : w2.cell? ⟨w.heap.size + 1, 1, none⟩ = some (.int .u32 n.toNat) := (hc _ _ (by omega)).trans c3
        go_wp2_with fail
        go_roundw
        case rel => exact ⟨k + 1, by omega, by go_num, by rw [mix_keep D 0#32 k (by rw [HBB.out, hab]; simp)], r0, r1, r2, r3, hw, by omega⟩
        case measure => simp [intOf]; omega
      · have hne : (a == b) = false := by simpa using hab
        have hne2 : (a != b) = true := by simpa using hab
        have hmb := mix_bit D 0#32 k (by omega) (by rw [HBB.out]; simpa using hab) rfl
        have hor := b_or (mix D 0#32 k) (bit k)
        rw [hmb] at hor
        clear hmb
        obtain ⟨M1, hM1⟩ : ∃ M1, mix D 0#32 (k + 1) = M1 := ⟨_, rfl⟩
        rw [hM1] at hor
        have HM := Lib.hid hM1; clear hM1
        go_wp2_with fail
        refine wp_gen ?_
        intro W1 hW1
        have hw1 : Below w.heap.size w W1 := by rw [hW1]; go_grown
        have hz1 : wr.heap.size ≤ W1.heap.size := by rw [hW1]; go_size
        have c0 : W1.cell? ⟨w.heap.size, 0, none⟩ = some (.int .u32 p.toNat) := by rw [hW1]; first | assumption | go_cell | (go_simp; done) | exact cell_past (by first | assumption | omega) (by assumption)
        have c1 : W1.cell? ⟨w.heap.size, 1, none⟩ = some (.int .u32 m.toNat) := by rw [hW1]; first | assumption | go_cell | (go_simp; done) | exact cell_past (by first | assumption | omega) (by assumption)
        have c2 : W1.cell? ⟨w.heap.size + 1, 0, none⟩ = some (.int .u32 q.toNat) := by rw [hW1]; first | assumption | go_cell | (go_simp; done) | exact cell_past (by first | assumption | omega) (by assumption)
        have c3 : W1.cell? ⟨w.heap.size + 1, 1, none⟩ = some (.int .u32 n.toNat) := by rw [hW1]; first | assumption | go_cell | (go_simp; done) | exact cell_past (by first | assumption | omega) (by assumption)
        clear hW1
        have k0 := cell_regrown c0
        have k1 := cell_regrown c1
        have k2 := cell_regrown c2
        have k3 := cell_regrown c3
        refine wp_region_quiet_below (by kernel_rfl) (by kernel_rfl) ?_
        try simp only [List.append]
        repeat (go_big_quiet_step (first | (go_at_call 65; with_reducible exact Calls.regrown_of (hg1 _)) | (go_at_call 65; with_reducible exact Calls.regrown_of (hg2 _))))
        refine wpQuiet_nil ?_
        intro w2 hw2
        have hb : Below W1.heap.size W1 w2 := by obtain ⟨q, rfl⟩ := hw2; exact below_regrown _ _ _
        clear hw2
        clear k0 k1 k2 k3
        have hw := chain hw1 (by omega) hb
        obtain ⟨hc, hf, hz⟩ := bcell hb
        clear hb
        try have r0 : w2.cell? ⟨w.heap.size, 0, none⟩ = some (.int .u32 p.toNat) := (hc _ _ (by omega)).trans c0
        try have r1 : w2.cell? ⟨w.heap.size, 1, none⟩ = some (.int .u32 m.toNat) := (hc _ _ (by omega)).trans c1
        try have r2 : w2.cell? ⟨w.heap.size + 1, 0, none⟩ = some (.int .u32 q.toNat) := (hc _ _ (by omega)).trans c2
        try have r3 : w2.cell? ⟨w.heap.size + 1, 1, none⟩ = some (.int .u32 n.toNat) := (hc _ _ (by omega)).trans c3
        go_wp2_with fail
        go_roundw
        case rel => exact ⟨k + 1, by omega, by go_num, by rw [HM.out], r0, r1, r2, r3, hw, by omega⟩
        case measure => simp [intOf]; omega
    · obtain rfl : k = 24 := by omega
      rw [HE.out]
      go_wp2_with fail
      go_returns
      exact ⟨rfl, hw⟩
set_option maxHeartbeats 4000000 in
theorem rsat_bad (p m q n : BitVec 32) (hv : (vld p m && vld q n) = false) (w : World) : Gives 82 #[sn p.toNat m.toNat, sn q.toNat n.toNat] w (.bool false) := by
  unfold Gives
  rcases h1 : vld p m with _ | _
  · have H1 := Lib.hid h1; clear h1 hv
    go_enter Tryd.func82, Tryd.ntmps82
    go_wp2_with (go_at_call 59; with_reducible refine Gives.then (Gives.eq (rvalid_any p m _) rfl (by rw [H1.out])) ?_; intro w1 hb; have hw := chain (B := w.heap.size) (a := w) (by go_grown) (by go_size) hb; (first | have h0 := chain (h0.trans (by go_grown)) (by go_size) hb | have h0 := hb); obtain ⟨hc, hf, hz⟩ := bcell hb; obtain ⟨hc0, hf0, hz0⟩ := bcell h0; clear hb; (try simp only [World.size_alloc, World.size_setCell, World.size_drew] at hc hf hz hc0 hf0 hz0); (first | (have hy := (hc _ _ (by omega)).trans r0; have r0 := hy; clear hy) | (have hy := (hc _ _ (by omega)).trans (cell_past (by omega) r0); have r0 := hy; clear hy) | skip); (first | (have hy := (hc _ _ (by omega)).trans r1; have r1 := hy; clear hy) | (have hy := (hc _ _ (by omega)).trans (cell_past (by omega) r1); have r1 := hy; clear hy) | skip); (first | (have hy := (hc _ _ (by omega)).trans r2; have r2 := hy; clear hy) | (have hy := (hc _ _ (by omega)).trans (cell_past (by omega) r2); have r2 := hy; clear hy) | skip); (first | (have hy := (hc _ _ (by omega)).trans r3; have r3 := hy; clear hy) | (have hy := (hc _ _ (by omega)).trans (cell_past (by omega) r3); have r3 := hy; clear hy) | skip); (try have s0 := fun X => cell_past (X := X) (by omega : w.heap.size < w1.heap.size) r0); (try have s1 := fun X => cell_past (X := X) (by omega : w.heap.size < w1.heap.size) r1); (try have s2 := fun X => cell_past (X := X) (by omega : w.heap.size + 1 < w1.heap.size) r2); (try have s3 := fun X => cell_past (X := X) (by omega : w.heap.size + 1 < w1.heap.size) r3))
    go_returns
    exact ⟨rfl, hw⟩
  · rw [h1, Bool.true_and] at hv
    have H1 := Lib.hid h1; have H2 := Lib.hid hv; clear h1 hv
    go_enter Tryd.func82, Tryd.ntmps82
    go_wp2_with (first | (go_at_call 59; with_reducible refine Gives.then (Gives.eq (rvalid_any p m _) rfl (by rw [H1.out])) ?_; intro w1 hb; have hw := chain (B := w.heap.size) (a := w) (by go_grown) (by go_size) hb; (first | have h0 := chain (h0.trans (by go_grown)) (by go_size) hb | have h0 := hb); obtain ⟨hc, hf, hz⟩ := bcell hb; obtain ⟨hc0, hf0, hz0⟩ := bcell h0; clear hb; (try simp only [World.size_alloc, World.size_setCell, World.size_drew] at hc hf hz hc0 hf0 hz0); (first | (have hy := (hc _ _ (by omega)).trans r0; have r0 := hy; clear hy) | (have hy := (hc _ _ (by omega)).trans (cell_past (by omega) r0); have r0 := hy; clear hy) | skip); (first | (have hy := (hc _ _ (by omega)).trans r1; have r1 := hy; clear hy) | (have hy := (hc _ _ (by omega)).trans (cell_past (by omega) r1); have r1 := hy; clear hy) | skip); (first | (have hy := (hc _ _ (by omega)).trans r2; have r2 := hy; clear hy) | (have hy := (hc _ _ (by omega)).trans (cell_past (by omega) r2); have r2 := hy; clear hy) | skip); (first | (have hy := (hc _ _ (by omega)).trans r3; have r3 := hy; clear hy) | (have hy := (hc _ _ (by omega)).trans (cell_past (by omega) r3); have r3 := hy; clear hy) | skip); (try have s0 := fun X => cell_past (X := X) (by omega : w.heap.size < w1.heap.size) r0); (try have s1 := fun X => cell_past (X := X) (by omega : w.heap.size < w1.heap.size) r1); (try have s2 := fun X => cell_past (X := X) (by omega : w.heap.size + 1 < w1.heap.size) r2); (try have s3 := fun X => cell_past (X := X) (by omega : w.heap.size + 1 < w1.heap.size) r3)) | (go_at_call 59; with_reducible refine Gives.then (Gives.eq (rvalid_any q n _) rfl (by rw [H2.out])) ?_; intro w1 hb; have hw := chain (B := w.heap.size) (a := w) (by go_grown) (by go_size) hb; (first | have h0 := chain (h0.trans (by go_grown)) (by go_size) hb | have h0 := hb); obtain ⟨hc, hf, hz⟩ := bcell hb; obtain ⟨hc0, hf0, hz0⟩ := bcell h0; clear hb; (try simp only [World.size_alloc, World.size_setCell, World.size_drew] at hc hf hz hc0 hf0 hz0); (first | (have hy := (hc _ _ (by omega)).trans r0; have r0 := hy; clear hy) | (have hy := (hc _ _ (by omega)).trans (cell_past (by omega) r0); have r0 := hy; clear hy) | skip); (first | (have hy := (hc _ _ (by omega)).trans r1; have r1 := hy; clear hy) | (have hy := (hc _ _ (by omega)).trans (cell_past (by omega) r1); have r1 := hy; clear hy) | skip); (first | (have hy := (hc _ _ (by omega)).trans r2; have r2 := hy; clear hy) | (have hy := (hc _ _ (by omega)).trans (cell_past (by omega) r2); have r2 := hy; clear hy) | skip); (first | (have hy := (hc _ _ (by omega)).trans r3; have r3 := hy; clear hy) | (have hy := (hc _ _ (by omega)).trans (cell_past (by omega) r3); have r3 := hy; clear hy) | skip); (try have s0 := fun X => cell_past (X := X) (by omega : w.heap.size < w1.heap.size) r0); (try have s1 := fun X => cell_past (X := X) (by omega : w.heap.size < w1.heap.size) r1); (try have s2 := fun X => cell_past (X := X) (by omega : w.heap.size + 1 < w1.heap.size) r2); (try have s3 := fun X => cell_past (X := X) (by omega : w.heap.size + 1 < w1.heap.size) r3)))
    go_returns
    exact ⟨rfl, hw⟩
theorem sat_yes {p m q n : BitVec 32} (h1 : vld p m = true) (h2 : vld q n = true) (h : ∀ j, j < 24 → getV q n j = 0 ∨ getV p m j = getV q n j) : ((p &&& q == q) && (m &&& n == n)) = true := by
  rw [Bool.and_eq_true, beq_iff_eq, beq_iff_eq]
  have key : ∀ j, j < 32 → (p.getLsbD j && q.getLsbD j) = q.getLsbD j ∧ (m.getLsbD j && n.getLsbD j) = n.getLsbD j := fun j hj => by
    rcases Nat.lt_or_ge j 24 with h24 | h24
    · obtain ⟨a1, a2⟩ := getV_bits h1 j hj
      obtain ⟨b1, b2⟩ := getV_bits h2 j hj
      rw [a1, a2, b1, b2]
      rcases h j h24 with e | e
      · simp [e]
      · simp [e]
    · obtain ⟨b1, b2⟩ := vld_high h2 j hj h24
      simp [b1, b2]
  exact ⟨bv_ext fun j hj => by rw [BitVec.getLsbD_and]; exact (key j hj).1, bv_ext fun j hj => by rw [BitVec.getLsbD_and]; exact (key j hj).2⟩
theorem sat_no {p m q n : BitVec 32} (h1 : vld p m = true) (h2 : vld q n = true) (j : Nat) (hj : j < 24) (h : getV q n j ≠ 0) (h' : getV p m j ≠ getV q n j) : ((p &&& q == q) && (m &&& n == n)) = false := by
  rw [Bool.eq_false_iff]
  intro hs
  rw [Bool.and_eq_true, beq_iff_eq, beq_iff_eq] at hs
  have e1 := congrArg (fun z => z.getLsbD j) hs.1
  have e2 := congrArg (fun z => z.getLsbD j) hs.2
  obtain ⟨a1, a2⟩ := getV_bits h1 j (by omega)
  obtain ⟨b1, b2⟩ := getV_bits h2 j (by omega)
  simp only [BitVec.getLsbD_and, a1, a2, b1, b2] at e1 e2
  revert e1 e2 h h'
  rcases getV_three p m j with e | e | e <;> rcases getV_three q n j with f | f | f <;> simp [e, f]
theorem sat_more {g1 g2 : Nat → Int} {k : Nat} (h : ∀ j, j < k → g2 j = 0 ∨ g1 j = g2 j) (hk : g2 k = 0 ∨ g1 k = g2 k) : ∀ j, j < k + 1 → g2 j = 0 ∨ g1 j = g2 j := fun j hj => by
  rcases Nat.lt_or_ge j k with h1 | h1
  · exact h j h1
  · obtain rfl : j = k := by omega
    exact hk
set_option maxHeartbeats 4000000 in
theorem rsat_ok (p m q n : BitVec 32) (S : Bool) (h1 : vld p m = true) (h2 : vld q n = true) (hS : ((p &&& q == q) && (m &&& n == n)) = S) (w : World) : Gives 82 #[sn p.toNat m.toNat, sn q.toNat n.toNat] w (.bool S) := by
  unfold Gives
  have hyes := sat_yes (p := p) (m := m) (q := q) (n := n) h1 h2
  have hno := sat_no (p := p) (m := m) (q := q) (n := n) h1 h2
  rw [hS] at hyes hno
  have HY := Lib.hid hyes; have HN := Lib.hid hno; clear hyes hno hS
  have H1 := Lib.hid h1; have H2 := Lib.hid h2; clear h1 h2
  go_enter Tryd.func82, Tryd.ntmps82
  go_wp2_with (first | (go_at_call 59; with_reducible refine Gives.then (Gives.eq (rvalid_any p m _) rfl (by rw [H1.out])) ?_; intro w1 hb; have hw := chain (B := w.heap.size) (a := w) (by go_grown) (by go_size) hb; (first | have h0 := chain (h0.trans (by go_grown)) (by go_size) hb | have h0 := hb); obtain ⟨hc, hf, hz⟩ := bcell hb; obtain ⟨hc0, hf0, hz0⟩ := bcell h0; clear hb; (try simp only [World.size_alloc, World.size_setCell, World.size_drew] at hc hf hz hc0 hf0 hz0); (first | (have hy := (hc _ _ (by omega)).trans r0; have r0 := hy; clear hy) | (have hy := (hc _ _ (by omega)).trans (cell_past (by omega) r0); have r0 := hy; clear hy) | skip); (first | (have hy := (hc _ _ (by omega)).trans r1; have r1 := hy; clear hy) | (have hy := (hc _ _ (by omega)).trans (cell_past (by omega) r1); have r1 := hy; clear hy) | skip); (first | (have hy := (hc _ _ (by omega)).trans r2; have r2 := hy; clear hy) | (have hy := (hc _ _ (by omega)).trans (cell_past (by omega) r2); have r2 := hy; clear hy) | skip); (first | (have hy := (hc _ _ (by omega)).trans r3; have r3 := hy; clear hy) | (have hy := (hc _ _ (by omega)).trans (cell_past (by omega) r3); have r3 := hy; clear hy) | skip); (try have s0 := fun X => cell_past (X := X) (by omega : w.heap.size < w1.heap.size) r0); (try have s1 := fun X => cell_past (X := X) (by omega : w.heap.size < w1.heap.size) r1); (try have s2 := fun X => cell_past (X := X) (by omega : w.heap.size + 1 < w1.heap.size) r2); (try have s3 := fun X => cell_past (X := X) (by omega : w.heap.size + 1 < w1.heap.size) r3)) | (go_at_call 59; with_reducible refine Gives.then (Gives.eq (rvalid_any q n _) rfl (by rw [H2.out])) ?_; intro w1 hb; have hw := chain (B := w.heap.size) (a := w) (by go_grown) (by go_size) hb; (first | have h0 := chain (h0.trans (by go_grown)) (by go_size) hb | have h0 := hb); obtain ⟨hc, hf, hz⟩ := bcell hb; obtain ⟨hc0, hf0, hz0⟩ := bcell h0; clear hb; (try simp only [World.size_alloc, World.size_setCell, World.size_drew] at hc hf hz hc0 hf0 hz0); (first | (have hy := (hc _ _ (by omega)).trans r0; have r0 := hy; clear hy) | (have hy := (hc _ _ (by omega)).trans (cell_past (by omega) r0); have r0 := hy; clear hy) | skip); (first | (have hy := (hc _ _ (by omega)).trans r1; have r1 := hy; clear hy) | (have hy := (hc _ _ (by omega)).trans (cell_past (by omega) r1); have r1 := hy; clear hy) | skip); (first | (have hy := (hc _ _ (by omega)).trans r2; have r2 := hy; clear hy) | (have hy := (hc _ _ (by omega)).trans (cell_past (by omega) r2); have r2 := hy; clear hy) | skip); (first | (have hy := (hc _ _ (by omega)).trans r3; have r3 := hy; clear hy) | (have hy := (hc _ _ (by omega)).trans (cell_past (by omega) r3); have r3 := hy; clear hy) | skip); (try have s0 := fun X => cell_past (X := X) (by omega : w.heap.size < w1.heap.size) r0); (try have s1 := fun X => cell_past (X := X) (by omega : w.heap.size < w1.heap.size) r1); (try have s2 := fun X => cell_past (X := X) (by omega : w.heap.size + 1 < w1.heap.size) r2); (try have s3 := fun X => cell_past (X := X) (by omega : w.heap.size + 1 < w1.heap.size) r3)))
  first | refine wp_gen ?_ | refine calls_gen ?_
  intro W1 hW1
  have hw1 : Below w.heap.size w W1 := by rw [hW1]; go_grown
  have hz1 : w.heap.size + 1 + 1 ≤ W1.heap.size := by rw [hW1]; go_size
  have g0 : W1.cell? ⟨w.heap.size, 0, none⟩ = some (.int .u32 p.toNat) := by rw [hW1]; first | go_cell | (go_simp; done) | (simp [hc, hf, hc0, hf0]; done) | (refine cell_past (by omega) ?_; rw [hc0 _ _ (by omega)]; first | go_cell | (go_simp; done)) | (refine frozen_past (by omega) ?_; rw [hf0 _ _ (by omega)]; first | (go_simp; done) | (simp; done)) | (refine keep_set ?_ (by (try simp only []); omega); first | assumption | (refine keep_set ?_ (by (try simp only []); omega); assumption))
  have g1 : W1.cell? ⟨w.heap.size, 1, none⟩ = some (.int .u32 m.toNat) := by rw [hW1]; first | go_cell | (go_simp; done) | (simp [hc, hf, hc0, hf0]; done) | (refine cell_past (by omega) ?_; rw [hc0 _ _ (by omega)]; first | go_cell | (go_simp; done)) | (refine frozen_past (by omega) ?_; rw [hf0 _ _ (by omega)]; first | (go_simp; done) | (simp; done)) | (refine keep_set ?_ (by (try simp only []); omega); first | assumption | (refine keep_set ?_ (by (try simp only []); omega); assumption))
  have g2 : W1.cell? ⟨w.heap.size + 1, 0, none⟩ = some (.int .u32 q.toNat) := by rw [hW1]; first | go_cell | (go_simp; done) | (simp [hc, hf, hc0, hf0]; done) | (refine cell_past (by omega) ?_; rw [hc0 _ _ (by omega)]; first | go_cell | (go_simp; done)) | (refine frozen_past (by omega) ?_; rw [hf0 _ _ (by omega)]; first | (go_simp; done) | (simp; done)) | (refine keep_set ?_ (by (try simp only []); omega); first | assumption | (refine keep_set ?_ (by (try simp only []); omega); assumption))
  have g3 : W1.cell? ⟨w.heap.size + 1, 1, none⟩ = some (.int .u32 n.toNat) := by rw [hW1]; first | go_cell | (go_simp; done) | (simp [hc, hf, hc0, hf0]; done) | (refine cell_past (by omega) ?_; rw [hc0 _ _ (by omega)]; first | go_cell | (go_simp; done)) | (refine frozen_past (by omega) ?_; rw [hf0 _ _ (by omega)]; first | (go_simp; done) | (simp; done)) | (refine keep_set ?_ (by (try simp only []); omega); first | assumption | (refine keep_set ?_ (by (try simp only []); omega); assumption))
  clear hW1
  clear hc hf hz hw
  go_loopw [5] (fun i wr => ∃ k : Nat, k ≤ 24 ∧ i = .int .i64 (k : Int) ∧ (∀ j, j < k → getV q n j = 0 ∨ getV p m j = getV q n j) ∧ wr.cell? ⟨w.heap.size, 0, none⟩ = some (.int .u32 p.toNat) ∧ wr.cell? ⟨w.heap.size, 1, none⟩ = some (.int .u32 m.toNat) ∧ wr.cell? ⟨w.heap.size + 1, 0, none⟩ = some (.int .u32 q.toNat) ∧ wr.cell? ⟨w.heap.size + 1, 1, none⟩ = some (.int .u32 n.toNat) ∧ Below w.heap.size w wr ∧ w.heap.size + 2 ≤ wr.heap.size) (fun i _ => 24 - (intOf i).toNat)
  case atStart => exact ⟨0, by omega, rfl, fun j hj => absurd hj (by omega), g0, g1, g2, g3, hw1, by omega⟩
  case round =>
    clear g0 g1 g2 g3 hw1 hz1
    obtain ⟨k, hk, rfl, hall, r0, r1, r2, r3, hw, hsz⟩ := hrel
    by_cases hlt : k < 24
    · have hg1 := rgv p m k hlt
      have hg2 := rgv q n k hlt
      rw [gV_of H1.out] at hg1
      rw [gV_of H2.out] at hg2
      have hmore := sat_more hall
      have hn := HN.out k hlt
      generalize ha : getV p m k = a at *
      generalize hb : getV q n k = b at *
      have HM := Lib.hid hmore; have HNN := Lib.hid hn; clear hall hmore hn ha hb
      by_cases hb0 : b = 0
      · subst hb0
        go_wp2_with fail
        (go_at_call 65; with_reducible refine Gives.then (hg2 _) ?_; intro w1 hb; have hw := chain (B := w.heap.size) (a := w) (by go_grown) (by go_size) hb; obtain ⟨hc, hf, hz⟩ := bcell hb; clear hb; (try simp only [World.size_alloc, World.size_setCell, World.size_drew] at hc hf hz); (first | (have hy := (hc _ _ (by omega)).trans r0; have r0 := hy; clear hy) | (have hy := (hc _ _ (by omega)).trans (cell_past (by omega) r0); have r0 := hy; clear hy) | skip); (first | (have hy := (hc _ _ (by omega)).trans r1; have r1 := hy; clear hy) | (have hy := (hc _ _ (by omega)).trans (cell_past (by omega) r1); have r1 := hy; clear hy) | skip); (first | (have hy := (hc _ _ (by omega)).trans r2; have r2 := hy; clear hy) | (have hy := (hc _ _ (by omega)).trans (cell_past (by omega) r2); have r2 := hy; clear hy) | skip); (first | (have hy := (hc _ _ (by omega)).trans r3; have r3 := hy; clear hy) | (have hy := (hc _ _ (by omega)).trans (cell_past (by omega) r3); have r3 := hy; clear hy) | skip); (try have s0 := fun X => cell_past (X := X) (by omega : w.heap.size < w1.heap.size) r0); (try have s1 := fun X => cell_past (X := X) (by omega : w.heap.size < w1.heap.size) r1); (try have s2 := fun X => cell_past (X := X) (by omega : w.heap.size + 1 < w1.heap.size) r2); (try have s3 := fun X => cell_past (X := X) (by omega : w.heap.size + 1 < w1.heap.size) r3))
        go_wp2_with fail
        go_roundw
        case rel => exact ⟨k + 1, by omega, by go_num, HM.out (by simp), r0, r1, r2, r3, hw, by omega⟩
        case measure => simp [intOf]; omega
      · have hb1 : (b == 0) = false := by simpa using hb0
        have hb2 : (b != 0) = true := by simpa using hb0
        by_cases hab : a = b
        · subst hab
          go_wp2_with fail
          (go_at_call 65; with_reducible refine Gives.then (hg2 _) ?_; intro w1 hb; have hw := chain (B := w.heap.size) (a := w) (by go_grown) (by go_size) hb; obtain ⟨hc, hf, hz⟩ := bcell hb; clear hb; (try simp only [World.size_alloc, World.size_setCell, World.size_drew] at hc hf hz); (first | (have hy := (hc _ _ (by omega)).trans r0; have r0 := hy; clear hy) | (have hy := (hc _ _ (by omega)).trans (cell_past (by omega) r0); have r0 := hy; clear hy) | skip); (first | (have hy := (hc _ _ (by omega)).trans r1; have r1 := hy; clear hy) | (have hy := (hc _ _ (by omega)).trans (cell_past (by omega) r1); have r1 := hy; clear hy) | skip); (first | (have hy := (hc _ _ (by omega)).trans r2; have r2 := hy; clear hy) | (have hy := (hc _ _ (by omega)).trans (cell_past (by omega) r2); have r2 := hy; clear hy) | skip); (first | (have hy := (hc _ _ (by omega)).trans r3; have r3 := hy; clear hy) | (have hy := (hc _ _ (by omega)).trans (cell_past (by omega) r3); have r3 := hy; clear hy) | skip); (try have s0 := fun X => cell_past (X := X) (by omega : w.heap.size < w1.heap.size) r0); (try have s1 := fun X => cell_past (X := X) (by omega : w.heap.size < w1.heap.size) r1); (try have s2 := fun X => cell_past (X := X) (by omega : w.heap.size + 1 < w1.heap.size) r2); (try have s3 := fun X => cell_past (X := X) (by omega : w.heap.size + 1 < w1.heap.size) r3))
          go_wp2_with fail
          (go_at_call 65; with_reducible refine Gives.then (hg1 _) ?_; intro w1 hb; have hw := chain (B := w.heap.size) (a := w) (by go_grown) (by go_size) hb; obtain ⟨hc, hf, hz⟩ := bcell hb; clear hb; (try simp only [World.size_alloc, World.size_setCell, World.size_drew] at hc hf hz); (first | (have hy := (hc _ _ (by omega)).trans r0; have r0 := hy; clear hy) | (have hy := (hc _ _ (by omega)).trans (cell_past (by omega) r0); have r0 := hy; clear hy) | skip); (first | (have hy := (hc _ _ (by omega)).trans r1; have r1 := hy; clear hy) | (have hy := (hc _ _ (by omega)).trans (cell_past (by omega) r1); have r1 := hy; clear hy) | skip); (first | (have hy := (hc _ _ (by omega)).trans r2; have r2 := hy; clear hy) | (have hy := (hc _ _ (by omega)).trans (cell_past (by omega) r2); have r2 := hy; clear hy) | skip); (first | (have hy := (hc _ _ (by omega)).trans r3; have r3 := hy; clear hy) | (have hy := (hc _ _ (by omega)).trans (cell_past (by omega) r3); have r3 := hy; clear hy) | skip); (try have s0 := fun X => cell_past (X := X) (by omega : w.heap.size < w1.heap.size) r0); (try have s1 := fun X => cell_past (X := X) (by omega : w.heap.size < w1.heap.size) r1); (try have s2 := fun X => cell_past (X := X) (by omega : w.heap.size + 1 < w1.heap.size) r2); (try have s3 := fun X => cell_past (X := X) (by omega : w.heap.size + 1 < w1.heap.size) r3))
          go_wp2_with fail
          go_roundw
          case rel => exact ⟨k + 1, by omega, by go_num, HM.out (by simp), r0, r1, r2, r3, hw, by omega⟩
          case measure => simp [intOf]; omega
        · have ha1 : (a == b) = false := by simpa using hab
          have ha2 : (a != b) = true := by simpa using hab
          go_wp2_with fail
          (go_at_call 65; with_reducible refine Gives.then (hg2 _) ?_; intro w1 hb; have hw := chain (B := w.heap.size) (a := w) (by go_grown) (by go_size) hb; obtain ⟨hc, hf, hz⟩ := bcell hb; clear hb; (try simp only [World.size_alloc, World.size_setCell, World.size_drew] at hc hf hz); (first | (have hy := (hc _ _ (by omega)).trans r0; have r0 := hy; clear hy) | (have hy := (hc _ _ (by omega)).trans (cell_past (by omega) r0); have r0 := hy; clear hy) | skip); (first | (have hy := (hc _ _ (by omega)).trans r1; have r1 := hy; clear hy) | (have hy := (hc _ _ (by omega)).trans (cell_past (by omega) r1); have r1 := hy; clear hy) | skip); (first | (have hy := (hc _ _ (by omega)).trans r2; have r2 := hy; clear hy) | (have hy := (hc _ _ (by omega)).trans (cell_past (by omega) r2); have r2 := hy; clear hy) | skip); (first | (have hy := (hc _ _ (by omega)).trans r3; have r3 := hy; clear hy) | (have hy := (hc _ _ (by omega)).trans (cell_past (by omega) r3); have r3 := hy; clear hy) | skip); (try have s0 := fun X => cell_past (X := X) (by omega : w.heap.size < w1.heap.size) r0); (try have s1 := fun X => cell_past (X := X) (by omega : w.heap.size < w1.heap.size) r1); (try have s2 := fun X => cell_past (X := X) (by omega : w.heap.size + 1 < w1.heap.size) r2); (try have s3 := fun X => cell_past (X := X) (by omega : w.heap.size + 1 < w1.heap.size) r3))
          go_wp2_with fail
          (go_at_call 65; with_reducible refine Gives.then (hg1 _) ?_; intro w1 hb; have hw := chain (B := w.heap.size) (a := w) (by go_grown) (by go_size) hb; obtain ⟨hc, hf, hz⟩ := bcell hb; clear hb; (try simp only [World.size_alloc, World.size_setCell, World.size_drew] at hc hf hz); (first | (have hy := (hc _ _ (by omega)).trans r0; have r0 := hy; clear hy) | (have hy := (hc _ _ (by omega)).trans (cell_past (by omega) r0); have r0 := hy; clear hy) | skip); (first | (have hy := (hc _ _ (by omega)).trans r1; have r1 := hy; clear hy) | (have hy := (hc _ _ (by omega)).trans (cell_past (by omega) r1); have r1 := hy; clear hy) | skip); (first | (have hy := (hc _ _ (by omega)).trans r2; have r2 := hy; clear hy) | (have hy := (hc _ _ (by omega)).trans (cell_past (by omega) r2); have r2 := hy; clear hy) | skip); (first | (have hy := (hc _ _ (by omega)).trans r3; have r3 := hy; clear hy) | (have hy := (hc _ _ (by omega)).trans (cell_past (by omega) r3); have r3 := hy; clear hy) | skip); (try have s0 := fun X => cell_past (X := X) (by omega : w.heap.size < w1.heap.size) r0); (try have s1 := fun X => cell_past (X := X) (by omega : w.heap.size < w1.heap.size) r1); (try have s2 := fun X => cell_past (X := X) (by omega : w.heap.size + 1 < w1.heap.size) r2); (try have s3 := fun X => cell_past (X := X) (by omega : w.heap.size + 1 < w1.heap.size) r3))
          go_wp2_with fail
          go_returns
          exact ⟨by (rw [HNN.out hb0 hab]; try rfl), hw⟩
    · obtain rfl : k = 24 := by omega
      have hfin := HY.out hall
      have HF := Lib.hid hfin; clear hfin hall
      go_wp2_with fail
      go_returns
      exact ⟨by (rw [HF.out]; try rfl), hw⟩
end Go.Proofs.YtpnmapfabjdfjaaDoor

/-
  The specification's Meet: what it returns.
-/
namespace Go.Proofs.YtpnmapfabjdfjaaDoor
open Go.RowKit Go.Sort
attribute [local go_sem ↓] snd_eql snd_neq
theorem frozen_past {w : World} {X : Obj} {b o : Nat} (hl : b < w.heap.size) (h : w.frozen? ⟨b, o, none⟩ = false) : (w.alloc X).frozen? ⟨b, o, none⟩ = false := (((Below.refl _ w).alloc (Nat.le_refl _) X).frozen (p := ⟨b, o, none⟩) hl).trans h
/-- A block that holds two numbers. -/
def Two (w : World) (b : Nat) (x y : Int) : Prop := w.cell? ⟨b, 0, none⟩ = some (.int .u32 x) ∧ w.cell? ⟨b, 1, none⟩ = some (.int .u32 y)
def Thaw (w : World) (b : Nat) : Prop := w.frozen? ⟨b, 0, none⟩ = false ∧ w.frozen? ⟨b, 1, none⟩ = false
theorem Two.other {w : World} {b A : Nat} {x y : Int} {u v : Value} (h : Two w b x y) (hne : b ≠ A) : Two ((w.setCell ⟨A, 0, none⟩ u).setCell ⟨A, 1, none⟩ v) b x y :=
  ⟨by rw [World.cell?_setCell_far _ _ _ _ (by simpa using Ne.symm hne), World.cell?_setCell_far _ _ _ _ (by simpa using Ne.symm hne)]; exact h.1, by rw [World.cell?_setCell_far _ _ _ _ (by simpa using Ne.symm hne), World.cell?_setCell_far _ _ _ _ (by simpa using Ne.symm hne)]; exact h.2⟩
theorem Two.same {w : World} {A : Nat} {x y u v : Int} (h : Two w A x y) : Two ((w.setCell ⟨A, 0, none⟩ (.int .u32 u)).setCell ⟨A, 1, none⟩ (.int .u32 v)) A u v := by
  refine ⟨?_, ?_⟩
  · exact (World.cell?_setCell_other _ ⟨A, 1, none⟩ ⟨A, 0, none⟩ _ (by simp)).trans (World.cell?_setCell_same' _ _ _ (by rw [h.1]; rfl))
  · exact World.cell?_setCell_same' _ _ _ (by rw [World.cell?_setCell_other _ ⟨A, 0, none⟩ ⟨A, 1, none⟩ _ (by simp), h.2]; rfl)
theorem Thaw.set {w : World} {b A : Nat} {u v : Value} (h : Thaw w b) : Thaw ((w.setCell ⟨A, 0, none⟩ u).setCell ⟨A, 1, none⟩ v) b :=
  ⟨by rw [World.frozen?_setCell, World.frozen?_setCell]; exact h.1, by rw [World.frozen?_setCell, World.frozen?_setCell]; exact h.2⟩
theorem below_set2 {B A : Nat} {a w : World} {u v : Value} (h : Below B a w) (hB : B ≤ A) : Below B a ((w.setCell ⟨A, 0, none⟩ u).setCell ⟨A, 1, none⟩ v) := keep_b_set (keep_b_set h hB) hB
theorem size_set2 {n A : Nat} {w : World} {u v : Value} (h : n ≤ w.heap.size) : n ≤ ((w.setCell ⟨A, 0, none⟩ u).setCell ⟨A, 1, none⟩ v).heap.size := keep_size2 (keep_size2 h)
/-- Both have this value. -/
def sameP (F : BitVec 32) (M : BitVec 32) (g1 g2 : Nat → Int) : Prop := ∀ k, k < 24 → F.getLsbD k = (decide (g1 k = g2 k) && decide (g1 k = 1)) ∧ M.getLsbD k = (decide (g1 k = g2 k) && decide (g1 k = -1))
set_option maxHeartbeats 4000000 in
theorem rmeet_of (p m q n F M : BitVec 32) (hB : sameP F M (gV p m) (gV q n)) (hF : ∀ j, j < 32 → 24 ≤ j → F.getLsbD j = false ∧ M.getLsbD j = false) (w : World) : Gives 81 #[sn p.toNat m.toNat, sn q.toNat n.toNat] w (sn F.toNat M.toNat) := by
  unfold Gives
  have hend : mix F 0#32 24 = F ∧ mix M 0#32 24 = M := ⟨mix_all fun j hj h24 => by rw [(hF j hj h24).1]; simp, mix_all fun j hj h24 => by rw [(hF j hj h24).2]; simp⟩
  have HE := Lib.hid hend; have HB := Lib.hid hB; clear hend hB hF
  go_enter Tryd.func81, Tryd.ntmps81
  go_wp2_with fail
  first | refine wp_gen ?_ | refine calls_gen ?_
  intro W1 hW1
  have hw1 : Below w.heap.size w W1 := by rw [hW1]; go_grown
  have hz1 : w.heap.size + 1 + 1 + 1 + 1 ≤ W1.heap.size := by rw [hW1]; go_size
  have g0 : W1.cell? ⟨w.heap.size, 0, none⟩ = some (.int .u32 p.toNat) := by rw [hW1]; first | go_cell | (go_simp; done) | (simp [hc, hf, hc0, hf0]; done) | (refine cell_past (by omega) ?_; rw [hc0 _ _ (by omega)]; first | go_cell | (go_simp; done)) | (refine frozen_past (by omega) ?_; rw [hf0 _ _ (by omega)]; first | (go_simp; done) | (simp; done)) | (refine keep_set ?_ (by (try simp only []); omega); first | assumption | (refine keep_set ?_ (by (try simp only []); omega); assumption))
  have g1 : W1.cell? ⟨w.heap.size, 1, none⟩ = some (.int .u32 m.toNat) := by rw [hW1]; first | go_cell | (go_simp; done) | (simp [hc, hf, hc0, hf0]; done) | (refine cell_past (by omega) ?_; rw [hc0 _ _ (by omega)]; first | go_cell | (go_simp; done)) | (refine frozen_past (by omega) ?_; rw [hf0 _ _ (by omega)]; first | (go_simp; done) | (simp; done)) | (refine keep_set ?_ (by (try simp only []); omega); first | assumption | (refine keep_set ?_ (by (try simp only []); omega); assumption))
  have g2 : W1.cell? ⟨w.heap.size + 1, 0, none⟩ = some (.int .u32 q.toNat) := by rw [hW1]; first | go_cell | (go_simp; done) | (simp [hc, hf, hc0, hf0]; done) | (refine cell_past (by omega) ?_; rw [hc0 _ _ (by omega)]; first | go_cell | (go_simp; done)) | (refine frozen_past (by omega) ?_; rw [hf0 _ _ (by omega)]; first | (go_simp; done) | (simp; done)) | (refine keep_set ?_ (by (try simp only []); omega); first | assumption | (refine keep_set ?_ (by (try simp only []); omega); assumption))
  have g3 : W1.cell? ⟨w.heap.size + 1, 1, none⟩ = some (.int .u32 n.toNat) := by rw [hW1]; first | go_cell | (go_simp; done) | (simp [hc, hf, hc0, hf0]; done) | (refine cell_past (by omega) ?_; rw [hc0 _ _ (by omega)]; first | go_cell | (go_simp; done)) | (refine frozen_past (by omega) ?_; rw [hf0 _ _ (by omega)]; first | (go_simp; done) | (simp; done)) | (refine keep_set ?_ (by (try simp only []); omega); first | assumption | (refine keep_set ?_ (by (try simp only []); omega); assumption))
  have g4 : W1.cell? ⟨w.heap.size + 1 + 1 + 1, 0, none⟩ = some (.int .u32 0) := by rw [hW1]; first | go_cell | (go_simp; done) | (simp [hc, hf, hc0, hf0]; done) | (refine cell_past (by omega) ?_; rw [hc0 _ _ (by omega)]; first | go_cell | (go_simp; done)) | (refine frozen_past (by omega) ?_; rw [hf0 _ _ (by omega)]; first | (go_simp; done) | (simp; done)) | (refine keep_set ?_ (by (try simp only []); omega); first | assumption | (refine keep_set ?_ (by (try simp only []); omega); assumption))
  have g5 : W1.cell? ⟨w.heap.size + 1 + 1 + 1, 1, none⟩ = some (.int .u32 0) := by rw [hW1]; first | go_cell | (go_simp; done) | (simp [hc, hf, hc0, hf0]; done) | (refine cell_past (by omega) ?_; rw [hc0 _ _ (by omega)]; first | go_cell | (go_simp; done)) | (refine frozen_past (by omega) ?_; rw [hf0 _ _ (by omega)]; first | (go_simp; done) | (simp; done)) | (refine keep_set ?_ (by (try simp only []); omega); first | assumption | (refine keep_set ?_ (by (try simp only []); omega); assumption))
  have g6 : W1.cell? ⟨w.heap.size + 1 + 1, 0, none⟩ = some (.int .u32 0) := by rw [hW1]; first | go_cell | (go_simp; done) | (simp [hc, hf, hc0, hf0]; done) | (refine cell_past (by omega) ?_; rw [hc0 _ _ (by omega)]; first | go_cell | (go_simp; done)) | (refine frozen_past (by omega) ?_; rw [hf0 _ _ (by omega)]; first | (go_simp; done) | (simp; done)) | (refine keep_set ?_ (by (try simp only []); omega); first | assumption | (refine keep_set ?_ (by (try simp only []); omega); assumption))
  have g7 : W1.cell? ⟨w.heap.size + 1 + 1, 1, none⟩ = some (.int .u32 0) := by rw [hW1]; first | go_cell | (go_simp; done) | (simp [hc, hf, hc0, hf0]; done) | (refine cell_past (by omega) ?_; rw [hc0 _ _ (by omega)]; first | go_cell | (go_simp; done)) | (refine frozen_past (by omega) ?_; rw [hf0 _ _ (by omega)]; first | (go_simp; done) | (simp; done)) | (refine keep_set ?_ (by (try simp only []); omega); first | assumption | (refine keep_set ?_ (by (try simp only []); omega); assumption))
  have z0 : W1.frozen? ⟨w.heap.size + 1 + 1 + 1, 0, none⟩ = false := by rw [hW1]; first | go_cell | (go_simp; done) | (simp [hc, hf, hc0, hf0]; done) | (refine cell_past (by omega) ?_; rw [hc0 _ _ (by omega)]; first | go_cell | (go_simp; done)) | (refine frozen_past (by omega) ?_; rw [hf0 _ _ (by omega)]; first | (go_simp; done) | (simp; done)) | (refine keep_set ?_ (by (try simp only []); omega); first | assumption | (refine keep_set ?_ (by (try simp only []); omega); assumption))
  have z1 : W1.frozen? ⟨w.heap.size + 1 + 1 + 1, 1, none⟩ = false := by rw [hW1]; first | go_cell | (go_simp; done) | (simp [hc, hf, hc0, hf0]; done) | (refine cell_past (by omega) ?_; rw [hc0 _ _ (by omega)]; first | go_cell | (go_simp; done)) | (refine frozen_past (by omega) ?_; rw [hf0 _ _ (by omega)]; first | (go_simp; done) | (simp; done)) | (refine keep_set ?_ (by (try simp only []); omega); first | assumption | (refine keep_set ?_ (by (try simp only []); omega); assumption))
  have z2 : W1.frozen? ⟨w.heap.size + 1 + 1, 0, none⟩ = false := by rw [hW1]; first | go_cell | (go_simp; done) | (simp [hc, hf, hc0, hf0]; done) | (refine cell_past (by omega) ?_; rw [hc0 _ _ (by omega)]; first | go_cell | (go_simp; done)) | (refine frozen_past (by omega) ?_; rw [hf0 _ _ (by omega)]; first | (go_simp; done) | (simp; done)) | (refine keep_set ?_ (by (try simp only []); omega); first | assumption | (refine keep_set ?_ (by (try simp only []); omega); assumption))
  have z3 : W1.frozen? ⟨w.heap.size + 1 + 1, 1, none⟩ = false := by rw [hW1]; first | go_cell | (go_simp; done) | (simp [hc, hf, hc0, hf0]; done) | (refine cell_past (by omega) ?_; rw [hc0 _ _ (by omega)]; first | go_cell | (go_simp; done)) | (refine frozen_past (by omega) ?_; rw [hf0 _ _ (by omega)]; first | (go_simp; done) | (simp; done)) | (refine keep_set ?_ (by (try simp only []); omega); first | assumption | (refine keep_set ?_ (by (try simp only []); omega); assumption))
  clear hW1
  go_loopw [6] (fun i wr => ∃ k : Nat, k ≤ 24 ∧ i = .int .i64 (k : Int) ∧ Two wr w.heap.size p.toNat m.toNat ∧ Two wr (w.heap.size + 1) q.toNat n.toNat ∧ Two wr (w.heap.size + 1 + 1 + 1) (mix F 0#32 k).toNat (mix M 0#32 k).toNat ∧ Thaw wr (w.heap.size + 1 + 1 + 1) ∧ Two wr (w.heap.size + 1 + 1) 0 0 ∧ Thaw wr (w.heap.size + 1 + 1) ∧ Below w.heap.size w wr ∧ w.heap.size + 4 ≤ wr.heap.size) (fun i _ => 24 - (intOf i).toNat)
  case atStart => exact ⟨0, by omega, rfl, ⟨g0, g1⟩, ⟨g2, g3⟩, by rw [mix_zero, mix_zero]; exact ⟨g4, g5⟩, ⟨z0, z1⟩, ⟨g6, g7⟩, ⟨z2, z3⟩, hw1, by omega⟩
  case round =>
    clear g0 g1 g2 g3 g4 g5 g6 g7 z0 z1 z2 z3 hw1 hz1
    obtain ⟨k, hk, rfl, ⟨r0, r1⟩, ⟨r2, r3⟩, ⟨r4, r5⟩, ⟨q0, q1⟩, ⟨r6, r7⟩, ⟨q2, q3⟩, hw, hsz⟩ := hrel
    by_cases hlt : k < 24
    · have hg1 := rgv p m k hlt
      have hg2 := rgv q n k hlt
      obtain ⟨b1, b2⟩ := HB.out k hlt
      have hput := rput_any (mix F 0#32 k) (mix M 0#32 k) k (gV p m k) hlt
      generalize gV p m k = a at *
      generalize gV q n k = b at *
      by_cases hab : a = b
      · have e1 : withP (mix F 0#32 k) k a = mix F 0#32 (k + 1) := mix_putP _ _ k a (by omega) (by rw [b1, hab]; simp)
        have e2 : withM (mix M 0#32 k) k a = mix M 0#32 (k + 1) := mix_putM _ _ k a (by omega) (by rw [b2, hab]; simp)
        rw [e1, e2] at hput
        clear e1 e2 b1 b2
        obtain ⟨F1, hF1⟩ : ∃ F1, mix F 0#32 (k + 1) = F1 := ⟨_, rfl⟩
        obtain ⟨M1, hM1⟩ : ∃ M1, mix M 0#32 (k + 1) = M1 := ⟨_, rfl⟩
        rw [hF1, hM1] at hput
        have HF1 := Lib.hid hF1; have HM1 := Lib.hid hM1; clear hF1 hM1
        generalize mix F 0#32 k = F0 at *
        generalize mix M 0#32 k = M0 at *
        subst hab
        go_wp2_with fail
        refine wp_gen ?_
        intro W1 hW1
        have hw1 : Below w.heap.size w W1 := by rw [hW1]; go_grown
        have hz1 : wr.heap.size ≤ W1.heap.size := by rw [hW1]; go_size
        have c0 : W1.cell? ⟨w.heap.size, 0, none⟩ = some (.int .u32 p.toNat) := by rw [hW1]; first | assumption | go_cell | (go_simp; done) | exact cell_past (by first | assumption | omega) (by assumption)
        have c1 : W1.cell? ⟨w.heap.size, 1, none⟩ = some (.int .u32 m.toNat) := by rw [hW1]; first | assumption | go_cell | (go_simp; done) | exact cell_past (by first | assumption | omega) (by assumption)
        have c2 : W1.cell? ⟨w.heap.size + 1, 0, none⟩ = some (.int .u32 q.toNat) := by rw [hW1]; first | assumption | go_cell | (go_simp; done) | exact cell_past (by first | assumption | omega) (by assumption)
        have c3 : W1.cell? ⟨w.heap.size + 1, 1, none⟩ = some (.int .u32 n.toNat) := by rw [hW1]; first | assumption | go_cell | (go_simp; done) | exact cell_past (by first | assumption | omega) (by assumption)
        have c4 : W1.cell? ⟨w.heap.size + 1 + 1 + 1, 0, none⟩ = some (.int .u32 F0.toNat) := by rw [hW1]; first | assumption | go_cell | (go_simp; done) | exact cell_past (by first | assumption | omega) (by assumption)
        have c5 : W1.cell? ⟨w.heap.size + 1 + 1 + 1, 1, none⟩ = some (.int .u32 M0.toNat) := by rw [hW1]; first | assumption | go_cell | (go_simp; done) | exact cell_past (by first | assumption | omega) (by assumption)
        have c6 : W1.cell? ⟨w.heap.size + 1 + 1, 0, none⟩ = some (.int .u32 0) := by rw [hW1]; first | assumption | go_cell | (go_simp; done) | exact cell_past (by first | assumption | omega) (by assumption)
        have c7 : W1.cell? ⟨w.heap.size + 1 + 1, 1, none⟩ = some (.int .u32 0) := by rw [hW1]; first | assumption | go_cell | (go_simp; done) | exact cell_past (by first | assumption | omega) (by assumption)
        have y0 : W1.frozen? ⟨w.heap.size + 1 + 1 + 1, 0, none⟩ = false := by rw [hW1]; first | assumption | (go_simp; done) | (simp [*]; done)
        have y1 : W1.frozen? ⟨w.heap.size + 1 + 1 + 1, 1, none⟩ = false := by rw [hW1]; first | assumption | (go_simp; done) | (simp [*]; done)
        have y2 : W1.frozen? ⟨w.heap.size + 1 + 1, 0, none⟩ = false := by rw [hW1]; first | assumption | (go_simp; done) | (simp [*]; done)
        have y3 : W1.frozen? ⟨w.heap.size + 1 + 1, 1, none⟩ = false := by rw [hW1]; first | assumption | (go_simp; done) | (simp [*]; done)
        clear hW1
        have k0 := cell_regrown c0
        have k1 := cell_regrown c1
        have k2 := cell_regrown c2
        have k3 := cell_regrown c3
        have k4 := cell_regrown c4
        have k5 := cell_regrown c5
        have k6 := cell_regrown c6
        have k7 := cell_regrown c7
        refine wp_region_quiet_below (by kernel_rfl) (by kernel_rfl) ?_
        try simp only [List.append]
        repeat (go_big_quiet_step (first | (go_at_call 65; with_reducible exact Calls.regrown_of (hg1 _)) | (go_at_call 65; with_reducible exact Calls.regrown_of (hg2 _))))
        refine wpQuiet_nil ?_
        intro w2 hw2
        have hb : Below W1.heap.size W1 w2 := by obtain ⟨q, rfl⟩ := hw2; exact below_regrown _ _ _
        clear hw2
        clear k0 k1 k2 k3 k4 k5 k6 k7
        have hw := chain hw1 (by omega) hb
        obtain ⟨hc, hf, hz⟩ := bcell hb
        clear hb
        try have r0 : w2.cell? ⟨w.heap.size, 0, none⟩ = some (.int .u32 p.toNat) := (hc _ _ (by omega)).trans c0
        try have r1 : w2.cell? ⟨w.heap.size, 1, none⟩ = some (.int .u32 m.toNat) := (hc _ _ (by omega)).trans c1
        try have r2 : w2.cell? ⟨w.heap.size + 1, 0, none⟩ = some (.int .u32 q.toNat) := (hc _ _ (by omega)).trans c2
        try have r3 : w2.cell? ⟨w.heap.size + 1, 1, none⟩ = some (.int .u32 n.toNat) := (hc _ _ (by omega)).trans c3
        try have r4 : w2.cell? ⟨w.heap.size + 1 + 1 + 1, 0, none⟩ = some (.int .u32 F0.toNat) := (hc _ _ (by omega)).trans c4
        try have r5 : w2.cell? ⟨w.heap.size + 1 + 1 + 1, 1, none⟩ = some (.int .u32 M0.toNat) := (hc _ _ (by omega)).trans c5
        try have r6 : w2.cell? ⟨w.heap.size + 1 + 1, 0, none⟩ = some (.int .u32 0) := (hc _ _ (by omega)).trans c6
        try have r7 : w2.cell? ⟨w.heap.size + 1 + 1, 1, none⟩ = some (.int .u32 0) := (hc _ _ (by omega)).trans c7
        have q0 : w2.frozen? ⟨w.heap.size + 1 + 1 + 1, 0, none⟩ = false := (hf _ _ (by omega)).trans y0
        have q1 : w2.frozen? ⟨w.heap.size + 1 + 1 + 1, 1, none⟩ = false := (hf _ _ (by omega)).trans y1
        have q2 : w2.frozen? ⟨w.heap.size + 1 + 1, 0, none⟩ = false := (hf _ _ (by omega)).trans y2
        have q3 : w2.frozen? ⟨w.heap.size + 1 + 1, 1, none⟩ = false := (hf _ _ (by omega)).trans y3
        go_wp2_with fail
        refine wp_gen ?_
        intro W1 hW1
        have hw1 : Below w.heap.size w W1 := by rw [hW1]; go_grown
        have hz1 : w2.heap.size ≤ W1.heap.size := by rw [hW1]; first | assumption | go_size
        have g0 : W1.cell? ⟨w.heap.size, 0, none⟩ = some (.int .u32 p.toNat) := by rw [hW1]; first | assumption | go_cell | (go_simp; done) | (simp [hc, hf, hc0, hf0]; done) | (refine keep_set ?_ (by (try simp only []); omega); first | assumption | (refine keep_set ?_ (by (try simp only []); omega); assumption)) | (simp [*]; done)
        have g1 : W1.cell? ⟨w.heap.size, 1, none⟩ = some (.int .u32 m.toNat) := by rw [hW1]; first | assumption | go_cell | (go_simp; done) | (simp [hc, hf, hc0, hf0]; done) | (refine keep_set ?_ (by (try simp only []); omega); first | assumption | (refine keep_set ?_ (by (try simp only []); omega); assumption)) | (simp [*]; done)
        have g2 : W1.cell? ⟨w.heap.size + 1, 0, none⟩ = some (.int .u32 q.toNat) := by rw [hW1]; first | assumption | go_cell | (go_simp; done) | (simp [hc, hf, hc0, hf0]; done) | (refine keep_set ?_ (by (try simp only []); omega); first | assumption | (refine keep_set ?_ (by (try simp only []); omega); assumption)) | (simp [*]; done)
        have g3 : W1.cell? ⟨w.heap.size + 1, 1, none⟩ = some (.int .u32 n.toNat) := by rw [hW1]; first | assumption | go_cell | (go_simp; done) | (simp [hc, hf, hc0, hf0]; done) | (refine keep_set ?_ (by (try simp only []); omega); first | assumption | (refine keep_set ?_ (by (try simp only []); omega); assumption)) | (simp [*]; done)
        have g4 : W1.cell? ⟨w.heap.size + 1 + 1 + 1, 0, none⟩ = some (.int .u32 F0.toNat) := by rw [hW1]; first | assumption | go_cell | (go_simp; done) | (simp [hc, hf, hc0, hf0]; done) | (refine keep_set ?_ (by (try simp only []); omega); first | assumption | (refine keep_set ?_ (by (try simp only []); omega); assumption)) | (simp [*]; done)
        have g5 : W1.cell? ⟨w.heap.size + 1 + 1 + 1, 1, none⟩ = some (.int .u32 M0.toNat) := by rw [hW1]; first | assumption | go_cell | (go_simp; done) | (simp [hc, hf, hc0, hf0]; done) | (refine keep_set ?_ (by (try simp only []); omega); first | assumption | (refine keep_set ?_ (by (try simp only []); omega); assumption)) | (simp [*]; done)
        have g6 : W1.cell? ⟨w.heap.size + 1 + 1, 0, none⟩ = some (.int .u32 0) := by rw [hW1]; first | assumption | go_cell | (go_simp; done) | (simp [hc, hf, hc0, hf0]; done) | (refine keep_set ?_ (by (try simp only []); omega); first | assumption | (refine keep_set ?_ (by (try simp only []); omega); assumption)) | (simp [*]; done)
        have g7 : W1.cell? ⟨w.heap.size + 1 + 1, 1, none⟩ = some (.int .u32 0) := by rw [hW1]; first | assumption | go_cell | (go_simp; done) | (simp [hc, hf, hc0, hf0]; done) | (refine keep_set ?_ (by (try simp only []); omega); first | assumption | (refine keep_set ?_ (by (try simp only []); omega); assumption)) | (simp [*]; done)
        have z0 : W1.frozen? ⟨w.heap.size + 1 + 1 + 1, 0, none⟩ = false := by rw [hW1]; first | assumption | go_cell | (go_simp; done) | (simp [hc, hf, hc0, hf0]; done) | (refine keep_set ?_ (by (try simp only []); omega); first | assumption | (refine keep_set ?_ (by (try simp only []); omega); assumption)) | (simp [*]; done)
        have z1 : W1.frozen? ⟨w.heap.size + 1 + 1 + 1, 1, none⟩ = false := by rw [hW1]; first | assumption | go_cell | (go_simp; done) | (simp [hc, hf, hc0, hf0]; done) | (refine keep_set ?_ (by (try simp only []); omega); first | assumption | (refine keep_set ?_ (by (try simp only []); omega); assumption)) | (simp [*]; done)
        have z2 : W1.frozen? ⟨w.heap.size + 1 + 1, 0, none⟩ = false := by rw [hW1]; first | assumption | go_cell | (go_simp; done) | (simp [hc, hf, hc0, hf0]; done) | (refine keep_set ?_ (by (try simp only []); omega); first | assumption | (refine keep_set ?_ (by (try simp only []); omega); assumption)) | (simp [*]; done)
        have z3 : W1.frozen? ⟨w.heap.size + 1 + 1, 1, none⟩ = false := by rw [hW1]; first | assumption | go_cell | (go_simp; done) | (simp [hc, hf, hc0, hf0]; done) | (refine keep_set ?_ (by (try simp only []); omega); first | assumption | (refine keep_set ?_ (by (try simp only []); omega); assumption)) | (simp [*]; done)
        clear hW1
        refine wp_region_makers 6 [] [0, 1, 2, 3, 4, 5] ?A1 _ (by kernel_rfl) (by kernel_rfl) ?hrun1 (by simp [quiets, mkOf]; rfl) ?walk1 ?fin1
        case hrun1 =>
          intro x hx
          cases hx
        case walk1 =>
          intro W2 hW2
          have e0 : W2.cell? ⟨w.heap.size, 0, none⟩ = some (.int .u32 p.toNat) := (hW2.cell (p := ⟨w.heap.size, 0, none⟩) (by (try simp only []); omega)).trans g0
          have k0 := cell_regrown e0
          have e1 : W2.cell? ⟨w.heap.size, 1, none⟩ = some (.int .u32 m.toNat) := (hW2.cell (p := ⟨w.heap.size, 1, none⟩) (by (try simp only []); omega)).trans g1
          have k1 := cell_regrown e1
          have e2 : W2.cell? ⟨w.heap.size + 1, 0, none⟩ = some (.int .u32 q.toNat) := (hW2.cell (p := ⟨w.heap.size + 1, 0, none⟩) (by (try simp only []); omega)).trans g2
          have k2 := cell_regrown e2
          have e3 : W2.cell? ⟨w.heap.size + 1, 1, none⟩ = some (.int .u32 n.toNat) := (hW2.cell (p := ⟨w.heap.size + 1, 1, none⟩) (by (try simp only []); omega)).trans g3
          have k3 := cell_regrown e3
          have e4 : W2.cell? ⟨w.heap.size + 1 + 1 + 1, 0, none⟩ = some (.int .u32 F0.toNat) := (hW2.cell (p := ⟨w.heap.size + 1 + 1 + 1, 0, none⟩) (by (try simp only []); omega)).trans g4
          have k4 := cell_regrown e4
          have e5 : W2.cell? ⟨w.heap.size + 1 + 1 + 1, 1, none⟩ = some (.int .u32 M0.toNat) := (hW2.cell (p := ⟨w.heap.size + 1 + 1 + 1, 1, none⟩) (by (try simp only []); omega)).trans g5
          have k5 := cell_regrown e5
          have e6 : W2.cell? ⟨w.heap.size + 1 + 1, 0, none⟩ = some (.int .u32 0) := (hW2.cell (p := ⟨w.heap.size + 1 + 1, 0, none⟩) (by (try simp only []); omega)).trans g6
          have k6 := cell_regrown e6
          have e7 : W2.cell? ⟨w.heap.size + 1 + 1, 1, none⟩ = some (.int .u32 0) := (hW2.cell (p := ⟨w.heap.size + 1 + 1, 1, none⟩) (by (try simp only []); omega)).trans g7
          have k7 := cell_regrown e7
          repeat (go_big_quiet_step (first | (go_at_call 65; with_reducible exact Calls.regrown_of (hg1 _)) | (go_at_call 98; with_reducible exact Calls.regrown_of (hput _))))
          refine wpQuiet_nil ?_
          rfl
        intro bs w2 hb hF hN
        have hw := chain hw1 (by omega) hb
        obtain ⟨hc, hf, hz⟩ := bcell hb
        have r0 : w2.cell? ⟨w.heap.size, 0, none⟩ = some (.int .u32 p.toNat) := (hc _ _ (by omega)).trans g0
        have r1 : w2.cell? ⟨w.heap.size, 1, none⟩ = some (.int .u32 m.toNat) := (hc _ _ (by omega)).trans g1
        have r2 : w2.cell? ⟨w.heap.size + 1, 0, none⟩ = some (.int .u32 q.toNat) := (hc _ _ (by omega)).trans g2
        have r3 : w2.cell? ⟨w.heap.size + 1, 1, none⟩ = some (.int .u32 n.toNat) := (hc _ _ (by omega)).trans g3
        have r4 : w2.cell? ⟨w.heap.size + 1 + 1 + 1, 0, none⟩ = some (.int .u32 F0.toNat) := (hc _ _ (by omega)).trans g4
        have r5 : w2.cell? ⟨w.heap.size + 1 + 1 + 1, 1, none⟩ = some (.int .u32 M0.toNat) := (hc _ _ (by omega)).trans g5
        have r6 : w2.cell? ⟨w.heap.size + 1 + 1, 0, none⟩ = some (.int .u32 0) := (hc _ _ (by omega)).trans g6
        have r7 : w2.cell? ⟨w.heap.size + 1 + 1, 1, none⟩ = some (.int .u32 0) := (hc _ _ (by omega)).trans g7
        have q0 : w2.frozen? ⟨w.heap.size + 1 + 1 + 1, 0, none⟩ = false := (hf _ _ (by omega)).trans z0
        have q1 : w2.frozen? ⟨w.heap.size + 1 + 1 + 1, 1, none⟩ = false := (hf _ _ (by omega)).trans z1
        have q2 : w2.frozen? ⟨w.heap.size + 1 + 1, 0, none⟩ = false := (hf _ _ (by omega)).trans z2
        have q3 : w2.frozen? ⟨w.heap.size + 1 + 1, 1, none⟩ = false := (hf _ _ (by omega)).trans z3
        clear hb hF hN hw1 g0 g1 g2 g3 g4 g5 g6 g7 z0 z1 z2 z3
        simp only [List.map_cons, List.map_nil, List.foldr_cons, List.foldr_nil] at *
        clear bs
        simp only [dstOf, ptr, Act.put, List.getElem?_toArray, List.getElem?_cons_succ, List.getElem?_cons_zero, Option.bind_some, List.setIfInBounds_toArray, List.set_cons_zero, List.set_cons_succ, List.drop_succ_cons, List.drop_zero]
        go_wp2_with fail
        go_roundw
        case rel => exact ⟨k + 1, by omega, by go_num, Two.other ⟨r0, r1⟩ (by omega), Two.other ⟨r2, r3⟩ (by omega), by rw [HF1.out, HM1.out]; exact Two.same ⟨r4, r5⟩, Thaw.set ⟨q0, q1⟩, Two.other ⟨r6, r7⟩ (by omega), Thaw.set ⟨q2, q3⟩, below_set2 hw (by omega), size_set2 (by omega)⟩
        case measure => simp [intOf]; omega
      · have ha1 : (a == b) = false := by simpa using hab
        have e1 : mix F 0#32 (k + 1) = mix F 0#32 k := mix_keep _ _ k (by rw [b1]; simp [hab])
        have e2 : mix M 0#32 (k + 1) = mix M 0#32 k := mix_keep _ _ k (by rw [b2]; simp [hab])
        have E1 := Lib.hid e1; have E2 := Lib.hid e2
        clear e1 e2 b1 b2
        obtain ⟨F0, hF0⟩ : ∃ F0, mix F 0#32 k = F0 := ⟨_, rfl⟩
        obtain ⟨M0, hM0⟩ : ∃ M0, mix M 0#32 k = M0 := ⟨_, rfl⟩
        rw [hF0] at r4 hput
        rw [hM0] at r5 hput
        have HF0 := Lib.hid hF0; have HM0 := Lib.hid hM0; clear hF0 hM0
        go_wp2_with fail
        refine wp_gen ?_
        intro W1 hW1
        have hw1 : Below w.heap.size w W1 := by rw [hW1]; go_grown
        have hz1 : wr.heap.size ≤ W1.heap.size := by rw [hW1]; go_size
        have c0 : W1.cell? ⟨w.heap.size, 0, none⟩ = some (.int .u32 p.toNat) := by rw [hW1]; first | assumption | go_cell | (go_simp; done) | exact cell_past (by first | assumption | omega) (by assumption)
        have c1 : W1.cell? ⟨w.heap.size, 1, none⟩ = some (.int .u32 m.toNat) := by rw [hW1]; first | assumption | go_cell | (go_simp; done) | exact cell_past (by first | assumption | omega) (by assumption)
        have c2 : W1.cell? ⟨w.heap.size + 1, 0, none⟩ = some (.int .u32 q.toNat) := by rw [hW1]; first | assumption | go_cell | (go_simp; done) | exact cell_past (by first | assumption | omega) (by assumption)
        have c3 : W1.cell? ⟨w.heap.size + 1, 1, none⟩ = some (.int .u32 n.toNat) := by rw [hW1]; first | assumption | go_cell | (go_simp; done) | exact cell_past (by first | assumption | omega) (by assumption)
        have c4 : W1.cell? ⟨w.heap.size + 1 + 1 + 1, 0, none⟩ = some (.int .u32 F0.toNat) := by rw [hW1]; first | assumption | go_cell | (go_simp; done) | exact cell_past (by first | assumption | omega) (by assumption)
        have c5 : W1.cell? ⟨w.heap.size + 1 + 1 + 1, 1, none⟩ = some (.int .u32 M0.toNat) := by rw [hW1]; first | assumption | go_cell | (go_simp; done) | exact cell_past (by first | assumption | omega) (by assumption)
        have c6 : W1.cell? ⟨w.heap.size + 1 + 1, 0, none⟩ = some (.int .u32 0) := by rw [hW1]; first | assumption | go_cell | (go_simp; done) | exact cell_past (by first | assumption | omega) (by assumption)
        have c7 : W1.cell? ⟨w.heap.size + 1 + 1, 1, none⟩ = some (.int .u32 0) := by rw [hW1]; first | assumption | go_cell | (go_simp; done) | exact cell_past (by first | assumption | omega) (by assumption)
        have y0 : W1.frozen? ⟨w.heap.size + 1 + 1 + 1, 0, none⟩ = false := by rw [hW1]; first | assumption | (go_simp; done) | (simp [*]; done)
        have y1 : W1.frozen? ⟨w.heap.size + 1 + 1 + 1, 1, none⟩ = false := by rw [hW1]; first | assumption | (go_simp; done) | (simp [*]; done)
        have y2 : W1.frozen? ⟨w.heap.size + 1 + 1, 0, none⟩ = false := by rw [hW1]; first | assumption | (go_simp; done) | (simp [*]; done)
        have y3 : W1.frozen? ⟨w.heap.size + 1 + 1, 1, none⟩ = false := by rw [hW1]; first | assumption | (go_simp; done) | (simp [*]; done)
        clear hW1
        have k0 := cell_regrown c0
        have k1 := cell_regrown c1
        have k2 := cell_regrown c2
        have k3 := cell_regrown c3
        have k4 := cell_regrown c4
        have k5 := cell_regrown c5
        have k6 := cell_regrown c6
        have k7 := cell_regrown c7
        refine wp_region_quiet_below (by kernel_rfl) (by kernel_rfl) ?_
        try simp only [List.append]
        repeat (go_big_quiet_step (first | (go_at_call 65; with_reducible exact Calls.regrown_of (hg1 _)) | (go_at_call 65; with_reducible exact Calls.regrown_of (hg2 _))))
        refine wpQuiet_nil ?_
        intro w2 hw2
        have hb : Below W1.heap.size W1 w2 := by obtain ⟨q, rfl⟩ := hw2; exact below_regrown _ _ _
        clear hw2
        clear k0 k1 k2 k3 k4 k5 k6 k7
        have hw := chain hw1 (by omega) hb
        obtain ⟨hc, hf, hz⟩ := bcell hb
        clear hb
        try have r0 : w2.cell? ⟨w.heap.size, 0, none⟩ = some (.int .u32 p.toNat) := (hc _ _ (by omega)).trans c0
        try have r1 : w2.cell? ⟨w.heap.size, 1, none⟩ = some (.int .u32 m.toNat) := (hc _ _ (by omega)).trans c1
        try have r2 : w2.cell? ⟨w.heap.size + 1, 0, none⟩ = some (.int .u32 q.toNat) := (hc _ _ (by omega)).trans c2
        try have r3 : w2.cell? ⟨w.heap.size + 1, 1, none⟩ = some (.int .u32 n.toNat) := (hc _ _ (by omega)).trans c3
        try have r4 : w2.cell? ⟨w.heap.size + 1 + 1 + 1, 0, none⟩ = some (.int .u32 F0.toNat) := (hc _ _ (by omega)).trans c4
        try have r5 : w2.cell? ⟨w.heap.size + 1 + 1 + 1, 1, none⟩ = some (.int .u32 M0.toNat) := (hc _ _ (by omega)).trans c5
        try have r6 : w2.cell? ⟨w.heap.size + 1 + 1, 0, none⟩ = some (.int .u32 0) := (hc _ _ (by omega)).trans c6
        try have r7 : w2.cell? ⟨w.heap.size + 1 + 1, 1, none⟩ = some (.int .u32 0) := (hc _ _ (by omega)).trans c7
        have q0 : w2.frozen? ⟨w.heap.size + 1 + 1 + 1, 0, none⟩ = false := (hf _ _ (by omega)).trans y0
        have q1 : w2.frozen? ⟨w.heap.size + 1 + 1 + 1, 1, none⟩ = false := (hf _ _ (by omega)).trans y1
        have q2 : w2.frozen? ⟨w.heap.size + 1 + 1, 0, none⟩ = false := (hf _ _ (by omega)).trans y2
        have q3 : w2.frozen? ⟨w.heap.size + 1 + 1, 1, none⟩ = false := (hf _ _ (by omega)).trans y3
        go_wp2_with fail
        go_roundw
        case rel => exact ⟨k + 1, by omega, by go_num, ⟨r0, r1⟩, ⟨r2, r3⟩, by rw [E1.out, E2.out, HF0.out, HM0.out]; exact ⟨r4, r5⟩, ⟨q0, q1⟩, ⟨r6, r7⟩, ⟨q2, q3⟩, hw, by omega⟩
        case measure => simp [intOf]; omega
    · obtain rfl : k = 24 := by omega
      rw [HE.out.1] at r4
      rw [HE.out.2] at r5
      go_wp2_with fail
      refine bodyPost_ret (v := sn F.toNat M.toNat) (by simp [results, Tryd.results81, go_sem, *]) rfl ⟨rfl, below_set2 hw (by omega)⟩
theorem rmeet_bad (p m q n : BitVec 32) (hv : (vld p m && vld q n) = false) (w : World) : Gives 81 #[sn p.toNat m.toNat, sn q.toNat n.toNat] w (sn 0 0) := by
  refine rmeet_of p m q n 0#32 0#32 (fun k hk => ?_) (fun j hj h24 => by simp) w
  rcases h1 : vld p m with _ | _
  · rw [gV_not h1]; rcases gV_three q n k with e | e | e <;> simp [e]
  · rw [h1, Bool.true_and] at hv
    rw [gV_not hv]; rcases gV_three p m k with e | e | e <;> simp [e]
theorem rmeet_ok (p m q n : BitVec 32) (h1 : vld p m = true) (h2 : vld q n = true) (w : World) : Gives 81 #[sn p.toNat m.toNat, sn q.toNat n.toNat] w (sn (p &&& q).toNat (m &&& n).toNat) := by
  refine rmeet_of p m q n _ _ (fun k hk => ?_) (fun j hj h24 => ?_) w
  · obtain ⟨a1, a2⟩ := getV_bits h1 k (by omega)
    obtain ⟨b1, b2⟩ := getV_bits h2 k (by omega)
    rw [gV_of h1, gV_of h2, BitVec.getLsbD_and, BitVec.getLsbD_and, a1, a2, b1, b2]
    rcases getV_three p m k with e | e | e <;> rcases getV_three q n k with f | f | f <;> simp [e, f]
  · obtain ⟨a1, a2⟩ := vld_high h1 j hj h24
    simp [a1, a2]
end Go.Proofs.YtpnmapfabjdfjaaDoor
