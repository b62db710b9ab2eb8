/-
  Lemmas that the theorem of this claim rests on: 2 texts, one behind the other.
-/
import Derived.Test.YtpnmapfabjdfjaaDoorM19
import Derived.Test.YtpnmapfabjdfjaaDoorM2
import Derived.Deep.AppendLies
set_option linter.unusedSimpArgs false
set_option linter.unusedVariables false

/-
  NaturalCubes: its inventories, and what they answer.
-/
namespace Go.Proofs.YtpnmapfabjdfjaaDoor
open Go.RowKit Go.Sort
/-- The corner x of the cube of K features. -/
def mkS (K x : Nat) : Snd := (BitVec.ofNat 32 x &&& 16777215#32, (BitVec.ofNat 32 (2 ^ K - 1) &&& 16777215#32) &&& ~~~(BitVec.ofNat 32 x))
def cubA (K x : Nat) : List Snd := (List.range x).map (mkS K)
def cubB (K j x : Nat) : List Snd := ((List.range x).filter fun i => i != j).map (mkS K)
theorem cubA_succ (K x : Nat) : cubA K (x + 1) = cubA K x ++ [mkS K x] := by unfold cubA; rw [List.range_succ, List.map_append]; rfl
theorem cubB_eq (K j : Nat) : cubB K j (j + 1) = cubB K j j := by unfold cubB; rw [List.range_succ, List.filter_append]; simp
theorem cubB_ne (K j x : Nat) (h : x ≠ j) : cubB K j (x + 1) = cubB K j x ++ [mkS K x] := by
  unfold cubB
  rw [List.range_succ, List.filter_append, List.map_append]
  have e : [x].filter (fun i => i != j) = [x] := by simp [h]
  rw [e]; rfl
theorem cubA_len (K x : Nat) : (cubA K x).length = x := by unfold cubA; rw [List.length_map, List.length_range]
theorem cubB_len (K j x : Nat) : (cubB K j x).length ≤ x := by
  unfold cubB
  rw [List.length_map]
  exact Nat.le_trans (List.length_filter_le _ _) (by rw [List.length_range]; exact Nat.le_refl _)
theorem made_k (K x : Nat) (hK : K ≤ 3) (hx : x < 8) (w : World) : Gives 42 #[.int .u32 (x : Int), .int .u32 ((2 ^ K - 1 : Nat) : Int)] w (.agg #[.int .u32 ((mkS K x).1.toNat : Int), .int .u32 ((mkS K x).2.toNat : Int)]) := by
  have h := made_any (BitVec.ofNat 32 x) (BitVec.ofNat 32 (2 ^ K - 1)) w
  have e1 : (BitVec.ofNat 32 x).toNat = x := by rw [BitVec.toNat_ofNat, Nat.mod_eq_of_lt (by omega)]
  have e2 : (BitVec.ofNat 32 (2 ^ K - 1)).toNat = 2 ^ K - 1 := by
    rw [BitVec.toNat_ofNat, Nat.mod_eq_of_lt]
    have : 2 ^ K ≤ 2 ^ 3 := Nat.pow_le_pow_right (by decide) hK
    omega
  rw [e1, e2] at h
  exact h
theorem q1 : ∀ K, K < 4 → 0 < K → ckE (cubA K (2 ^ K)) 12 = 0 ∧ cntN (cubA K (2 ^ K)) = ((3 ^ K : Nat) : Int) ∧ ckE (cubA K (2 ^ K)) 256 = 0 ∧ gapG (cubA K (2 ^ K)) = [] := by decide +kernel
theorem q2 : ∀ K, K < 4 → ∀ j, j < 2 ^ K → ckE (cubB K j (2 ^ K)) 256 = 0 := by decide +kernel
theorem q3 : ∀ j, j < 2 → gapG (cubB 1 j 2) = [] := by decide +kernel
theorem q42 : ∀ j, j < 4 → ((gapG (cubB 2 j 4)).all fun g => decide (g = mkS 2 j)) = true ∧ mkS 2 j ∈ gapG (cubB 2 j 4) := by decide +kernel
theorem q43 : ∀ j, j < 8 → ((gapG (cubB 3 j 8)).all fun g => decide (g = mkS 3 j)) = true ∧ mkS 3 j ∈ gapG (cubB 3 j 8) := by decide +kernel
theorem gaps_none {l Y : List Snd} (h : gapG l = []) (hm : ∀ g, g ∈ Y ↔ gapP l g) : Y = [] := by
  cases Y with
  | nil => rfl
  | cons g t =>
    have := (hm g).1 (by simp)
    rw [← mem_gapG, h] at this
    simp at this
theorem gaps_one {l Y : List Snd} {a : Snd} (h1 : ((gapG l).all fun g => decide (g = a)) = true) (h2 : a ∈ gapG l) (hi : IncS Y) (hm : ∀ g, g ∈ Y ↔ gapP l g) : Y = [a] := inc_one hi (fun g => by
  rw [hm g, ← mem_gapG]
  exact ⟨fun h => of_decide_eq_true (List.all_eq_true.1 h1 g h), fun h => h ▸ h2⟩)
/-- A word that is not empty lies in memory, and so does each of its sounds. -/
theorem wd_mem {W : World} {v : Value} {ss : List Snd} (h : Wd W v ss) (hn : 0 < ss.length) : ∃ g off cap, v = .slice (some ⟨g, off, none⟩) ss.length cap ∧ ss.length ≤ cap ∧ cap ≤ maxLen ∧ ∀ j (hj : j < ss.length), Wd W (.slice (some ⟨g, off + j * 2, none⟩) 1 (cap - j)) [ss[j]] := by
  rcases h with ⟨-, rfl⟩ | ⟨b, off, cap, rfl, hc, hm, hb, h3⟩
  · simp at hn
  · refine ⟨b, off, cap, rfl, hc, hm, fun j hj => .inr ⟨b, off + j * 2, cap - j, rfl, by simp; omega, by omega, hb, fun i hi => ?_⟩⟩
    obtain rfl : i = 0 := by simpa using hi
    have := h3 j hj
    simpa using this
/-- Two rows lie apart. -/
def Dj (u v : Value) : Prop := ∀ k, u.ownBlock = some k → v.ownBlock = some k → False
theorem Own.lies {W : World} {b : Nat} {v : Value} {ss : List Snd} (h : Own W b v ss) (k : Nat) (hk : v.ownBlock = some k) : k < W.heap.size := by
  obtain ⟨_, ⟨rfl, _⟩ | ⟨g, cap, cur, rfl, _, hh, _⟩⟩ := h
  · cases hk
  · cases hk; exact (Array.getElem?_eq_some_iff.1 hh).1
theorem Dj.kept {W W' : World} {b : Nat} {u v : Value} {ss : List Snd} (h : Dj u v) (hv : Own W b v ss) (hg : W.grownBy W' u.ownBlock) : Own W' b v ss := World.ownsRow.kept hv hg (by
  cases e : v.ownBlock with
  | none => exact .inl rfl
  | some k => exact .inr (fun e2 => h k e2.symm e))
theorem Dj.left {W : World} {b g m cap : Nat} {u v : Value} {ss : List Snd} (h : Dj u v) (hv : Own W b v ss) (hg : u.ownBlock = some g ∨ g = W.heap.size) : Dj (.slice (some ⟨g, 0, none⟩) m cap) v := fun k h1 h2 => by
  have e : g = k := by simpa [Value.ownBlock] using h1
  subst e
  rcases hg with hg | hg
  · exact h g hg h2
  · have := hv.lies g h2; omega
theorem Dj.symm {u v : Value} (h : Dj u v) : Dj v u := fun k a b => h k b a
/-- append of one sound to a row of the call's own: where it lies then. -/
theorem wpList_appL {ops : Array Oper} {rest : List Oper} {o : Oper} {a : Act} {w : World} {Q : Exit → Act → World → Prop} (hgd : o.guard = none) (s x : Operand)
    (ho : o.op = .call { callee := .builtin .append, args := #[s, x], argTypes := #[22, 22] })
    (base B : Nat) (v : Value) (ss : List Snd) (p : Snd) (hs : a.eval s = v) (hx : a.eval x = .slice (some ⟨B, 0, none⟩) 1 1) (hB : w.heap[B]? = some (.cells #[.int .u32 (p.1.toNat : Int), .int .u32 (p.2.toNat : Int)] 27 (0, 0))) (hown : Own w base v ss) (hlen : ss.length + 1 ≤ 1000000000000) (hbase : base ≤ w.heap.size)
    (h : ∀ g cap w', Own w' base (.slice (some ⟨g, 0, none⟩) (ss.length + 1) cap) (ss ++ [p]) → w.grownBy w' v.ownBlock → (v.ownBlock = some g ∨ g = w.heap.size) → wpList Tryd.prog ops Q rest (a.put o.dst (.slice (some ⟨g, 0, none⟩) (ss.length + 1) cap)) w') : wpList Tryd.prog ops Q (o :: rest) a w := by
  obtain ⟨i, hi, hz, hs1, hb1⟩ := info_parts infoSound
  refine wpList_append_lies w hgd s x 22 ho base 27 i _ 2 8 Tryd.underlying22 hi hz hs1 hb1 rfl (by decide) v ss.length (flat ss) hs hown ⟨B, 0, none⟩ 1 1 [.int .u32 (p.1.toNat : Int), .int .u32 (p.2.toNat : Int)] hx rfl (World.news_of_block (cs := #[.int .u32 (p.1.toNat : Int), .int .u32 (p.2.toNat : Int)]) hB) (by simp [Value.oneCell']) (by decide) (Nat.le_trans hlen (by decide)) (by omega) hbase w.heap.size rfl ?_
  intro g cap w' h1 hg hat _
  refine h g cap w' ?_ hg hat
  unfold Own
  rw [flat_append, List.length_append]
  exact h1
end Go.Proofs.YtpnmapfabjdfjaaDoor

/-
  NaturalCubes, walked.
-/
namespace Go.Proofs.YtpnmapfabjdfjaaDoor
open Go.RowKit Go.Sort
set_option maxRecDepth 100000 in
set_option maxHeartbeats 8000000 in
theorem cubes_1 (a0 b0 : Int) (ha : 0 ≤ a0 ∧ a0 ≤ 255) (hb : 0 ≤ b0 ∧ b0 ≤ 255) (hr : a0.tmod 3 = 0) (j : Nat) (hj : j < 2) (hm : b0.tmod 2 = (j : Int)) (w : World) (hT : Tab w) (lT : 0 < w.heap.size) :
    Gives 11 #[.int .u8 a0, .int .u8 b0] w (.bool true) := by
  unfold Gives
  have HT := Lib.hid hT; have LT := Lib.hid lT; have HJ := Lib.hid hj
  have hw1 : IntKind.i64.wrap a0 = a0 := by rw [IntKind.wrap_i64]; omega
  have hw2 : IntKind.i64.wrap b0 = b0 := by rw [IntKind.wrap_i64]; omega
  clear hT lT hj
  go_enter Tryd.func11, Tryd.ntmps11
  go_wp2_with fail
  go_loopw [6, 7, 9] (fun u v i wr => ∃ x : Nat, x ≤ 2 ∧ i = .int .i64 (x : Int) ∧ Own wr w.heap.size u (cubA 1 x) ∧ Own wr w.heap.size v (cubB 1 j x) ∧ Dj u v ∧ Below w.heap.size w wr) (fun _ _ i _ => 2 - (intOf i).toNat)
  case atStart => exact ⟨0, by omega, rfl, Own.nil _ _, Own.nil _ _, (fun k h _ => by simp [Value.ownBlock] at h : Dj (.slice none 0 0) (.slice none 0 0)), Below.refl _ _⟩
  case round =>
  obtain ⟨x, hx, rfl, hou, hov, hd, hw⟩ := hrel
  by_cases hlt : x < 2
  · have hk3 : (x : Int) < 2 := by omega
    have hw3 : IntKind.u32.wrap (x : Int) = (x : Int) := by rw [IntKind.wrap_u32]; omega
    have hmk := made_k 1 x (by decide) (by omega)
    have hmk : ∀ W, Gives 42 #[.int .u32 (x : Int), .int .u32 1] W (.agg #[.int .u32 ((mkS 1 x).1.toNat : Int), .int .u32 ((mkS 1 x).2.toNat : Int)]) := hmk
    have HMK := Lib.hid hmk; have HOU := Lib.hid hou; have HOV := Lib.hid hov; have HD := Lib.hid hd; have HW := Lib.hid hw
    clear hmk hou hov hd hw
    have HAS := Lib.hid (cubA_succ 1 x); have HBE := Lib.hid (fun e : x = j => (e ▸ cubB_eq 1 x : cubB 1 j (x + 1) = cubB 1 j x)); have HBN := Lib.hid (cubB_ne 1 j x)
    generalize mkS 1 x = p at *
    obtain ⟨xp, xm⟩ := p
    simp only at HMK HAS HBN
    have HAL := Lib.hid (cubA_len 1 x); have HBL := Lib.hid (cubB_len 1 j x)
    generalize cubA 1 x = As at *
    generalize cubB 1 j x = Bs at *
    go_wp2_with fail
    go_at_call 42
    (with_reducible refine Gives.then (HMK.out _) ?_)
    intro w1 hb1
    have k1 := World.alloc_heap_new w1 (.cells #[.int .u32 (xp.toNat : Int), .int .u32 (xm.toNat : Int)] 27)
    have c0 : (w1.alloc (.cells #[.int .u32 (xp.toNat : Int), .int .u32 (xm.toNat : Int)] 27)).cell? ⟨w1.heap.size, 0, none⟩ = some (.int .u32 (xp.toNat : Int)) := cell_block k1 rfl
    have c1 : (w1.alloc (.cells #[.int .u32 (xp.toNat : Int), .int .u32 (xm.toNat : Int)] 27)).cell? ⟨w1.heap.size, 1, none⟩ = some (.int .u32 (xm.toNat : Int)) := cell_block k1 rfl
    have hb2 : Below wr.heap.size wr ((w1.alloc (.cells #[.int .u32 (xp.toNat : Int), .int .u32 (xm.toNat : Int)] 27)).alloc (.cells #[.int .u32 (xp.toNat : Int), .int .u32 (xm.toNat : Int)] 27)) := (hb1.alloc hb1.size _).alloc (by rw [World.size_alloc]; have := hb1.size; omega) _
    have k2 : ((w1.alloc (.cells #[.int .u32 (xp.toNat : Int), .int .u32 (xm.toNat : Int)] 27)).alloc (.cells #[.int .u32 (xp.toNat : Int), .int .u32 (xm.toNat : Int)] 27)).heap[w1.heap.size + 1]? = some (.cells #[.int .u32 (xp.toNat : Int), .int .u32 (xm.toNat : Int)] 27) := by
      have h := World.alloc_heap_new (w1.alloc (.cells #[.int .u32 (xp.toNat : Int), .int .u32 (xm.toNat : Int)] 27)) (.cells #[.int .u32 (xp.toNat : Int), .int .u32 (xm.toNat : Int)] 27)
      rw [World.size_alloc] at h
      exact h
    have k1' : ((w1.alloc (.cells #[.int .u32 (xp.toNat : Int), .int .u32 (xm.toNat : Int)] 27)).alloc (.cells #[.int .u32 (xp.toNat : Int), .int .u32 (xm.toNat : Int)] 27)).heap[w1.heap.size]? = some (.cells #[.int .u32 (xp.toNat : Int), .int .u32 (xm.toNat : Int)] 27) := (((Below.refl _ (w1.alloc (.cells #[.int .u32 (xp.toNat : Int), .int .u32 (xm.toNat : Int)] 27))).alloc (Nat.le_refl _) (.cells #[.int .u32 (xp.toNat : Int), .int .u32 (xm.toNat : Int)] 27)).block w1.heap.size (by rw [World.size_alloc]; omega)).trans k1
    have hz1 := hb1.size
    have HZ1 := Lib.hid hz1; have HB2 := Lib.hid hb2; have K2 := Lib.hid k2; have K1 := Lib.hid k1'; have HOU2 := Lib.hid (HOU.out.below hb2); have HOV2 := Lib.hid (HOV.out.below hb2); have HW2 := Lib.hid (HW.out.trans (hb2.mono HW.out.size))
    clear k1 k2 k1' hb1 hb2 hz1
    by_cases he : x = j
    · have g1 : ((x : Int) != (j : Int)) = false := by rw [he]; simp
      have HBE2 := Lib.hid (HBE.out he)
      clear HBE HBN
      go_wp2_with (at_builtin; (refine wpList_appL rfl (.tmp 39) (.tmp 41) rfl w.heap.size _ _ _ (xp, xm) rfl rfl K2.out HOU2.out (by rw [HAL.out]; omega) (HW2.out.size) ?_; intro g cap w4 ho4 hg4 hat4; have HO4 := Lib.hid ho4; have HV4 := Lib.hid (HD.out.kept HOV2.out hg4); have HD4 := Lib.hid (HD.out.left (m := As.length + 1) (cap := cap) HOV2.out hat4); have HW4 := Lib.hid (HW2.out.grown hg4 HW2.out.size (fun k e => Own.row HOU2.out k e)); clear ho4 hg4 hat4))
      go_roundw
      case rel => exact ⟨x + 1, by omega, by go_num, by rw [HAS.out]; exact HO4.out, by rw [HBE2.out]; exact HV4.out, HD4.out, HW4.out⟩
      case measure => simp [intOf]; omega
    · have g1 : ((x : Int) != (j : Int)) = true := by rw [bne_iff_ne]; omega
      have HBN2 := Lib.hid (HBN.out he)
      clear HBE HBN
      go_wp2_with (first | (at_builtin; (refine wpList_appL rfl (.tmp 39) (.tmp 41) rfl w.heap.size _ _ _ (xp, xm) rfl rfl K2.out HOU2.out (by rw [HAL.out]; omega) (HW2.out.size) ?_; intro g cap w4 ho4 hg4 hat4; have HO4 := Lib.hid ho4; have HV4 := Lib.hid (HD.out.kept HOV2.out hg4); have HD4 := Lib.hid (HD.out.left (m := As.length + 1) (cap := cap) HOV2.out hat4); have HW4 := Lib.hid (HW2.out.grown hg4 HW2.out.size (fun k e => Own.row HOU2.out k e)); have KB := Lib.hid ((hg4.block w1.heap.size (Array.getElem?_eq_some_iff.1 K1.out).1 (fun e => by have := HOU.out.lies _ e.symm; have := HZ1.out; omega)).trans K1.out); clear ho4 hg4 hat4; have d0 : w4.cell? ⟨w1.heap.size, 0, none⟩ = some (.int .u32 (xp.toNat : Int)) := cell_block KB.out rfl; have d1 : w4.cell? ⟨w1.heap.size, 1, none⟩ = some (.int .u32 (xm.toNat : Int)) := cell_block KB.out rfl; have hb5 : Below w4.heap.size w4 (w4.alloc (.cells #[.int .u32 (xp.toNat : Int), .int .u32 (xm.toNat : Int)] 27)) := (Below.refl _ _).alloc (Nat.le_refl _) _; have K5 := Lib.hid (World.alloc_heap_new w4 (.cells #[.int .u32 (xp.toNat : Int), .int .u32 (xm.toNat : Int)] 27)); have HO5 := Lib.hid (HO4.out.below hb5); have HV5 := Lib.hid (HV4.out.below hb5); have HW5 := Lib.hid (HW4.out.trans (hb5.mono HW4.out.size)); clear hb5)) | (at_builtin; (refine wpList_appL rfl (.tmp 46) (.tmp 48) rfl w.heap.size _ _ _ (xp, xm) rfl rfl K5.out HV5.out (by have := HBL.out; omega) (HW5.out.size) ?_; intro g2 cap2 w6 ho6 hg6 hat6; have HV6 := Lib.hid ho6; have HO6 := Lib.hid (HD4.out.symm.kept HO5.out hg6); have HD6 := Lib.hid ((HD4.out.symm.left (m := Bs.length + 1) (cap := cap2) HO5.out hat6).symm); have HW6 := Lib.hid (HW5.out.grown hg6 HW5.out.size (fun k e => Own.row HV5.out k e)); clear ho6 hg6 hat6)))
      go_roundw
      case rel => exact ⟨x + 1, by omega, by go_num, by rw [HAS.out]; exact HO6.out, by rw [HBN2.out]; exact HV6.out, HD6.out, HW6.out⟩
      case measure => simp [intOf]; omega
  · obtain rfl : x = 2 := by omega
    have hwu := hou.wd
    have hwv := hov.wd
    obtain ⟨g, off, cap, rfl, hc1, hc2, hsub⟩ := wd_mem hwu (by rw [cubA_len]; decide)
    rw [cubA_len] at hc1 hwu ⊢
    obtain ⟨bo, bc, hbv, -⟩ := hwv.open
    obtain ⟨n, hn⟩ : ∃ n, (cubB 1 j 2).length = n := ⟨_, rfl⟩
    rw [hn] at hbv
    subst hbv
    have hjl : j < (cubA 1 2).length := by rw [cubA_len]; exact HJ.out
    have hsj := hsub j hjl
    have hel : (cubA 1 2)[j] = mkS 1 j := by simp [cubA]
    rw [hel] at hsj
    have HU := Lib.hid hwu; have HV := Lib.hid hwv; have HSJ := Lib.hid hsj; have HW := Lib.hid hw; have HC1 := Lib.hid hc1; have HC2 := Lib.hid hc2
    clear hwu hwv hsj hel hjl hsub hc1 hc2 hw hou hov hd hn hlt hx
    have hco : Gives 31 #[.slice (some ⟨g, off, none⟩) 2 cap] wr (.tuple #[.int .i64 3, .int .i64 0]) := by
      have h := count_any (cubA 1 2) _ wr HU.out
      rw [(q1 1 (by decide) (by decide)).1, (q1 1 (by decide) (by decide)).2.1] at h
      exact h
    have HCO := Lib.hid hco
    clear hco
    go_wp2_with fail
    go_at_call 31
    refine Gives.then HCO.out ?_
    intro w1 hb1
    have HU := Lib.hid (HU.out.below hb1); have HV := Lib.hid (HV.out.below hb1); have HSJ := Lib.hid (HSJ.out.below hb1); have HW1 := Lib.hid (HW.out.trans (hb1.mono HW.out.size))
    clear hb1 HCO
    go_wp2_with fail
    go_at_call 29
    refine (gaps_any (cubA 1 2) _ w1 HU.out (HT.out.below HW1.out LT.out) (Nat.lt_of_lt_of_le LT.out HW1.out.size)).mono ?_
    rintro e w2 ⟨m2, Y2, he, hwd, hy, -, hb2⟩
    have e256 := (q1 1 (by decide) (by decide)).2.2.1
    rw [e256] at he
    subst he
    obtain rfl := gaps_none (q1 1 (by decide) (by decide)).2.2.2 (hy e256).2
    obtain ⟨a2, c2, hm2, -⟩ := hwd.open
    have hm2 : m2 = .slice a2 0 c2 := hm2
    subst hm2
    have HU := Lib.hid (HU.out.below hb2); have HV := Lib.hid (HV.out.below hb2); have HSJ := Lib.hid (HSJ.out.below hb2); have HW2 := Lib.hid (HW1.out.trans (hb2.mono HW1.out.size))
    clear hb2 hwd hy e256
    go_wp2_with fail
    go_at_call 29
    refine (gaps_any (cubB 1 j 2) _ w2 HV.out (HT.out.below HW2.out LT.out) (Nat.lt_of_lt_of_le LT.out HW2.out.size)).mono ?_
    rintro e w3 ⟨m3, Y3, he, hwd, hy, -, hb3⟩
    have e256 := q2 1 (by decide) j HJ.out
    rw [e256] at he
    subst he
    obtain rfl := gaps_none (q3 j HJ.out) (hy e256).2
    obtain ⟨a3, c3, hm3, -⟩ := hwd.open
    have hm3 : m3 = .slice a3 0 c3 := hm3
    subst hm3
    have HU := Lib.hid (HU.out.below hb3); have HY := Lib.hid hwd; have HSJ := Lib.hid (HSJ.out.below hb3); have HW3 := Lib.hid (HW2.out.trans (hb3.mono HW2.out.size))
    clear hb3 hwd hy e256
    go_wp2_with fail
    go_loopw [17, 66] (fun y i wr2 => ∃ n : Nat, n ≤ 1 ∧ i = .int .i64 (n : Int) ∧ y = .int .i64 ((3 ^ n : Nat) : Int) ∧ wr2 = w3) (fun _ i _ => 1 - (intOf i).toNat)
    case atStart => exact ⟨0, by omega, rfl, rfl, rfl⟩
    case round =>
    obtain ⟨m, hm', rfl, rfl, rfl⟩ := hrel
    by_cases hl2 : m < 1
    · have hm4 : m = 0 := by omega
      rcases hm4 with rfl
      · go_wp2_with fail
        go_roundw
        case rel => exact ⟨1, by decide, rfl, rfl, trivial⟩
        case measure => simp [intOf]
    · obtain rfl : m = 1 := by omega
      have b1 : (j : Int) < 2 := by have := HJ.out; omega
      have b2 : IntKind.i64.wrap ((j : Int) + 1) = (j : Int) + 1 := by rw [IntKind.wrap_i64]; omega
      have b3 : (j : Int) + 1 ≤ (cap : Int) := by have := HJ.out; have := HC1.out; omega
      have b4 : (0 : Int) ≤ (j : Int) + 1 := by omega
      have b5 : (cap = j) = False := by have := HJ.out; have := HC1.out; simp; omega
      go_wp2_with fail
      go_at_call 14
      refine Gives.then (works_any _ (HT.out.below HW3.out LT.out) (Nat.lt_of_lt_of_le LT.out HW3.out.size)) ?_
      intro w6 hb6
      have HW6 := Lib.hid (HW3.out.trans (hb6.mono HW3.out.size))
      clear hb6
      go_wp2_with fail
      go_returns
      exact ⟨rfl, HW6.out⟩
set_option maxRecDepth 100000 in
set_option maxHeartbeats 8000000 in
theorem cubes_2 (a0 b0 : Int) (ha : 0 ≤ a0 ∧ a0 ≤ 255) (hb : 0 ≤ b0 ∧ b0 ≤ 255) (hr : a0.tmod 3 = 1) (j : Nat) (hj : j < 4) (hm : b0.tmod 4 = (j : Int)) (w : World) (hT : Tab w) (lT : 0 < w.heap.size) :
    Gives 11 #[.int .u8 a0, .int .u8 b0] w (.bool true) := by
  unfold Gives
  have HT := Lib.hid hT; have LT := Lib.hid lT; have HJ := Lib.hid hj
  have hw1 : IntKind.i64.wrap a0 = a0 := by rw [IntKind.wrap_i64]; omega
  have hw2 : IntKind.i64.wrap b0 = b0 := by rw [IntKind.wrap_i64]; omega
  clear hT lT hj
  go_enter Tryd.func11, Tryd.ntmps11
  go_wp2_with fail
  go_loopw [6, 7, 9] (fun u v i wr => ∃ x : Nat, x ≤ 4 ∧ i = .int .i64 (x : Int) ∧ Own wr w.heap.size u (cubA 2 x) ∧ Own wr w.heap.size v (cubB 2 j x) ∧ Dj u v ∧ Below w.heap.size w wr) (fun _ _ i _ => 4 - (intOf i).toNat)
  case atStart => exact ⟨0, by omega, rfl, Own.nil _ _, Own.nil _ _, (fun k h _ => by simp [Value.ownBlock] at h : Dj (.slice none 0 0) (.slice none 0 0)), Below.refl _ _⟩
  case round =>
  obtain ⟨x, hx, rfl, hou, hov, hd, hw⟩ := hrel
  by_cases hlt : x < 4
  · have hk3 : (x : Int) < 4 := by omega
    have hw3 : IntKind.u32.wrap (x : Int) = (x : Int) := by rw [IntKind.wrap_u32]; omega
    have hmk := made_k 2 x (by decide) (by omega)
    have hmk : ∀ W, Gives 42 #[.int .u32 (x : Int), .int .u32 3] W (.agg #[.int .u32 ((mkS 2 x).1.toNat : Int), .int .u32 ((mkS 2 x).2.toNat : Int)]) := hmk
    have HMK := Lib.hid hmk; have HOU := Lib.hid hou; have HOV := Lib.hid hov; have HD := Lib.hid hd; have HW := Lib.hid hw
    clear hmk hou hov hd hw
    have HAS := Lib.hid (cubA_succ 2 x); have HBE := Lib.hid (fun e : x = j => (e ▸ cubB_eq 2 x : cubB 2 j (x + 1) = cubB 2 j x)); have HBN := Lib.hid (cubB_ne 2 j x)
    generalize mkS 2 x = p at *
    obtain ⟨xp, xm⟩ := p
    simp only at HMK HAS HBN
    have HAL := Lib.hid (cubA_len 2 x); have HBL := Lib.hid (cubB_len 2 j x)
    generalize cubA 2 x = As at *
    generalize cubB 2 j x = Bs at *
    go_wp2_with fail
    go_at_call 42
    (with_reducible refine Gives.then (HMK.out _) ?_)
    intro w1 hb1
    have k1 := World.alloc_heap_new w1 (.cells #[.int .u32 (xp.toNat : Int), .int .u32 (xm.toNat : Int)] 27)
    have c0 : (w1.alloc (.cells #[.int .u32 (xp.toNat : Int), .int .u32 (xm.toNat : Int)] 27)).cell? ⟨w1.heap.size, 0, none⟩ = some (.int .u32 (xp.toNat : Int)) := cell_block k1 rfl
    have c1 : (w1.alloc (.cells #[.int .u32 (xp.toNat : Int), .int .u32 (xm.toNat : Int)] 27)).cell? ⟨w1.heap.size, 1, none⟩ = some (.int .u32 (xm.toNat : Int)) := cell_block k1 rfl
    have hb2 : Below wr.heap.size wr ((w1.alloc (.cells #[.int .u32 (xp.toNat : Int), .int .u32 (xm.toNat : Int)] 27)).alloc (.cells #[.int .u32 (xp.toNat : Int), .int .u32 (xm.toNat : Int)] 27)) := (hb1.alloc hb1.size _).alloc (by rw [World.size_alloc]; have := hb1.size; omega) _
    have k2 : ((w1.alloc (.cells #[.int .u32 (xp.toNat : Int), .int .u32 (xm.toNat : Int)] 27)).alloc (.cells #[.int .u32 (xp.toNat : Int), .int .u32 (xm.toNat : Int)] 27)).heap[w1.heap.size + 1]? = some (.cells #[.int .u32 (xp.toNat : Int), .int .u32 (xm.toNat : Int)] 27) := by
      have h := World.alloc_heap_new (w1.alloc (.cells #[.int .u32 (xp.toNat : Int), .int .u32 (xm.toNat : Int)] 27)) (.cells #[.int .u32 (xp.toNat : Int), .int .u32 (xm.toNat : Int)] 27)
      rw [World.size_alloc] at h
      exact h
    have k1' : ((w1.alloc (.cells #[.int .u32 (xp.toNat : Int), .int .u32 (xm.toNat : Int)] 27)).alloc (.cells #[.int .u32 (xp.toNat : Int), .int .u32 (xm.toNat : Int)] 27)).heap[w1.heap.size]? = some (.cells #[.int .u32 (xp.toNat : Int), .int .u32 (xm.toNat : Int)] 27) := (((Below.refl _ (w1.alloc (.cells #[.int .u32 (xp.toNat : Int), .int .u32 (xm.toNat : Int)] 27))).alloc (Nat.le_refl _) (.cells #[.int .u32 (xp.toNat : Int), .int .u32 (xm.toNat : Int)] 27)).block w1.heap.size (by rw [World.size_alloc]; omega)).trans k1
    have hz1 := hb1.size
    have HZ1 := Lib.hid hz1; have HB2 := Lib.hid hb2; have K2 := Lib.hid k2; have K1 := Lib.hid k1'; have HOU2 := Lib.hid (HOU.out.below hb2); have HOV2 := Lib.hid (HOV.out.below hb2); have HW2 := Lib.hid (HW.out.trans (hb2.mono HW.out.size))
    clear k1 k2 k1' hb1 hb2 hz1
    by_cases he : x = j
    · have g1 : ((x : Int) != (j : Int)) = false := by rw [he]; simp
      have HBE2 := Lib.hid (HBE.out he)
      clear HBE HBN
      go_wp2_with (at_builtin; (refine wpList_appL rfl (.tmp 39) (.tmp 41) rfl w.heap.size _ _ _ (xp, xm) rfl rfl K2.out HOU2.out (by rw [HAL.out]; omega) (HW2.out.size) ?_; intro g cap w4 ho4 hg4 hat4; have HO4 := Lib.hid ho4; have HV4 := Lib.hid (HD.out.kept HOV2.out hg4); have HD4 := Lib.hid (HD.out.left (m := As.length + 1) (cap := cap) HOV2.out hat4); have HW4 := Lib.hid (HW2.out.grown hg4 HW2.out.size (fun k e => Own.row HOU2.out k e)); clear ho4 hg4 hat4))
      go_roundw
      case rel => exact ⟨x + 1, by omega, by go_num, by rw [HAS.out]; exact HO4.out, by rw [HBE2.out]; exact HV4.out, HD4.out, HW4.out⟩
      case measure => simp [intOf]; omega
    · have g1 : ((x : Int) != (j : Int)) = true := by rw [bne_iff_ne]; omega
      have HBN2 := Lib.hid (HBN.out he)
      clear HBE HBN
      go_wp2_with (first | (at_builtin; (refine wpList_appL rfl (.tmp 39) (.tmp 41) rfl w.heap.size _ _ _ (xp, xm) rfl rfl K2.out HOU2.out (by rw [HAL.out]; omega) (HW2.out.size) ?_; intro g cap w4 ho4 hg4 hat4; have HO4 := Lib.hid ho4; have HV4 := Lib.hid (HD.out.kept HOV2.out hg4); have HD4 := Lib.hid (HD.out.left (m := As.length + 1) (cap := cap) HOV2.out hat4); have HW4 := Lib.hid (HW2.out.grown hg4 HW2.out.size (fun k e => Own.row HOU2.out k e)); have KB := Lib.hid ((hg4.block w1.heap.size (Array.getElem?_eq_some_iff.1 K1.out).1 (fun e => by have := HOU.out.lies _ e.symm; have := HZ1.out; omega)).trans K1.out); clear ho4 hg4 hat4; have d0 : w4.cell? ⟨w1.heap.size, 0, none⟩ = some (.int .u32 (xp.toNat : Int)) := cell_block KB.out rfl; have d1 : w4.cell? ⟨w1.heap.size, 1, none⟩ = some (.int .u32 (xm.toNat : Int)) := cell_block KB.out rfl; have hb5 : Below w4.heap.size w4 (w4.alloc (.cells #[.int .u32 (xp.toNat : Int), .int .u32 (xm.toNat : Int)] 27)) := (Below.refl _ _).alloc (Nat.le_refl _) _; have K5 := Lib.hid (World.alloc_heap_new w4 (.cells #[.int .u32 (xp.toNat : Int), .int .u32 (xm.toNat : Int)] 27)); have HO5 := Lib.hid (HO4.out.below hb5); have HV5 := Lib.hid (HV4.out.below hb5); have HW5 := Lib.hid (HW4.out.trans (hb5.mono HW4.out.size)); clear hb5)) | (at_builtin; (refine wpList_appL rfl (.tmp 46) (.tmp 48) rfl w.heap.size _ _ _ (xp, xm) rfl rfl K5.out HV5.out (by have := HBL.out; omega) (HW5.out.size) ?_; intro g2 cap2 w6 ho6 hg6 hat6; have HV6 := Lib.hid ho6; have HO6 := Lib.hid (HD4.out.symm.kept HO5.out hg6); have HD6 := Lib.hid ((HD4.out.symm.left (m := Bs.length + 1) (cap := cap2) HO5.out hat6).symm); have HW6 := Lib.hid (HW5.out.grown hg6 HW5.out.size (fun k e => Own.row HV5.out k e)); clear ho6 hg6 hat6)))
      go_roundw
      case rel => exact ⟨x + 1, by omega, by go_num, by rw [HAS.out]; exact HO6.out, by rw [HBN2.out]; exact HV6.out, HD6.out, HW6.out⟩
      case measure => simp [intOf]; omega
  · obtain rfl : x = 4 := by omega
    have hwu := hou.wd
    have hwv := hov.wd
    obtain ⟨g, off, cap, rfl, hc1, hc2, hsub⟩ := wd_mem hwu (by rw [cubA_len]; decide)
    rw [cubA_len] at hc1 hwu ⊢
    obtain ⟨bo, bc, hbv, -⟩ := hwv.open
    obtain ⟨n, hn⟩ : ∃ n, (cubB 2 j 4).length = n := ⟨_, rfl⟩
    rw [hn] at hbv
    subst hbv
    have hjl : j < (cubA 2 4).length := by rw [cubA_len]; exact HJ.out
    have hsj := hsub j hjl
    have hel : (cubA 2 4)[j] = mkS 2 j := by simp [cubA]
    rw [hel] at hsj
    have HU := Lib.hid hwu; have HV := Lib.hid hwv; have HSJ := Lib.hid hsj; have HW := Lib.hid hw; have HC1 := Lib.hid hc1; have HC2 := Lib.hid hc2
    clear hwu hwv hsj hel hjl hsub hc1 hc2 hw hou hov hd hn hlt hx
    have hco : Gives 31 #[.slice (some ⟨g, off, none⟩) 4 cap] wr (.tuple #[.int .i64 9, .int .i64 0]) := by
      have h := count_any (cubA 2 4) _ wr HU.out
      rw [(q1 2 (by decide) (by decide)).1, (q1 2 (by decide) (by decide)).2.1] at h
      exact h
    have HCO := Lib.hid hco
    clear hco
    go_wp2_with fail
    go_at_call 31
    refine Gives.then HCO.out ?_
    intro w1 hb1
    have HU := Lib.hid (HU.out.below hb1); have HV := Lib.hid (HV.out.below hb1); have HSJ := Lib.hid (HSJ.out.below hb1); have HW1 := Lib.hid (HW.out.trans (hb1.mono HW.out.size))
    clear hb1 HCO
    go_wp2_with fail
    go_at_call 29
    refine (gaps_any (cubA 2 4) _ w1 HU.out (HT.out.below HW1.out LT.out) (Nat.lt_of_lt_of_le LT.out HW1.out.size)).mono ?_
    rintro e w2 ⟨m2, Y2, he, hwd, hy, -, hb2⟩
    have e256 := (q1 2 (by decide) (by decide)).2.2.1
    rw [e256] at he
    subst he
    obtain rfl := gaps_none (q1 2 (by decide) (by decide)).2.2.2 (hy e256).2
    obtain ⟨a2, c2, hm2, -⟩ := hwd.open
    have hm2 : m2 = .slice a2 0 c2 := hm2
    subst hm2
    have HU := Lib.hid (HU.out.below hb2); have HV := Lib.hid (HV.out.below hb2); have HSJ := Lib.hid (HSJ.out.below hb2); have HW2 := Lib.hid (HW1.out.trans (hb2.mono HW1.out.size))
    clear hb2 hwd hy e256
    go_wp2_with fail
    go_at_call 29
    refine (gaps_any (cubB 2 j 4) _ w2 HV.out (HT.out.below HW2.out LT.out) (Nat.lt_of_lt_of_le LT.out HW2.out.size)).mono ?_
    rintro e w3 ⟨m3, Y3, he, hwd, hy, -, hb3⟩
    have e256 := q2 2 (by decide) j HJ.out
    rw [e256] at he
    subst he
    obtain rfl := gaps_one (q42 j HJ.out).1 (q42 j HJ.out).2 (hy e256).1 (hy e256).2
    obtain ⟨a3, c3, hm3, -⟩ := hwd.open
    have hm3 : m3 = .slice a3 1 c3 := hm3
    subst hm3
    have HU := Lib.hid (HU.out.below hb3); have HY := Lib.hid hwd; have HSJ := Lib.hid (HSJ.out.below hb3); have HW3 := Lib.hid (HW2.out.trans (hb3.mono HW2.out.size))
    clear hb3 hwd hy e256
    go_wp2_with fail
    go_loopw [17, 66] (fun y i wr2 => ∃ n : Nat, n ≤ 2 ∧ i = .int .i64 (n : Int) ∧ y = .int .i64 ((3 ^ n : Nat) : Int) ∧ wr2 = w3) (fun _ i _ => 2 - (intOf i).toNat)
    case atStart => exact ⟨0, by omega, rfl, rfl, rfl⟩
    case round =>
    obtain ⟨m, hm', rfl, rfl, rfl⟩ := hrel
    by_cases hl2 : m < 2
    · have hm4 : m = 0 ∨ m = 1 := by omega
      rcases hm4 with rfl | rfl
      · go_wp2_with fail
        go_roundw
        case rel => exact ⟨1, by decide, rfl, rfl, trivial⟩
        case measure => simp [intOf]
      · go_wp2_with fail
        go_roundw
        case rel => exact ⟨2, by decide, rfl, rfl, trivial⟩
        case measure => simp [intOf]
    · obtain rfl : m = 2 := by omega
      have b1 : (j : Int) < 4 := by have := HJ.out; omega
      have b2 : IntKind.i64.wrap ((j : Int) + 1) = (j : Int) + 1 := by rw [IntKind.wrap_i64]; omega
      have b3 : (j : Int) + 1 ≤ (cap : Int) := by have := HJ.out; have := HC1.out; omega
      have b4 : (0 : Int) ≤ (j : Int) + 1 := by omega
      have b5 : (cap = j) = False := by have := HJ.out; have := HC1.out; simp; omega
      go_wp2_with fail
      have hsm := same_any [mkS 2 j] [mkS 2 j] _ _ wr HY.out HSJ.out
      rw [decide_eq_true rfl] at hsm
      have HSM := Lib.hid hsm
      clear hsm
      go_at_call 22
      refine Gives.then HSM.out ?_
      intro w5 hb5
      have HW5 := Lib.hid (HW3.out.trans (hb5.mono HW3.out.size))
      clear hb5
      go_wp2_with fail
      go_at_call 14
      refine Gives.then (works_any _ (HT.out.below HW5.out LT.out) (Nat.lt_of_lt_of_le LT.out HW5.out.size)) ?_
      intro w6 hb6
      have HW6 := Lib.hid (HW5.out.trans (hb6.mono HW5.out.size))
      clear hb6
      go_wp2_with fail
      go_returns
      exact ⟨rfl, HW6.out⟩
set_option maxRecDepth 100000 in
set_option maxHeartbeats 8000000 in
theorem cubes_3 (a0 b0 : Int) (ha : 0 ≤ a0 ∧ a0 ≤ 255) (hb : 0 ≤ b0 ∧ b0 ≤ 255) (hr : a0.tmod 3 = 2) (j : Nat) (hj : j < 8) (hm : b0.tmod 8 = (j : Int)) (w : World) (hT : Tab w) (lT : 0 < w.heap.size) :
    Gives 11 #[.int .u8 a0, .int .u8 b0] w (.bool true) := by
  unfold Gives
  have HT := Lib.hid hT; have LT := Lib.hid lT; have HJ := Lib.hid hj
  have hw1 : IntKind.i64.wrap a0 = a0 := by rw [IntKind.wrap_i64]; omega
  have hw2 : IntKind.i64.wrap b0 = b0 := by rw [IntKind.wrap_i64]; omega
  clear hT lT hj
  go_enter Tryd.func11, Tryd.ntmps11
  go_wp2_with fail
  go_loopw [6, 7, 9] (fun u v i wr => ∃ x : Nat, x ≤ 8 ∧ i = .int .i64 (x : Int) ∧ Own wr w.heap.size u (cubA 3 x) ∧ Own wr w.heap.size v (cubB 3 j x) ∧ Dj u v ∧ Below w.heap.size w wr) (fun _ _ i _ => 8 - (intOf i).toNat)
  case atStart => exact ⟨0, by omega, rfl, Own.nil _ _, Own.nil _ _, (fun k h _ => by simp [Value.ownBlock] at h : Dj (.slice none 0 0) (.slice none 0 0)), Below.refl _ _⟩
  case round =>
  obtain ⟨x, hx, rfl, hou, hov, hd, hw⟩ := hrel
  by_cases hlt : x < 8
  · have hk3 : (x : Int) < 8 := by omega
    have hw3 : IntKind.u32.wrap (x : Int) = (x : Int) := by rw [IntKind.wrap_u32]; omega
    have hmk := made_k 3 x (by decide) (by omega)
    have hmk : ∀ W, Gives 42 #[.int .u32 (x : Int), .int .u32 7] W (.agg #[.int .u32 ((mkS 3 x).1.toNat : Int), .int .u32 ((mkS 3 x).2.toNat : Int)]) := hmk
    have HMK := Lib.hid hmk; have HOU := Lib.hid hou; have HOV := Lib.hid hov; have HD := Lib.hid hd; have HW := Lib.hid hw
    clear hmk hou hov hd hw
    have HAS := Lib.hid (cubA_succ 3 x); have HBE := Lib.hid (fun e : x = j => (e ▸ cubB_eq 3 x : cubB 3 j (x + 1) = cubB 3 j x)); have HBN := Lib.hid (cubB_ne 3 j x)
    generalize mkS 3 x = p at *
    obtain ⟨xp, xm⟩ := p
    simp only at HMK HAS HBN
    have HAL := Lib.hid (cubA_len 3 x); have HBL := Lib.hid (cubB_len 3 j x)
    generalize cubA 3 x = As at *
    generalize cubB 3 j x = Bs at *
    go_wp2_with fail
    go_at_call 42
    (with_reducible refine Gives.then (HMK.out _) ?_)
    intro w1 hb1
    have k1 := World.alloc_heap_new w1 (.cells #[.int .u32 (xp.toNat : Int), .int .u32 (xm.toNat : Int)] 27)
    have c0 : (w1.alloc (.cells #[.int .u32 (xp.toNat : Int), .int .u32 (xm.toNat : Int)] 27)).cell? ⟨w1.heap.size, 0, none⟩ = some (.int .u32 (xp.toNat : Int)) := cell_block k1 rfl
    have c1 : (w1.alloc (.cells #[.int .u32 (xp.toNat : Int), .int .u32 (xm.toNat : Int)] 27)).cell? ⟨w1.heap.size, 1, none⟩ = some (.int .u32 (xm.toNat : Int)) := cell_block k1 rfl
    have hb2 : Below wr.heap.size wr ((w1.alloc (.cells #[.int .u32 (xp.toNat : Int), .int .u32 (xm.toNat : Int)] 27)).alloc (.cells #[.int .u32 (xp.toNat : Int), .int .u32 (xm.toNat : Int)] 27)) := (hb1.alloc hb1.size _).alloc (by rw [World.size_alloc]; have := hb1.size; omega) _
    have k2 : ((w1.alloc (.cells #[.int .u32 (xp.toNat : Int), .int .u32 (xm.toNat : Int)] 27)).alloc (.cells #[.int .u32 (xp.toNat : Int), .int .u32 (xm.toNat : Int)] 27)).heap[w1.heap.size + 1]? = some (.cells #[.int .u32 (xp.toNat : Int), .int .u32 (xm.toNat : Int)] 27) := by
      have h := World.alloc_heap_new (w1.alloc (.cells #[.int .u32 (xp.toNat : Int), .int .u32 (xm.toNat : Int)] 27)) (.cells #[.int .u32 (xp.toNat : Int), .int .u32 (xm.toNat : Int)] 27)
      rw [World.size_alloc] at h
      exact h
    have k1' : ((w1.alloc (.cells #[.int .u32 (xp.toNat : Int), .int .u32 (xm.toNat : Int)] 27)).alloc (.cells #[.int .u32 (xp.toNat : Int), .int .u32 (xm.toNat : Int)] 27)).heap[w1.heap.size]? = some (.cells #[.int .u32 (xp.toNat : Int), .int .u32 (xm.toNat : Int)] 27) := (((Below.refl _ (w1.alloc (.cells #[.int .u32 (xp.toNat : Int), .int .u32 (xm.toNat : Int)] 27))).alloc (Nat.le_refl _) (.cells #[.int .u32 (xp.toNat : Int), .int .u32 (xm.toNat : Int)] 27)).block w1.heap.size (by rw [World.size_alloc]; omega)).trans k1
    have hz1 := hb1.size
    have HZ1 := Lib.hid hz1; have HB2 := Lib.hid hb2; have K2 := Lib.hid k2; have K1 := Lib.hid k1'; have HOU2 := Lib.hid (HOU.out.below hb2); have HOV2 := Lib.hid (HOV.out.below hb2); have HW2 := Lib.hid (HW.out.trans (hb2.mono HW.out.size))
    clear k1 k2 k1' hb1 hb2 hz1
    by_cases he : x = j
    · have g1 : ((x : Int) != (j : Int)) = false := by rw [he]; simp
      have HBE2 := Lib.hid (HBE.out he)
      clear HBE HBN
      go_wp2_with (at_builtin; (refine wpList_appL rfl (.tmp 39) (.tmp 41) rfl w.heap.size _ _ _ (xp, xm) rfl rfl K2.out HOU2.out (by rw [HAL.out]; omega) (HW2.out.size) ?_; intro g cap w4 ho4 hg4 hat4; have HO4 := Lib.hid ho4; have HV4 := Lib.hid (HD.out.kept HOV2.out hg4); have HD4 := Lib.hid (HD.out.left (m := As.length + 1) (cap := cap) HOV2.out hat4); have HW4 := Lib.hid (HW2.out.grown hg4 HW2.out.size (fun k e => Own.row HOU2.out k e)); clear ho4 hg4 hat4))
      go_roundw
      case rel => exact ⟨x + 1, by omega, by go_num, by rw [HAS.out]; exact HO4.out, by rw [HBE2.out]; exact HV4.out, HD4.out, HW4.out⟩
      case measure => simp [intOf]; omega
    · have g1 : ((x : Int) != (j : Int)) = true := by rw [bne_iff_ne]; omega
      have HBN2 := Lib.hid (HBN.out he)
      clear HBE HBN
      go_wp2_with (first | (at_builtin; (refine wpList_appL rfl (.tmp 39) (.tmp 41) rfl w.heap.size _ _ _ (xp, xm) rfl rfl K2.out HOU2.out (by rw [HAL.out]; omega) (HW2.out.size) ?_; intro g cap w4 ho4 hg4 hat4; have HO4 := Lib.hid ho4; have HV4 := Lib.hid (HD.out.kept HOV2.out hg4); have HD4 := Lib.hid (HD.out.left (m := As.length + 1) (cap := cap) HOV2.out hat4); have HW4 := Lib.hid (HW2.out.grown hg4 HW2.out.size (fun k e => Own.row HOU2.out k e)); have KB := Lib.hid ((hg4.block w1.heap.size (Array.getElem?_eq_some_iff.1 K1.out).1 (fun e => by have := HOU.out.lies _ e.symm; have := HZ1.out; omega)).trans K1.out); clear ho4 hg4 hat4; have d0 : w4.cell? ⟨w1.heap.size, 0, none⟩ = some (.int .u32 (xp.toNat : Int)) := cell_block KB.out rfl; have d1 : w4.cell? ⟨w1.heap.size, 1, none⟩ = some (.int .u32 (xm.toNat : Int)) := cell_block KB.out rfl; have hb5 : Below w4.heap.size w4 (w4.alloc (.cells #[.int .u32 (xp.toNat : Int), .int .u32 (xm.toNat : Int)] 27)) := (Below.refl _ _).alloc (Nat.le_refl _) _; have K5 := Lib.hid (World.alloc_heap_new w4 (.cells #[.int .u32 (xp.toNat : Int), .int .u32 (xm.toNat : Int)] 27)); have HO5 := Lib.hid (HO4.out.below hb5); have HV5 := Lib.hid (HV4.out.below hb5); have HW5 := Lib.hid (HW4.out.trans (hb5.mono HW4.out.size)); clear hb5)) | (at_builtin; (refine wpList_appL rfl (.tmp 46) (.tmp 48) rfl w.heap.size _ _ _ (xp, xm) rfl rfl K5.out HV5.out (by have := HBL.out; omega) (HW5.out.size) ?_; intro g2 cap2 w6 ho6 hg6 hat6; have HV6 := Lib.hid ho6; have HO6 := Lib.hid (HD4.out.symm.kept HO5.out hg6); have HD6 := Lib.hid ((HD4.out.symm.left (m := Bs.length + 1) (cap := cap2) HO5.out hat6).symm); have HW6 := Lib.hid (HW5.out.grown hg6 HW5.out.size (fun k e => Own.row HV5.out k e)); clear ho6 hg6 hat6)))
      go_roundw
      case rel => exact ⟨x + 1, by omega, by go_num, by rw [HAS.out]; exact HO6.out, by rw [HBN2.out]; exact HV6.out, HD6.out, HW6.out⟩
      case measure => simp [intOf]; omega
  · obtain rfl : x = 8 := by omega
    have hwu := hou.wd
    have hwv := hov.wd
    obtain ⟨g, off, cap, rfl, hc1, hc2, hsub⟩ := wd_mem hwu (by rw [cubA_len]; decide)
    rw [cubA_len] at hc1 hwu ⊢
    obtain ⟨bo, bc, hbv, -⟩ := hwv.open
    obtain ⟨n, hn⟩ : ∃ n, (cubB 3 j 8).length = n := ⟨_, rfl⟩
    rw [hn] at hbv
    subst hbv
    have hjl : j < (cubA 3 8).length := by rw [cubA_len]; exact HJ.out
    have hsj := hsub j hjl
    have hel : (cubA 3 8)[j] = mkS 3 j := by simp [cubA]
    rw [hel] at hsj
    have HU := Lib.hid hwu; have HV := Lib.hid hwv; have HSJ := Lib.hid hsj; have HW := Lib.hid hw; have HC1 := Lib.hid hc1; have HC2 := Lib.hid hc2
    clear hwu hwv hsj hel hjl hsub hc1 hc2 hw hou hov hd hn hlt hx
    have hco : Gives 31 #[.slice (some ⟨g, off, none⟩) 8 cap] wr (.tuple #[.int .i64 27, .int .i64 0]) := by
      have h := count_any (cubA 3 8) _ wr HU.out
      rw [(q1 3 (by decide) (by decide)).1, (q1 3 (by decide) (by decide)).2.1] at h
      exact h
    have HCO := Lib.hid hco
    clear hco
    go_wp2_with fail
    go_at_call 31
    refine Gives.then HCO.out ?_
    intro w1 hb1
    have HU := Lib.hid (HU.out.below hb1); have HV := Lib.hid (HV.out.below hb1); have HSJ := Lib.hid (HSJ.out.below hb1); have HW1 := Lib.hid (HW.out.trans (hb1.mono HW.out.size))
    clear hb1 HCO
    go_wp2_with fail
    go_at_call 29
    refine (gaps_any (cubA 3 8) _ w1 HU.out (HT.out.below HW1.out LT.out) (Nat.lt_of_lt_of_le LT.out HW1.out.size)).mono ?_
    rintro e w2 ⟨m2, Y2, he, hwd, hy, -, hb2⟩
    have e256 := (q1 3 (by decide) (by decide)).2.2.1
    rw [e256] at he
    subst he
    obtain rfl := gaps_none (q1 3 (by decide) (by decide)).2.2.2 (hy e256).2
    obtain ⟨a2, c2, hm2, -⟩ := hwd.open
    have hm2 : m2 = .slice a2 0 c2 := hm2
    subst hm2
    have HU := Lib.hid (HU.out.below hb2); have HV := Lib.hid (HV.out.below hb2); have HSJ := Lib.hid (HSJ.out.below hb2); have HW2 := Lib.hid (HW1.out.trans (hb2.mono HW1.out.size))
    clear hb2 hwd hy e256
    go_wp2_with fail
    go_at_call 29
    refine (gaps_any (cubB 3 j 8) _ w2 HV.out (HT.out.below HW2.out LT.out) (Nat.lt_of_lt_of_le LT.out HW2.out.size)).mono ?_
    rintro e w3 ⟨m3, Y3, he, hwd, hy, -, hb3⟩
    have e256 := q2 3 (by decide) j HJ.out
    rw [e256] at he
    subst he
    obtain rfl := gaps_one (q43 j HJ.out).1 (q43 j HJ.out).2 (hy e256).1 (hy e256).2
    obtain ⟨a3, c3, hm3, -⟩ := hwd.open
    have hm3 : m3 = .slice a3 1 c3 := hm3
    subst hm3
    have HU := Lib.hid (HU.out.below hb3); have HY := Lib.hid hwd; have HSJ := Lib.hid (HSJ.out.below hb3); have HW3 := Lib.hid (HW2.out.trans (hb3.mono HW2.out.size))
    clear hb3 hwd hy e256
    go_wp2_with fail
    go_loopw [17, 66] (fun y i wr2 => ∃ n : Nat, n ≤ 3 ∧ i = .int .i64 (n : Int) ∧ y = .int .i64 ((3 ^ n : Nat) : Int) ∧ wr2 = w3) (fun _ i _ => 3 - (intOf i).toNat)
    case atStart => exact ⟨0, by omega, rfl, rfl, rfl⟩
    case round =>
    obtain ⟨m, hm', rfl, rfl, rfl⟩ := hrel
    by_cases hl2 : m < 3
    · have hm4 : m = 0 ∨ m = 1 ∨ m = 2 := by omega
      rcases hm4 with rfl | rfl | rfl
      · go_wp2_with fail
        go_roundw
        case rel => exact ⟨1, by decide, rfl, rfl, trivial⟩
        case measure => simp [intOf]
      · go_wp2_with fail
        go_roundw
        case rel => exact ⟨2, by decide, rfl, rfl, trivial⟩
        case measure => simp [intOf]
      · go_wp2_with fail
        go_roundw
        case rel => exact ⟨3, by decide, rfl, rfl, trivial⟩
        case measure => simp [intOf]
    · obtain rfl : m = 3 := by omega
      have b1 : (j : Int) < 8 := by have := HJ.out; omega
      have b2 : IntKind.i64.wrap ((j : Int) + 1) = (j : Int) + 1 := by rw [IntKind.wrap_i64]; omega
      have b3 : (j : Int) + 1 ≤ (cap : Int) := by have := HJ.out; have := HC1.out; omega
      have b4 : (0 : Int) ≤ (j : Int) + 1 := by omega
      have b5 : (cap = j) = False := by have := HJ.out; have := HC1.out; simp; omega
      go_wp2_with fail
      have hsm := same_any [mkS 3 j] [mkS 3 j] _ _ wr HY.out HSJ.out
      rw [decide_eq_true rfl] at hsm
      have HSM := Lib.hid hsm
      clear hsm
      go_at_call 22
      refine Gives.then HSM.out ?_
      intro w5 hb5
      have HW5 := Lib.hid (HW3.out.trans (hb5.mono HW3.out.size))
      clear hb5
      go_wp2_with fail
      go_at_call 14
      refine Gives.then (works_any _ (HT.out.below HW5.out LT.out) (Nat.lt_of_lt_of_le LT.out HW5.out.size)) ?_
      intro w6 hb6
      have HW6 := Lib.hid (HW5.out.trans (hb6.mono HW5.out.size))
      clear hb6
      go_wp2_with fail
      go_returns
      exact ⟨rfl, HW6.out⟩
theorem cubes_any (a0 b0 : Int) (ha : 0 ≤ a0 ∧ a0 ≤ 255) (hb : 0 ≤ b0 ∧ b0 ≤ 255) (w : World) (hT : Tab w) (lT : 0 < w.heap.size) : Gives 11 #[.int .u8 a0, .int .u8 b0] w (.bool true) := by
  have h3 : 0 ≤ a0.tmod 3 ∧ a0.tmod 3 < 3 := ⟨Int.tmod_nonneg _ ha.1, Int.tmod_lt_of_pos _ (by decide)⟩
  have hj : ∀ N : Nat, 0 < N → ∃ j : Nat, j < N ∧ b0.tmod (N : Int) = (j : Int) := fun N hN => ⟨(b0.tmod (N : Int)).toNat, by
    have h1 := Int.tmod_nonneg (a := b0) (N : Int) hb.1
    have h2 := Int.tmod_lt_of_pos b0 (b := (N : Int)) (by omega)
    omega, by
    have h1 := Int.tmod_nonneg (a := b0) (N : Int) hb.1
    omega⟩
  obtain h | h | h : a0.tmod 3 = 0 ∨ a0.tmod 3 = 1 ∨ a0.tmod 3 = 2 := by omega
  · obtain ⟨j, hj1, hj2⟩ := hj 2 (by decide)
    exact cubes_1 a0 b0 ha hb h j hj1 hj2 w hT lT
  · obtain ⟨j, hj1, hj2⟩ := hj 4 (by decide)
    exact cubes_2 a0 b0 ha hb h j hj1 hj2 w hT lT
  · obtain ⟨j, hj1, hj2⟩ := hj 8 (by decide)
    exact cubes_3 a0 b0 ha hb h j hj1 hj2 w hT lT
end Go.Proofs.YtpnmapfabjdfjaaDoor
