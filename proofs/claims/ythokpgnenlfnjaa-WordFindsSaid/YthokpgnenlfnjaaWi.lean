/-
  WordInside, walked.
-/
import Derived.Test.YthokpgnenlfnjaaHx
namespace Go.Proofs.Ythokpgnenlfnjaa
open Go.RowKit Go.Sort
theorem rem_iff : ∀ (w v : List Snd), rem v w = [] ↔ v.Sublist w
  | [], v => by
    have e : rem v [] = v := by cases v <;> rfl
    rw [e, List.sublist_nil]
  | s :: w, [] => by
    have e : rem [] (s :: w) = rem [] w := rfl
    rw [e, rem_iff w []]; simp
  | s :: w, x :: r => by
    have e : rem (x :: r) (s :: w) = if x = s then rem r w else rem (x :: r) w := rfl
    rw [e]
    by_cases h : x = s
    · subst h
      rw [if_pos rfl, rem_iff w r, List.cons_sublist_cons]
    · rw [if_neg h, rem_iff w (x :: r), List.sublist_cons_iff]
      constructor
      · exact .inl
      · rintro (h1 | ⟨r', h1, _⟩)
        · exact h1
        · cases h1; exact absurd rfl h
theorem insS_yes {v w : List Snd} (h : v.Sublist w) : insS v w = true := decide_eq_true ((rem_iff w v).2 h)
theorem insS_no {v w : List Snd} (h : ¬ v.Sublist w) : insS v w = false := decide_eq_false (fun e => h ((rem_iff w v).1 e))
/-- The sounds of the first k whose bits are set. -/
def kept (b : Nat) (xs : List Snd) : Nat → List Snd
  | 0 => []
  | k + 1 => if h : k < xs.length then (if bits .and .u16 ((b : Int) / 2 ^ (k % 16)) 1 = 1 then kept b xs k ++ [xs[k]] else kept b xs k) else kept b xs k
theorem kept_sub (b : Nat) (xs : List Snd) : ∀ k, (kept b xs k).Sublist (xs.take k)
  | 0 => by simp [kept]
  | k + 1 => by
    have ih := kept_sub b xs k
    simp only [kept]
    by_cases h : k < xs.length
    · rw [dif_pos h, List.take_succ_eq_append_getElem h]
      split
      · exact ih.append (List.Sublist.refl _)
      · exact ih.trans (List.sublist_append_left _ _)
    · rw [dif_neg h, List.take_of_length_le (by omega)]
      rwa [List.take_of_length_le (by omega)] at ih
theorem kept_all (b : Nat) (xs : List Snd) : (kept b xs xs.length).Sublist xs := by
  have := kept_sub b xs xs.length
  rwa [List.take_length] at this
set_option maxHeartbeats 2000000 in
set_option maxRecDepth 100000 in
theorem left_any (xs : List Snd) (v : Value) (b : Nat) (hb : b < 65536) (hl : xs.length ≤ 100) (w : World) (h : Wd w v xs) : Makes 43 #[v, .int .u16 b] w (kept b xs xs.length) := by
  unfold Makes
  obtain ⟨ao, cap, rfl, -, -, H1⟩ := h.open
  clear h
  have H1 := Lib.hid H1
  generalize hK : kept b xs = K
  have hstep : ∀ k (h : k < xs.length), (bits .and .u16 ((b : Int) / 2 ^ (k % 16)) 1 = 1 → K (k + 1) = K k ++ [xs[k]]) ∧ (¬ bits .and .u16 ((b : Int) / 2 ^ (k % 16)) 1 = 1 → K (k + 1) = K k) := fun k h => by
    rw [← hK]; simp only [kept]; rw [dif_pos h]
    exact ⟨fun e => if_pos e, fun e => if_neg e⟩
  have hlen : ∀ k, (K k).length ≤ k := fun k => by
    rw [← hK]; have := (kept_sub b xs k).length_le; rw [List.length_take] at this; omega
  have hK0 : K 0 = [] := by rw [← hK]; rfl
  have HST := Lib.hid hstep; have HLN := Lib.hid hlen; have HK0 := Lib.hid hK0
  clear hK hstep hlen hK0
  go_enter Try.func43, Try.ntmps43
  go_wp2_with fail
  go_loopw [6, 5] (fun i s wr => ∃ k : Nat, k ≤ xs.length ∧ i = .int .i64 (k : Int) ∧ Own wr w.heap.size s (K k) ∧ Below w.heap.size w wr ∧ w.heap.size ≤ wr.heap.size) (fun i _ _ => xs.length - (intOf i).toNat)
  case atStart => exact ⟨0, by omega, rfl, by rw [HK0.out]; exact Own.nil _ _, Below.refl _ _, Nat.le_refl _⟩
  case round =>
    clear HK0
    obtain ⟨k, hk, rfl, ho, hw, hsz⟩ := hrel
    by_cases hlt : k < xs.length
    · obtain ⟨bb, off, rfl, lb, d0, d1⟩ := H1.out k hlt
      have d0 := (hw.cell (p := ⟨bb, off + k * 2, none⟩) lb).trans d0
      have d1 := (hw.cell (p := ⟨bb, off + k * 2 + 1, none⟩) lb).trans d1
      obtain ⟨q1, q2⟩ := HST.out k hlt
      have hkl := HLN.out k
      generalize hx : xs[k] = x at *
      obtain ⟨x1, x2⟩ := x
      have HO := Lib.hid ho; have Q1 := Lib.hid q1; have Q2 := Lib.hid q2
      simp only at d0 d1
      clear ho q1 q2 hx H1
      by_cases hbit : bits .and .u16 ((b : Int) / 2 ^ (k % 16)) 1 = 1
      · have hb1 : (bits .and .u16 ((b : Int) / 2 ^ (k % 16)) 1 == 1) = true := by simpa using hbit
        have HQ := Lib.hid (Q1.out hbit)
        have ho1 := HO.out.below ((Below.refl _ wr).alloc (Nat.le_refl _) (.cells #[.int .u32 x1.toNat, .int .u32 x2.toNat] 32 (0, 0)))
        have hw1 := hw.alloc hsz (.cells #[.int .u32 x1.toNat, .int .u32 x2.toNat] 32 (0, 0))
        have HO1 := Lib.hid ho1
        clear hbit ho1
        go_wp2_with (at_builtin; refine wpList_app rfl (.tmp 19) (.tmp 24) 22 Try.underlying22 rfl w.heap.size _ _ _ _ rfl rfl HO1.out (one_new wr _ _ x1 x2 rfl rfl) (by simp; omega) (by rw [World.size_alloc]; omega) ?_; intro v' w2 ho2 hk2 hz2)
        go_roundw
        case rel => exact ⟨k + 1, by omega, by go_num, by rw [HQ.out]; exact ho2, hk2 _ _ (Nat.le_refl _) hw1, by have := (hk2 _ _ (Nat.le_refl _) hw1).size; omega⟩
        case measure => simp [intOf]; omega
      · have hb1 : (bits .and .u16 ((b : Int) / 2 ^ (k % 16)) 1 == 1) = false := by simpa using hbit
        have HQ := Lib.hid (Q2.out hbit)
        clear hbit
        go_wp2_with fail
        go_roundw
        case rel => exact ⟨k + 1, by omega, by go_num, by rw [HQ.out]; exact HO.out, hw, hsz⟩
        case measure => simp [intOf]; omega
    · obtain rfl : k = xs.length := by omega
      go_wp2_with fail
      go_returns
      exact ⟨_, rfl, ho, hw⟩
theorem own_alloc0 {w w1 : World} (hw : Below w.heap.size w w1) : Own (w1.alloc (.cells #[] 32)) w.heap.size (.slice (some ⟨w1.heap.size, 0, none⟩) 0 0) [] := (Own.empty w1).mono hw.size
set_option maxRecDepth 100000 in
set_option maxHeartbeats 4000000 in
theorem insideLaw_any (xs : List Snd) (v : Value) (p q : Nat) (hp : p < 65536) (hq : q < 65536) (w : World) (ha : Wd w v xs) : Gives 11 #[v, .int .u16 p, .int .u16 q] w (.bool true) := by
  unfold Gives
  have DA := Lib.hid ha
  obtain ⟨ao, ac, rfl, ka, ma, -⟩ := ha.open
  have l1 := maxLen_lt (Nat.le_trans ka ma)
  clear ha ka ma
  have hw := Below.refl w.heap.size w
  by_cases h1 : xs.length ≤ 100
  · have hv1 := kept_all p xs
    have hvl : (kept p xs xs.length).length ≤ 100 := Nat.le_trans hv1.length_le h1
    have hL1 := fun W (hb : Below w.heap.size w W) => left_any xs _ p hp h1 W (DA.out.below hb)
    generalize kept p xs xs.length = vs at *
    have hu1 := kept_all q vs
    have hul : (kept q vs vs.length).length ≤ 100 := Nat.le_trans hu1.length_le hvl
    have hL2 := fun W v2 (hd : Wd W v2 vs) => left_any vs v2 q hq hvl W hd
    generalize kept q vs vs.length = us at *
    have i1 := insS_yes hv1
    have i2 := insS_yes hu1
    have i3 := insS_yes (hu1.trans hv1)
    have i4 := insS_yes (List.Sublist.refl xs)
    have i5 := insS_yes (List.nil_sublist xs)
    have i6 : insS (xs ++ [(1#32, 0#32)]) xs = false := insS_no fun e => by have := e.length_le; simp at this; omega
    have i7 := insS_yes (List.sublist_append_left xs [(1#32, 0#32)])
    have I1 := Lib.hid i1; have I2 := Lib.hid i2; have I3 := Lib.hid i3; have I4 := Lib.hid i4; have I5 := Lib.hid i5; have I6 := Lib.hid i6; have I7 := Lib.hid i7
    have HL1 := Lib.hid hL1; have HL2 := Lib.hid hL2; have HVL := Lib.hid hvl; have HUL := Lib.hid hul
    clear i1 i2 i3 i4 i5 i6 i7 hL1 hL2 hv1 hu1 hvl hul
    go_enter Try.func11, Try.ntmps11
    go_wp2_with fail
    go_at_call 43
    with_reducible refine Makes.then (HL1.out _ hw) ?_
    intro v2 w2 o2 hb2
    have hw2 := hw.trans (hb2.mono hw.size)
    have dv := o2.wd
    obtain ⟨av, nv, cv, hv⟩ := dv.form
    subst hv
    clear o2 hb2 hw
    go_wp2_with fail
    go_at_call 43
    with_reducible refine Makes.then (HL2.out _ _ dv) ?_
    intro v3 w3 o3 hb3
    have hw3 := hw2.trans (hb3.mono hw2.size)
    have dv := dv.below hb3
    have du := o3.wd
    obtain ⟨au, nu, cu, hu⟩ := du.form
    subst hu
    have DV := Lib.hid dv; have DU := Lib.hid du
    clear o3 hb3 hw2 dv du
    have h0w := (Below.refl w3.heap.size w3)
    have HML : Hid (([] ++ xs ++ [(1#32, 0#32)]).length ≤ 1000000000) := Lib.hid (by simp; omega)
    have HXL : Hid (xs.length ≤ 1000000000) := Lib.hid (by omega)
    have HVL2 : Hid (vs.length ≤ 1000000000) := Lib.hid (by have := HVL.out; omega)
    have HUL2 : Hid (us.length ≤ 1000000000) := Lib.hid (by have := HUL.out; omega)
    have HN0 : Hid (([] : List Snd).length ≤ 1000000000) := Lib.hid (by simp)
    go_wp2_with (first | (go_at_call 33; with_reducible refine Gives.then (Gives.eq (inside_any _ _ _ _ _ (HVL2.out) (DV6.out.below hw) (DA6.out.below hw)) rfl (by rw [I1.out])) ?_; intro w1 hb; have hw := hw.trans (hb.mono hw.size); clear hb) | (go_at_call 33; with_reducible refine Gives.then (Gives.eq (inside_any _ _ _ _ _ (HUL2.out) (DU6.out.below hw) (DV6.out.below hw)) rfl (by rw [I2.out])) ?_; intro w1 hb; have hw := hw.trans (hb.mono hw.size); clear hb) | (go_at_call 33; with_reducible refine Gives.then (Gives.eq (inside_any _ _ _ _ _ (HUL2.out) (DU6.out.below hw) (DA6.out.below hw)) rfl (by rw [I3.out])) ?_; intro w1 hb; have hw := hw.trans (hb.mono hw.size); clear hb) | (go_at_call 33; with_reducible refine Gives.then (Gives.eq (inside_any _ _ _ _ _ (HXL.out) (DA6.out.below hw) (DA6.out.below hw)) rfl (by rw [I4.out])) ?_; intro w1 hb; have hw := hw.trans (hb.mono hw.size); clear hb) | (go_at_call 33; with_reducible refine Gives.then (Gives.eq (inside_any _ _ _ _ _ (HN0.out) (Wd.nil _) (DA6.out.below hw)) rfl (by rw [I5.out])) ?_; intro w1 hb; have hw := hw.trans (hb.mono hw.size); clear hb) | (go_at_call 33; with_reducible refine Gives.then (Gives.eq (inside_any _ _ _ _ _ (HML.out) (DM.out.below hw) (DA6.out.below hw)) rfl (by rw [List.nil_append, I6.out])) ?_; intro w1 hb; have hw := hw.trans (hb.mono hw.size); clear hb) | (go_at_call 33; with_reducible refine Gives.then (Gives.eq (inside_any _ _ _ _ _ (HXL.out) (DA6.out.below hw) (DM.out.below hw)) rfl (by rw [List.nil_append, I7.out])) ?_; intro w1 hb; have hw := hw.trans (hb.mono hw.size); clear hb) | (go_at_call 15; with_reducible refine Gives.then (works_any _) ?_; intro w1 hb; have hw := hw.trans (hb.mono hw.size); clear hb) | (at_builtin; refine wpList_app rfl (.tmp 20) (.tmp 21) 22 Try.underlying22 rfl w3.heap.size _ _ [] xs rfl rfl (own_alloc0 h0w) (DA.out.below (hw3.alloc hw3.size _)) (by simp; omega) (by rw [World.size_alloc]; omega) ?_; intro v4 w4 ho4 hk4 hz4; have hw4 : Below w3.heap.size w3 w4 := hk4 _ _ (Nat.le_refl _) (h0w.alloc (Nat.le_refl _) (.cells #[] 32)); obtain ⟨a4, n4, c4, hv4⟩ := ho4.wd.form; subst hv4; have HO5 := Lib.hid (ho4.below ((Below.refl _ w4).alloc (Nat.le_refl _) (.cells #[.int .u32 1, .int .u32 0] 32 (0, 0)))); clear ho4 hk4 hz4) | (at_builtin; refine wpList_app rfl (.tmp 22) (.tmp 24) 22 Try.underlying22 rfl w3.heap.size _ _ ([] ++ xs) [(1#32, 0#32)] rfl rfl HO5.out (one_new w4 _ _ 1#32 0#32 rfl rfl) (by simp; omega) (by rw [World.size_alloc]; have := hw4.size; omega) ?_; intro v6 w6 ho6 hk6 hz6; have hw6 : Below w3.heap.size w3 w6 := hk6 _ _ (Nat.le_refl _) (hw4.alloc hw4.size (.cells #[.int .u32 1, .int .u32 0] 32 (0, 0))); obtain ⟨a6, n6, c6, hv6⟩ := ho6.wd.form; subst hv6; have DM := Lib.hid ho6.wd; have DA6 := Lib.hid (DA.out.below (hw3.trans (hw6.mono hw3.size))); have DV6 := Lib.hid (DV.out.below hw6); have DU6 := Lib.hid (DU.out.below hw6); have hwf := hw3.trans (hw6.mono hw3.size); clear ho6 hk6 hz6 hw4 hw6 h0w DV DU HO5; have hw := Below.refl w6.heap.size w6))
    go_returns
    exact ⟨by first | rfl | (simp; done), hwf.trans (hw.mono hwf.size)⟩
  · go_enter Try.func11, Try.ntmps11
    go_wp2_with (go_at_call 15; with_reducible refine Gives.then (works_any _) ?_; intro w1 hb; have hw := hw.trans (hb.mono hw.size); clear hb)
    go_returns
    exact ⟨rfl, hw⟩
end Go.Proofs.Ythokpgnenlfnjaa
