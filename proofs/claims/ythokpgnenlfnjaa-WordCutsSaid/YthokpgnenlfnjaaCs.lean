/-
  The specification's Splice: append in a region that draws its order.
-/
import Derived.Test.YthokpgnenlfnjaaZa
import Derived.Test.YthokpgnenlfnjaaHh
import Derived.Deep.RegionLaw
namespace Go.Proofs.Ythokpgnenlfnjaa
open Go.RowKit Go.Sort
/-- append of a word to a slice that the call has made, at a step of a region that draws its order. -/
theorem step_app {ops : Array Oper} {o : Oper} {a : Act} {w : World} {K : Act → World → Prop} {Q : Exit → Act → World → Prop} {E : Prop} (hgd : o.guard = none) (s x : Operand) (t : TypeId) (ht : Try.prog.underlying t = some (.slice 32))
    (ho : o.op = .call { callee := .builtin .append, args := #[s, x], argTypes := #[t, t] })
    (base : Nat) (v u : Value) (ss ts : List Snd) (hs : a.eval s = v) (hx : a.eval x = u) (hown : Own w base v ss) (hw : Wd w u ts) (hlen : ss.length + ts.length ≤ 1000000000000) (hbase : base ≤ w.heap.size)
    (h : ∀ v' w', Own w' base v' (ss ++ ts) → (∀ B a, B ≤ base → Below B a w → Below B a w') → w.heap.size ≤ w'.heap.size → K (a.put o.dst v') w') :
    if Region.wanted o (yielded ops a.tmps) = true then Oper.wp Try.prog o a w K Q else E := by
  have hwd : Region.wanted o (yielded ops a.tmps) = true := by simp [Region.wanted, hgd]
  rw [if_pos hwd]
  obtain ⟨i, hi, hz, hs1, hb1⟩ := info_parts infoSound
  rcases hw with ⟨rfl, rfl⟩ | ⟨b, off, cap, rfl, hc, hm, hb, h3⟩
  · have hrun := run_append_owned_none (P := Try.prog) (w := w) base t o.type 32 i 2 ht hi v ss.length (flat ss) hown
    unfold Oper.wp
    simp [execOp, ho, resolve, invoke, builtin, hs, hx, hrun, Result.andThen]
    exact h v w (by rw [List.append_nil]; exact hown) (fun _ _ _ hb => hb) (Nat.le_refl _)
  · refine wp_append_own w s x t ho base _ i _ 2 8 ht hi hz hs1 hb1 rfl (by decide) v ss.length (flat ss) hs hown ⟨b, off, none⟩ ts.length cap (flat ts) hx (flat_length ts) (Wd.news h3) (flat_one ts) (Nat.le_trans hlen (by decide)) (by omega) hbase ?_
    intro v' w' ho' hg _
    refine h v' w' ?_ (fun B a hB hb => hb.grown hg (by omega) (fun k e => Nat.le_trans hB (Own.row hown k e))) hg.size
    unfold Own
    rw [flat_append, List.length_append]
    exact ho'
set_option maxHeartbeats 4000000 in
theorem rsplice_ok (xs ys : List Snd) (v u : Value) (A B : Nat) (w : World) (hv : Wd w v xs)
    (hu : Wd w u ys) (hAB : A ≤ B) (hBn : B ≤ xs.length) (hcx : chk xs = 0) (hcy : chk ys = 0) : MakesE 20 #[v, .int .i64 (A : Int), .int .i64 (B : Int), u] w (if (spl xs A B ys).length ≤ 32 then 0 else 11) (if (spl xs A B ys).length ≤ 32 then spl xs A B ys else []) := by
  unfold MakesE
  have hX := rcheck_any xs v w hv
  have hY := fun W (hb : Below w.heap.size w W) => rcheck_any ys u W (hu.below hb)
  rw [hcx] at hX
  rw [hcy] at hY
  have HU := Lib.hid hu
  have hlx := chk_short hcx
  have hly := chk_short hcy
  obtain ⟨uo, ucap, rfl, -, -, -⟩ := hu.open
  have HX := Lib.hid hX; have HY := Lib.hid hY
  have hes : xs.take A ++ ys ++ xs.drop B = spl xs A B ys := by unfold spl; rw [List.append_assoc]
  generalize hR : spl xs A B ys = R at *
  generalize hE : (if R.length ≤ 32 then (0 : Int) else 11) = E
  generalize hS : (if R.length ≤ 32 then R else []) = S
  have HE := Lib.hid hE; have HS := Lib.hid hS; have HES := Lib.hid hes
  clear hu hX hY hE hS hcx hcy hes hR
  rcases hv with ⟨rfl, rfl⟩ | ⟨b, off, cap, rfl, c1, m1, lb, h3⟩
  · obtain rfl : B = 0 := by simpa using hBn
    obtain rfl : A = 0 := by omega
    have HT : Hid (Wd w (.slice none 0 0) ([] : List Snd)) := Lib.hid (Wd.nil w)
    have HD : Hid (Wd w (.slice none 0 0) ([] : List Snd)) := Lib.hid (Wd.nil w)
    have HES : Hid (([] : List Snd) ++ ys ++ [] = R) := HES
    have HL1 : Hid (([] : List Snd).length ≤ 1000000000) := Lib.hid (by simp)
    have HL2 : Hid (([] : List Snd).length + ys.length ≤ 1000000000000) := Lib.hid (by simp; omega)
    have HL3 : Hid (([] ++ ys : List Snd).length + ([] : List Snd).length ≤ 1000000000000) := Lib.hid (by simp; omega)
    clear hAB hBn hlx
    go_enter Try.func20, Try.ntmps20
    go_wp2_with (first | (go_at_call 25; with_reducible refine Gives.then HX.out ?_; intro w1 hb1) | (go_at_call 25; with_reducible refine Gives.then (HY.out _ hb1) ?_; intro w2 hb; have hb2 := hb1.trans (hb.mono hb1.size); clear hb))
    have hdt := HT.out.below hb2.drew
    have HTT := Lib.hid hdt
    clear hdt
    go_region_law (first
      | (refine step_app rfl (.tmp 37) (.tmp 38) 22 Try.underlying22 rfl w.heap.size _ _ [] ys rfl rfl hoc (HU.out.below hb3) HL2.out hb3.size ?_; intro v4 w4 ho4 hk4 hz4; have hb4 := hk4 _ _ (Nat.le_refl _) hb3; clear hoc hk4 hz4)
      | (refine step_app rfl (.tmp 39) (.tmp 42) 22 Try.underlying22 rfl w.heap.size _ _ ([] ++ ys) [] rfl rfl ho4 (HD.out.below hb4) HL3.out hb4.size ?_; intro v5 w5 ho5 hk5 hz5; have hb5 := hk5 _ _ (Nat.le_refl _) hb4; clear ho4 hk5 hz5)
      | (go_simp; go_at_call 16; with_reducible refine Makes.then (copy_any [] _ HL1.out _ (HTT.out)) ?_; intro v3 w3 ho3 hb; have hb3 := hb2.drew.trans (hb.mono hb2.drew.size); have hoc := ho3.mono hb2.drew.size; obtain ⟨a3, n3, c3, hv3⟩ : ∃ a n c, v3 = Value.slice a n c := (by obtain ⟨a, c, h, -, -, -⟩ := ho3.wd.open; exact ⟨_, _, _, h⟩); subst hv3; clear ho3 hb))
    rw [HES.out] at ho5
    obtain ⟨a5, c5, hv5, -, -, -⟩ := ho5.wd.open
    subst hv5
    have HO := Lib.hid ho5
    clear ho5
    by_cases h32 : R.length ≤ 32
    · go_wp2_with fail
      go_ret2
      exact ⟨_, by (rw [← HE.out, if_pos h32]; try rfl), by rw [← HS.out, if_pos h32]; exact HO.out, hb5⟩
    · go_wp2_with fail
      go_ret2
      exact ⟨_, by (rw [← HE.out, if_neg h32]; try rfl), by rw [← HS.out, if_neg h32]; exact Own.nil _ _, hb5⟩
  · have hT := (Wd.take (A := A) (by omega) c1 m1 lb h3)
    have HT := Lib.hid hT
    have HL1 : Hid ((xs.take A).length ≤ 1000000000) := Lib.hid (by simp; omega)
    have HL2 : Hid ((xs.take A).length + ys.length ≤ 1000000000000) := Lib.hid (by simp; omega)
    have HL3 : Hid ((xs.take A ++ ys).length + (xs.drop B).length ≤ 1000000000000) := Lib.hid (by simp; omega)
    have hA1 : ¬ (A : Int) < 0 := by omega
    have hA2 : ¬ (B : Int) < (A : Int) := by omega
    have hA3 : ¬ (xs.length : Int) < (B : Int) := by omega
    have hA4 : A ≤ cap := by omega
    have hA5 : B ≤ cap := by omega
    by_cases hcap : cap = B
    · obtain rfl : B = xs.length := by omega
      have hD := Wd.drop0 (cap := cap) (off := off) (ss := xs) (w := w) (b := b) c1 lb
      subst hcap
      have HD := Lib.hid hD
      have m1 := maxLen_lt m1
      clear hT hD h3
      go_enter Try.func20, Try.ntmps20
      go_wp2_with (first | (go_at_call 25; with_reducible refine Gives.then HX.out ?_; intro w1 hb1) | (go_at_call 25; with_reducible refine Gives.then (HY.out _ hb1) ?_; intro w2 hb; have hb2 := hb1.trans (hb.mono hb1.size); clear hb))
      have hdt := HT.out.below hb2.drew
      have HTT := Lib.hid hdt
      clear hdt
      go_region_law (first
        | (refine step_app rfl (.tmp 37) (.tmp 38) 22 Try.underlying22 rfl w.heap.size _ _ (xs.take A) ys rfl rfl hoc (HU.out.below hb3) HL2.out hb3.size ?_; intro v4 w4 ho4 hk4 hz4; have hb4 := hk4 _ _ (Nat.le_refl _) hb3; clear hoc hk4 hz4)
        | (refine step_app rfl (.tmp 39) (.tmp 42) 22 Try.underlying22 rfl w.heap.size _ _ ((xs.take A) ++ ys) (xs.drop xs.length) rfl rfl ho4 (HD.out.below hb4) HL3.out hb4.size ?_; intro v5 w5 ho5 hk5 hz5; have hb5 := hk5 _ _ (Nat.le_refl _) hb4; clear ho4 hk5 hz5)
        | (go_simp; go_at_call 16; with_reducible refine Makes.then (copy_any (xs.take A) _ HL1.out _ (HTT.out)) ?_; intro v3 w3 ho3 hb; have hb3 := hb2.drew.trans (hb.mono hb2.drew.size); have hoc := ho3.mono hb2.drew.size; obtain ⟨a3, n3, c3, hv3⟩ : ∃ a n c, v3 = Value.slice a n c := (by obtain ⟨a, c, h, -, -, -⟩ := ho3.wd.open; exact ⟨_, _, _, h⟩); subst hv3; clear ho3 hb))
      rw [HES.out] at ho5
      obtain ⟨a5, c5, hv5, -, -, -⟩ := ho5.wd.open
      subst hv5
      have HO := Lib.hid ho5
      clear ho5
      by_cases h32 : R.length ≤ 32
      · go_wp2_with fail
        go_ret2
        exact ⟨_, by (rw [← HE.out, if_pos h32]; try rfl), by rw [← HS.out, if_pos h32]; exact HO.out, hb5⟩
      · go_wp2_with fail
        go_ret2
        exact ⟨_, by (rw [← HE.out, if_neg h32]; try rfl), by rw [← HS.out, if_neg h32]; exact Own.nil _ _, hb5⟩
    · have HD := Lib.hid (Wd.drop (A := B) hBn c1 m1 lb h3)
      have m1 := maxLen_lt m1
      clear hT h3
      go_enter Try.func20, Try.ntmps20
      go_wp2_with (first | (go_at_call 25; with_reducible refine Gives.then HX.out ?_; intro w1 hb1) | (go_at_call 25; with_reducible refine Gives.then (HY.out _ hb1) ?_; intro w2 hb; have hb2 := hb1.trans (hb.mono hb1.size); clear hb))
      have hdt := HT.out.below hb2.drew
      have HTT := Lib.hid hdt
      clear hdt
      go_region_law (first
        | (refine step_app rfl (.tmp 37) (.tmp 38) 22 Try.underlying22 rfl w.heap.size _ _ (xs.take A) ys rfl rfl hoc (HU.out.below hb3) HL2.out hb3.size ?_; intro v4 w4 ho4 hk4 hz4; have hb4 := hk4 _ _ (Nat.le_refl _) hb3; clear hoc hk4 hz4)
        | (refine step_app rfl (.tmp 39) (.tmp 42) 22 Try.underlying22 rfl w.heap.size _ _ ((xs.take A) ++ ys) (xs.drop B) rfl rfl ho4 (HD.out.below hb4) HL3.out hb4.size ?_; intro v5 w5 ho5 hk5 hz5; have hb5 := hk5 _ _ (Nat.le_refl _) hb4; clear ho4 hk5 hz5)
        | (go_simp; go_at_call 16; with_reducible refine Makes.then (copy_any (xs.take A) _ HL1.out _ (HTT.out)) ?_; intro v3 w3 ho3 hb; have hb3 := hb2.drew.trans (hb.mono hb2.drew.size); have hoc := ho3.mono hb2.drew.size; obtain ⟨a3, n3, c3, hv3⟩ : ∃ a n c, v3 = Value.slice a n c := (by obtain ⟨a, c, h, -, -, -⟩ := ho3.wd.open; exact ⟨_, _, _, h⟩); subst hv3; clear ho3 hb))
      rw [HES.out] at ho5
      obtain ⟨a5, c5, hv5, -, -, -⟩ := ho5.wd.open
      subst hv5
      have HO := Lib.hid ho5
      clear ho5
      by_cases h32 : R.length ≤ 32
      · go_wp2_with fail
        go_ret2
        exact ⟨_, by (rw [← HE.out, if_pos h32]; try rfl), by rw [← HS.out, if_pos h32]; exact HO.out, hb5⟩
      · go_wp2_with fail
        go_ret2
        exact ⟨_, by (rw [← HE.out, if_neg h32]; try rfl), by rw [← HS.out, if_neg h32]; exact Own.nil _ _, hb5⟩
end Go.Proofs.Ythokpgnenlfnjaa
