/-
  The examples hold, in whatever world.
-/
import Derived.Test.YtfjngkdpembdcaaHv
import Derived.Test.YtfjngkdpembdcaaHw
import Derived.Test.YtfjngkdpembdcaaHc
import Derived.Test.YtfjngkdpembdcaaHh
import Derived.Test.YtfjngkdpembdcaaHj
import Derived.Test.YtfjngkdpembdcaaHk2
import Derived.Test.YtfjngkdpembdcaaHl2
namespace Go.Proofs.Ytfjngkdpembdcaa
open Go.RowKit Go.Sort
theorem Wd.form {w : World} {v : Value} {ss : List Snd} (h : Wd w v ss) : ∃ ao n cap, v = .slice ao n cap := by obtain ⟨ao, cap, rfl, -⟩ := h.open; exact ⟨_, _, _, rfl⟩
theorem Ws.form {w : World} {v : Value} {l : List (Value × List Snd)} (h : Ws w v l) : ∃ ao n cap, v = .slice ao n cap := by obtain ⟨ao, cap, rfl, -⟩ := h.open; exact ⟨_, _, _, rfl⟩
theorem MakesE.eq {f : Nat} {args : Array Value} {w : World} {e e' : Int} {ss ss' : List Snd} (h : MakesE f args w e ss) (he : e = e') (hs : ss = ss') : MakesE f args w e' ss' := by subst he; subst hs; exact h
set_option maxRecDepth 100000 in
set_option maxHeartbeats 4000000 in
theorem works_any (w0 : World) : Gives 6 #[] w0 (.bool true) := by
  unfold Gives
  go_enter Try.func6, Try.ntmps6
  have hw0 := Below.refl w0.heap.size w0
  go_wp2_with fail
  go_at_call 16
  with_reducible refine Makes.then (spell_any [112, 97, 116, 97] (by decide) _) ?_
  intro v1 w1 o hb
  have d1 := o.wd
  obtain ⟨a1, n1, c1, hv⟩ := d1.form
  subst hv
  have hw1 := hw0.trans (hb.mono hw0.size)
  clear o hb hw0
  go_wp2_with fail
  go_at_call 15
  refine MakesE.then (MakesE.eq (cut_any (spellS [112, 97, 116, 97]) _ 1 3 _ d1 (by decide)) (e' := 0) (ss' := spellS [97, 116]) (by decide) (by decide)) ?_
  intro v2 w2 o hb
  have d2 := o.wd
  obtain ⟨a2, n2, c2, hv⟩ := d2.form
  subst hv
  have hw2 := hw1.trans (hb.mono hw1.size)
  clear o hb hw1 d1
  go_wp2_with fail
  go_at_call 16
  with_reducible refine Makes.then (spell_any [112, 97, 116, 97] (by decide) _) ?_
  intro v3 w3 o hb
  have d2 := d2.below hb
  have d3 := o.wd
  obtain ⟨a3, n3, c3, hv⟩ := d3.form
  subst hv
  have hw3 := hw2.trans (hb.mono hw2.size)
  clear o hb hw2
  go_wp2_with fail
  go_at_call 16
  with_reducible refine Makes.then (spell_any [116] (by decide) _) ?_
  intro v4 w4 o hb
  have d2 := d2.below hb
  have d3 := d3.below hb
  have d4 := o.wd
  obtain ⟨a4, n4, c4, hv⟩ := d4.form
  subst hv
  have hw4 := hw3.trans (hb.mono hw3.size)
  clear o hb hw3
  go_wp2_with fail
  go_at_call 17
  refine MakesE.then (MakesE.eq (splice_any (spellS [112, 97, 116, 97]) (spellS [116]) _ _ 1 3 _ d3 d4 (by decide)) (e' := 0) (ss' := spellS [112, 116, 97]) (by decide) (by decide)) ?_
  intro v5 w5 o hb
  have d2 := d2.below hb
  have d5 := o.wd
  obtain ⟨a5, n5, c5, hv⟩ := d5.form
  subst hv
  have hw5 := hw4.trans (hb.mono hw4.size)
  clear o hb hw4 d3 d4
  go_wp2_with fail
  go_at_call 16
  with_reducible refine Makes.then (spell_any [112, 97, 116, 97, 112] (by decide) _) ?_
  intro v6 w6 o hb
  have d2 := d2.below hb
  have d5 := d5.below hb
  have d6 := o.wd
  obtain ⟨a6, n6, c6, hv⟩ := d6.form
  subst hv
  have hw6 := hw5.trans (hb.mono hw5.size)
  clear o hb hw5
  go_wp2_with fail
  go_at_call 16
  with_reducible refine Makes.then (spell_any [112, 97, 97, 112] (by decide) _) ?_
  intro v7 w7 o hb
  have d2 := d2.below hb
  have d5 := d5.below hb
  have d6 := d6.below hb
  have d7 := o.wd
  obtain ⟨a7, n7, c7, hv⟩ := d7.form
  subst hv
  have hw7 := hw6.trans (hb.mono hw6.size)
  clear o hb hw6
  go_wp2_with fail
  go_at_call 22
  refine Gives.then (Gives.eq (common_any (spellS [112, 97, 116, 97, 112]) (spellS [112, 97, 97, 112]) _ _ _ (by decide) (by decide) d6 d7) rfl (v' := .tuple #[.int .i64 2, .int .i64 2]) (by rw [show cpre (spellS [112, 97, 116, 97, 112]) (spellS [112, 97, 97, 112]) = 2 from by decide, show csuf (spellS [112, 97, 116, 97, 112]) (spellS [112, 97, 97, 112]) = 2 from by decide]; rfl)) ?_
  intro w8 hb
  have d2 := d2.below hb
  have d5 := d5.below hb
  have d6 := d6.below hb
  have d7 := d7.below hb
  have hw8 := hw7.trans (hb.mono hw7.size)
  clear hb hw7
  clear d6
  clear d7
  go_wp2_with fail
  go_at_call 16
  with_reducible refine Makes.then (spell_any [112, 97, 116] (by decide) _) ?_
  intro v9 w9 o hb
  have d2 := d2.below hb
  have d5 := d5.below hb
  have d9 := o.wd
  obtain ⟨a9, n9, c9, hv⟩ := d9.form
  subst hv
  have hw9 := hw8.trans (hb.mono hw8.size)
  clear o hb hw8
  go_wp2_with fail
  go_at_call 16
  with_reducible refine Makes.then (spell_any [97] (by decide) _) ?_
  intro v10 w10 o hb
  have d2 := d2.below hb
  have d5 := d5.below hb
  have d9 := d9.below hb
  have d10 := o.wd
  obtain ⟨a10, n10, c10, hv⟩ := d10.form
  subst hv
  have hw10 := hw9.trans (hb.mono hw9.size)
  clear o hb hw9
  go_wp2_with fail
  go_at_call 16
  with_reducible refine Makes.then (spell_any [112, 97] (by decide) _) ?_
  intro v11 w11 o hb
  have d2 := d2.below hb
  have d5 := d5.below hb
  have d9 := d9.below hb
  have d10 := d10.below hb
  have d11 := o.wd
  obtain ⟨a11, n11, c11, hv⟩ := d11.form
  subst hv
  have hw11 := hw10.trans (hb.mono hw10.size)
  clear o hb hw10
  go_wp2_with fail
  go_at_call 16
  with_reducible refine Makes.then (spell_any [97] (by decide) _) ?_
  intro v12 w12 o hb
  have d2 := d2.below hb
  have d5 := d5.below hb
  have d9 := d9.below hb
  have d10 := d10.below hb
  have d11 := d11.below hb
  have d12 := o.wd
  obtain ⟨a12, n12, c12, hv⟩ := d12.form
  subst hv
  have hw12 := hw11.trans (hb.mono hw11.size)
  clear o hb hw11
  go_wp2_with fail
  have hba := (Below.refl _ w12).alloc (Nat.le_refl _) (.cells #[.slice a9 n9 c9, .slice a10 n10 c10, .slice a11 n11 c11, .slice a12 n12 c12] 24)
  have q1 : chk (spellS [112, 97, 116]) = 0 := by decide
  have q2 : chk (spellS [97]) = 0 := by decide
  have q3 : chk (spellS [112, 97]) = 0 := by decide
  have hs := sort_any (w := w12.alloc (.cells #[.slice a9 n9 c9, .slice a10 n10 c10, .slice a11 n11 c11, .slice a12 n12 c12] 24)) [⟨.slice a9 n9 c9, spellS [112, 97, 116], d9.below hba⟩, ⟨.slice a10 n10 c10, spellS [97], d10.below hba⟩, ⟨.slice a11 n11 c11, spellS [112, 97], d11.below hba⟩, ⟨.slice a12 n12 c12, spellS [97], d12.below hba⟩] _ (by simp) (Ws.lit (w := w12) [(.slice a9 n9 c9, spellS [112, 97, 116]), (.slice a10 n10 c10, spellS [97]), (.slice a11 n11 c11, spellS [112, 97]), (.slice a12 n12 c12, spellS [97])] #[.slice a9 n9 c9, .slice a10 n10 c10, .slice a11 n11 c11, .slice a12 n12 c12] 24 rfl (by simp) (by intro x hx; simp only [List.mem_cons, List.not_mem_nil, or_false] at hx; rcases hx with rfl | rfl | rfl | rfl <;> first | exact d9 | exact d10 | exact d11 | exact d12)) (by simp only [prs, List.map_cons, List.map_nil, cke, q1, q2, q3, if_true])
  clear q1 q2 q3
  go_at_call 8
  refine hs.mono ?_
  rintro e w13 ⟨v13, l', rfl, s13, hl', -, -, hb0⟩
  have hb := hba.trans (hb0.mono (by rw [World.size_alloc]; omega))
  have d2 := d2.below hb
  have d5 := d5.below hb
  have hw13 := hw12.trans (hb.mono hw12.size)
  have HL' := Lib.hid (hl'.trans (show srt [spellS [112, 97, 116], spellS [97], spellS [112, 97], spellS [97]] = [spellS [112, 97], spellS [112, 97, 116], spellS [97]] from by decide))
  obtain ⟨a13, n13, c13, hv⟩ := s13.form
  subst hv
  clear hb hb0 hba hs hl' hw12 d9 d10 d11 d12
  go_wp2_with fail
  go_at_call 16
  with_reducible refine Makes.then (spell_any [97, 116] (by decide) _) ?_
  intro v14 w14 o hb
  have d2 := d2.below hb
  have d5 := d5.below hb
  have s13 := s13.below hb
  have d14 := o.wd
  obtain ⟨a14, n14, c14, hv⟩ := d14.form
  subst hv
  have hw14 := hw13.trans (hb.mono hw13.size)
  clear o hb hw13
  go_wp2_with fail
  go_at_call 23
  refine Gives.then (Gives.eq (rEqual_any (spellS [97, 116]) (spellS [97, 116]) _ _ _ d2 d14) rfl (v' := .bool true) (by rw [decide_eq_true rfl])) ?_
  intro w15 hb
  have d2 := d2.below hb
  have d5 := d5.below hb
  have d14 := d14.below hb
  have s13 := s13.below hb
  have hw15 := hw14.trans (hb.mono hw14.size)
  clear hb hw14
  clear d14
  clear d2
  go_wp2_with fail
  go_at_call 16
  with_reducible refine Makes.then (spell_any [112, 116, 97] (by decide) _) ?_
  intro v16 w16 o hb
  have d5 := d5.below hb
  have s13 := s13.below hb
  have d16 := o.wd
  obtain ⟨a16, n16, c16, hv⟩ := d16.form
  subst hv
  have hw16 := hw15.trans (hb.mono hw15.size)
  clear o hb hw15
  go_wp2_with fail
  go_at_call 23
  refine Gives.then (Gives.eq (rEqual_any (spellS [112, 116, 97]) (spellS [112, 116, 97]) _ _ _ d5 d16) rfl (v' := .bool true) (by rw [decide_eq_true rfl])) ?_
  intro w17 hb
  have d5 := d5.below hb
  have d16 := d16.below hb
  have s13 := s13.below hb
  have hw17 := hw16.trans (hb.mono hw16.size)
  clear hb hw16
  clear d16
  clear d5
  go_wp2_with fail
  go_at_call 16
  with_reducible refine Makes.then (spell_any [112, 97] (by decide) _) ?_
  intro v18 w18 o hb
  have s13 := s13.below hb
  have d18 := o.wd
  obtain ⟨a18, n18, c18, hv⟩ := d18.form
  subst hv
  have hw18 := hw17.trans (hb.mono hw17.size)
  clear o hb hw17
  go_wp2_with fail
  go_at_call 16
  with_reducible refine Makes.then (spell_any [112, 97, 116] (by decide) _) ?_
  intro v19 w19 o hb
  have d18 := d18.below hb
  have s13 := s13.below hb
  have d19 := o.wd
  obtain ⟨a19, n19, c19, hv⟩ := d19.form
  subst hv
  have hw19 := hw18.trans (hb.mono hw18.size)
  clear o hb hw18
  go_wp2_with fail
  go_at_call 16
  with_reducible refine Makes.then (spell_any [97] (by decide) _) ?_
  intro v20 w20 o hb
  have d18 := d18.below hb
  have d19 := d19.below hb
  have s13 := s13.below hb
  have d20 := o.wd
  obtain ⟨a20, n20, c20, hv⟩ := d20.form
  subst hv
  have hw20 := hw19.trans (hb.mono hw19.size)
  clear o hb hw19
  go_wp2_with fail
  have hba := (Below.refl _ w20).alloc (Nat.le_refl _) (.cells #[.slice a18 n18 c18, .slice a19 n19 c19, .slice a20 n20 c20] 24)
  have hs := rSame_any l' [(.slice a18 n18 c18, spellS [112, 97]), (.slice a19 n19 c19, spellS [112, 97, 116]), (.slice a20 n20 c20, spellS [97])] _ _ _ (s13.below hba) (Ws.lit (w := w20) [(.slice a18 n18 c18, spellS [112, 97]), (.slice a19 n19 c19, spellS [112, 97, 116]), (.slice a20 n20 c20, spellS [97])] #[.slice a18 n18 c18, .slice a19 n19 c19, .slice a20 n20 c20] 24 rfl (by simp) (by intro x hx; simp only [List.mem_cons, List.not_mem_nil, or_false] at hx; rcases hx with rfl | rfl | rfl <;> first | exact d18 | exact d19 | exact d20))
  rw [decide_eq_true (show l'.map (·.2) = ([(.slice a18 n18 c18, spellS [112, 97]), (.slice a19 n19 c19, spellS [112, 97, 116]), (.slice a20 n20 c20, spellS [97])] : List (Value × List Snd)).map (·.2) from HL'.out)] at hs
  go_at_call 10
  refine Gives.then hs ?_
  intro w21 hb0
  have hb := hba.trans (hb0.mono (by rw [World.size_alloc]; omega))
  have hw21 := hw20.trans (hb.mono hw20.size)
  clear hb hb0 hba hs HL' s13 hw20 d18 d19 d20
  go_wp2_with fail
  go_at_call 16
  with_reducible refine Makes.then (spell_any [112, 97, 116] (by decide) _) ?_
  intro v22 w22 o hb
  have d22 := o.wd
  obtain ⟨a22, n22, c22, hv⟩ := d22.form
  subst hv
  have hw22 := hw21.trans (hb.mono hw21.size)
  clear o hb hw21
  go_wp2_with fail
  go_at_call 16
  with_reducible refine Makes.then (spell_any [112, 97] (by decide) _) ?_
  intro v23 w23 o hb
  have d22 := d22.below hb
  have d23 := o.wd
  obtain ⟨a23, n23, c23, hv⟩ := d23.form
  subst hv
  have hw23 := hw22.trans (hb.mono hw22.size)
  clear o hb hw22
  go_wp2_with fail
  go_at_call 12
  refine Gives.then (Gives.eq (order_any (spellS [112, 97, 116]) (spellS [112, 97]) _ _ _ d22 d23) rfl (v' := .int .i64 1) (by rw [show ordW (spellS [112, 97, 116]) (spellS [112, 97]) = 1 from by decide])) ?_
  intro w24 hb
  have d22 := d22.below hb
  have d23 := d23.below hb
  have hw24 := hw23.trans (hb.mono hw23.size)
  clear hb hw23
  clear d22
  clear d23
  go_wp2_with fail
  go_at_call 16
  with_reducible refine Makes.then (spell_any [112, 97, 112, 97] (by decide) _) ?_
  intro v25 w25 o hb
  have d25 := o.wd
  obtain ⟨a25, n25, c25, hv⟩ := d25.form
  subst hv
  have hw25 := hw24.trans (hb.mono hw24.size)
  clear o hb hw24
  go_wp2_with fail
  go_at_call 16
  with_reducible refine Makes.then (spell_any [97, 112] (by decide) _) ?_
  intro v26 w26 o hb
  have d25 := d25.below hb
  have d26 := o.wd
  obtain ⟨a26, n26, c26, hv⟩ := d26.form
  subst hv
  have hw26 := hw25.trans (hb.mono hw25.size)
  clear o hb hw25
  go_wp2_with fail
  go_at_call 19
  refine Gives.then (Gives.eq (find_any (spellS [112, 97, 112, 97]) (spellS [97, 112]) _ _ _ (by decide) d25 d26 (.inl (by decide))) rfl (v' := .int .i64 1) (by rw [show findS (spellS [112, 97, 112, 97]) (spellS [97, 112]) = 1 from by decide])) ?_
  intro w27 hb
  have d25 := d25.below hb
  have d26 := d26.below hb
  have hw27 := hw26.trans (hb.mono hw26.size)
  clear hb hw26
  clear d25
  clear d26
  go_wp2_with fail
  go_at_call 16
  with_reducible refine Makes.then (spell_any [112, 112] (by decide) _) ?_
  intro v28 w28 o hb
  have d28 := o.wd
  obtain ⟨a28, n28, c28, hv⟩ := d28.form
  subst hv
  have hw28 := hw27.trans (hb.mono hw27.size)
  clear o hb hw27
  go_wp2_with fail
  go_at_call 16
  with_reducible refine Makes.then (spell_any [112, 97, 112, 97] (by decide) _) ?_
  intro v29 w29 o hb
  have d28 := d28.below hb
  have d29 := o.wd
  obtain ⟨a29, n29, c29, hv⟩ := d29.form
  subst hv
  have hw29 := hw28.trans (hb.mono hw28.size)
  clear o hb hw28
  go_wp2_with fail
  go_at_call 20
  refine Gives.then (Gives.eq (inside_any (spellS [112, 97, 112, 97]) (spellS [112, 112]) _ _ _ (by decide) d28 d29) rfl (v' := .bool true) (by rw [show insS (spellS [112, 112]) (spellS [112, 97, 112, 97]) = true from by decide])) ?_
  intro w30 hb
  have d28 := d28.below hb
  have d29 := d29.below hb
  have hw30 := hw29.trans (hb.mono hw29.size)
  clear hb hw29
  clear d28
  clear d29
  go_wp2_with fail
  go_returns
  exact ⟨rfl, hw30⟩
end Go.Proofs.Ytfjngkdpembdcaa
