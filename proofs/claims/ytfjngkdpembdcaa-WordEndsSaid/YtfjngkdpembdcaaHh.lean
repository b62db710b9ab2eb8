/-
  Splice: a part of a word is replaced by another word.
-/
import Derived.Test.YtfjngkdpembdcaaHg
namespace Go.Proofs.Ytfjngkdpembdcaa
open Go.RowKit Go.Sort
/-- The sounds from A to B replaced. -/
def spl (xs : List Snd) (A B : Nat) (ys : List Snd) : List Snd := xs.take A ++ (ys ++ xs.drop B)
/-- The error of two words. -/
def ck2 (xs ys : List Snd) : Int := if chk xs = 0 then (if chk ys = 0 then 0 else chk ys) else chk xs
def splE (xs : List Snd) (a b : Int) (ys : List Snd) : Int := if ck2 xs ys ≠ 0 then ck2 xs ys else if part xs.length a b then (if (spl xs a.toNat b.toNat ys).length ≤ 32 then 0 else 11) else 3
def splS (xs : List Snd) (a b : Int) (ys : List Snd) : List Snd := if ck2 xs ys ≠ 0 then [] else if part xs.length a b then (if (spl xs a.toNat b.toNat ys).length ≤ 32 then spl xs a.toNat b.toNat ys else []) else []
theorem ck2_zero {xs ys : List Snd} (h : ck2 xs ys = 0) : chk xs = 0 ∧ chk ys = 0 := by
  unfold ck2 at h
  split at h
  · split at h
    · exact ⟨by assumption, by assumption⟩
    · exact ⟨by assumption, h⟩
  · rename_i h1; exact absurd h h1
section
variable {w : World} {b off cap A : Nat} {ss : List Snd}
theorem Wd.take (hA : A ≤ ss.length) (hc : ss.length ≤ cap) (hm : cap ≤ maxLen) (hb : b < w.heap.size) (h3 : ∀ i (h : i < ss.length), w.cell? ⟨b, off + i * 2, none⟩ = some (.int .u32 (ss[i].1.toNat : Int)) ∧ w.cell? ⟨b, off + i * 2 + 1, none⟩ = some (.int .u32 (ss[i].2.toNat : Int))) : Wd w (.slice (some ⟨b, off, none⟩) A cap) (ss.take A) := by
  have := Wd.sub (A := 0) hc hm hb h3 hA
  simpa [Proofs.Ytfjngkdpembdcaa.sub] using this
theorem Wd.drop (hA : A ≤ ss.length) (hc : ss.length ≤ cap) (hm : cap ≤ maxLen) (hb : b < w.heap.size) (h3 : ∀ i (h : i < ss.length), w.cell? ⟨b, off + i * 2, none⟩ = some (.int .u32 (ss[i].1.toNat : Int)) ∧ w.cell? ⟨b, off + i * 2 + 1, none⟩ = some (.int .u32 (ss[i].2.toNat : Int))) : Wd w (.slice (some ⟨b, off + A * 2, none⟩) (ss.length - A) (cap - A)) (ss.drop A) := by
  have := Wd.sub (A := A) (B := ss.length) hc hm hb h3 (Nat.le_refl _)
  rwa [Proofs.Ytfjngkdpembdcaa.sub, List.take_of_length_le (by simp)] at this
theorem Wd.drop0 (hc : ss.length ≤ cap) (hb : b < w.heap.size) : Wd w (.slice (some ⟨b, off, none⟩) 0 0) (ss.drop cap) := by
  rw [List.drop_of_length_le hc]
  exact .inr ⟨b, off, 0, rfl, Nat.le_refl _, by decide, hb, fun i hi => by simp at hi⟩
end
set_option maxHeartbeats 4000000 in
theorem splice_any (xs ys : List Snd) (v u : Value) (a b : Int) (w : World) (h : Wd w v xs) (hu : Wd w u ys) (hne : xs ≠ []) : MakesE 17 #[v, .int .i64 a, .int .i64 b, u] w (splE xs a b ys) (splS xs a b ys) := by
  unfold MakesE
  have hC := checkEach_any [(v, xs), (u, ys)] _ _ (Ws.lit (w := w) [(v, xs), (u, ys)] #[v, u] 24 rfl (by simp) (by intro x hx; simp only [List.mem_cons, List.not_mem_nil, or_false] at hx; rcases hx with rfl | rfl <;> first | exact h | exact hu))
  have e0 : cke [(v, xs), (u, ys)] = ck2 xs ys := rfl
  rw [e0] at hC
  simp only [List.length_cons, List.length_nil, Nat.zero_add, Nat.reduceAdd] at hC
  have hP := fun w1 (hb : Below w.heap.size w w1) => isPart_any xs v a b w1 (h.below hb)
  have HU := Lib.hid hu
  by_cases hc : ck2 xs ys = 0
  · obtain ⟨k1, k2⟩ := ck2_zero hc
    have s1 := chk_short k1
    have s2 := chk_short k2
    rw [hc] at hC
    have HC := Lib.hid hC
    clear hC k1 k2 e0
    rcases hp : part xs.length a b with _ | _
    · have eE : splE xs a b ys = 3 := by simp [splE, hc, hp]
      have eS : splS xs a b ys = [] := by simp [splS, hc, hp]
      rw [eE, eS]
      simp only [hp] at hP
      have HP := Lib.hid hP
      clear eE eS hP hc hp
      obtain ⟨ao, cap, rfl, -, -, -⟩ := h.open
      obtain ⟨ao', cap', rfl, -, -, -⟩ := hu.open
      clear h hu
      go_enter Try.func17, Try.ntmps17
      go_wp2_with fail
      go_at_call 24
      with_reducible refine Gives.then HC.out ?_
      intro w1 hb1
      have hb1 := ((Below.refl _ w).alloc (Nat.le_refl _) _).trans (hb1.mono (by rw [World.size_alloc]; omega))
      go_wp2_with fail
      go_at_call 35
      with_reducible refine Gives.then (HP.out _ hb1) ?_
      intro w2 hb2
      have hb12 := hb1.trans (hb2.mono hb1.size)
      have hs12 := hb12.size
      clear hb1 hb2
      go_wp2_with fail
      go_ret2
      exact ⟨_, rfl, Own.nil _ _, hb12⟩
    · have eE : splE xs a b ys = if (spl xs a.toNat b.toNat ys).length ≤ 32 then 0 else 11 := by simp [splE, hc, hp]
      have eS : splS xs a b ys = if (spl xs a.toNat b.toNat ys).length ≤ 32 then spl xs a.toNat b.toNat ys else [] := by simp [splS, hc, hp]
      simp only [hp] at hP
      have HP := Lib.hid hP
      clear hP hc
      unfold part at hp
      simp only [Bool.and_eq_true, decide_eq_true_eq] at hp
      obtain ⟨⟨p1, p2⟩, p3⟩ := hp
      obtain ⟨A, rfl⟩ := Int.eq_ofNat_of_zero_le p1
      obtain ⟨B, rfl⟩ := Int.eq_ofNat_of_zero_le (Int.le_trans p1 p2)
      simp only [Int.toNat_natCast] at eE eS
      have HE := Lib.hid eE; have HS := Lib.hid eS
      clear eE eS
      have hAB : A ≤ B := by omega
      have hBn : B ≤ xs.length := by omega
      clear p1 p2 p3
      obtain ⟨uo, ucap, rfl, -, -, -⟩ := hu.open
      clear hu
      rcases h with ⟨-, rfl⟩ | ⟨bb, off, cap, rfl, c1, m1, lb, h3⟩
      · exact absurd rfl hne
      · clear hne
        have m1 := Lib.hid m1; have h3 := Lib.hid h3
        have hl : cap ≤ 9223372036854775807 := m1.out
        by_cases hcB : cap = B
        · subst hcB
          go_enter Try.func17, Try.ntmps17
          go_wp2_with fail
          go_at_call 24
          with_reducible refine Gives.then HC.out ?_
          intro w1 hb1
          have hb1 := ((Below.refl _ w).alloc (Nat.le_refl _) _).trans (hb1.mono (by rw [World.size_alloc]; omega))
          go_wp2_with fail
          go_at_call 35
          with_reducible refine Gives.then (HP.out _ hb1) ?_
          intro w2 hb2
          have hb12 := hb1.trans (hb2.mono hb1.size)
          have hs12 := hb12.size
          clear hb1 hb2
          go_wp2_with fail
          refine wp_gen ?_
          intro W1 hW1
          have hw1 : Below w.heap.size w W1 := by rw [hW1]; go_grown
          have hz1 : w.heap.size ≤ W1.heap.size := by rw [hW1]; first | assumption | go_size
          clear hW1
          refine wp_region_makers 7 [] [0, 1, 2, 3, 4, 5, 6] ?A1 _ (by kernel_rfl) (by kernel_rfl) ?hrun1 (by simp [quiets, mkOf]; rfl) ?walk1 ?fin1
          case hrun1 =>
            intro x hx
            cases hx
          case walk1 =>
            intro W2 hW2
            repeat (go_big_quiet_step (first | fail))
            refine wpQuiet_nil ?_
            rfl
          intro bs w2 hb hF hN
          have hw := chain hw1 (by omega) hb
          obtain ⟨hc, hf, hz⟩ := bcell hb
          clear hb hF hN hw1 
          simp only [List.map_cons, List.map_nil, List.foldr_cons, List.foldr_nil] at *
          clear bs
          simp only [dstOf, ptr, Act.put, List.getElem?_toArray, List.getElem?_cons_succ, List.getElem?_cons_zero, Option.bind_some, List.setIfInBounds_toArray, List.set_cons_zero, List.set_cons_succ, List.drop_succ_cons, List.drop_zero]
          have hw2 : Wd w2 (.slice (some ⟨bb, off, none⟩) A cap) (xs.take A) := (Wd.take (by omega) c1 m1.out lb h3.out).below (hw.mono (Nat.le_refl _))
          have hw3 : Wd w2 (.slice (some ⟨bb, off, none⟩) 0 0) (xs.drop cap) := (Wd.drop0 c1 lb).below (hw.mono (Nat.le_refl _))
          have hwu : Wd w2 (.slice uo ys.length ucap) ys := HU.out.below hw
          have hws := Ws.lit (w := w2) [(.slice (some ⟨bb, off, none⟩) A cap, xs.take A), (.slice uo ys.length ucap, ys), (.slice (some ⟨bb, off, none⟩) 0 0, xs.drop cap)] #[.slice (some ⟨bb, off, none⟩) A cap, .slice uo ys.length ucap, .slice (some ⟨bb, off, none⟩) 0 0] 24 rfl (by simp) (by intro x hx; simp only [List.mem_cons, List.not_mem_nil, or_false] at hx; rcases hx with rfl | rfl | rfl <;> first | exact hw2 | exact hwu | exact hw3)
          have hcc := concat_any _ _ _ (by simp [cat]; omega) hws
          have ecat : cat [(.slice (some ⟨bb, off, none⟩) A cap, xs.take A), (.slice uo ys.length ucap, ys), (.slice (some ⟨bb, off, none⟩) 0 0, xs.drop cap)] 3 = spl xs A cap ys := by simp [cat, spl]
          simp only [List.length_cons, List.length_nil, Nat.zero_add, Nat.reduceAdd, ecat] at hcc
          have HCC := Lib.hid hcc
          clear hcc ecat hws hw2 hw3 hwu
          go_wp2_with fail
          go_at_call 37
          with_reducible refine Makes.then HCC.out ?_
          intro v4 w4 ho4 hb4
          have hb24 : Below w.heap.size w w4 := hw.trans ((((Below.refl _ w2).alloc (Nat.le_refl _) _).trans (hb4.mono (by rw [World.size_alloc]; omega))).mono hw.size)
          have ho4' : Own w4 w.heap.size v4 (spl xs A cap ys) := ho4.mono (by rw [World.size_alloc]; have := hw.size; omega)
          obtain ⟨ao4, cap4, rfl, -, -, -⟩ := ho4.wd.open
          by_cases h32 : (spl xs A cap ys).length ≤ 32
          · skip
            go_wp2_with fail
            go_ret2
            exact ⟨_, by (rw [HE.out, if_pos h32]; try rfl), by rw [HS.out, if_pos h32]; exact ho4', hb24⟩
          · skip
            go_wp2_with fail
            go_ret2
            exact ⟨_, by (rw [HE.out, if_neg h32]; try rfl), by rw [HS.out, if_neg h32]; exact Own.nil _ _, hb24⟩
        · go_enter Try.func17, Try.ntmps17
          go_wp2_with fail
          go_at_call 24
          with_reducible refine Gives.then HC.out ?_
          intro w1 hb1
          have hb1 := ((Below.refl _ w).alloc (Nat.le_refl _) _).trans (hb1.mono (by rw [World.size_alloc]; omega))
          go_wp2_with fail
          go_at_call 35
          with_reducible refine Gives.then (HP.out _ hb1) ?_
          intro w2 hb2
          have hb12 := hb1.trans (hb2.mono hb1.size)
          have hs12 := hb12.size
          clear hb1 hb2
          go_wp2_with fail
          refine wp_gen ?_
          intro W1 hW1
          have hw1 : Below w.heap.size w W1 := by rw [hW1]; go_grown
          have hz1 : w.heap.size ≤ W1.heap.size := by rw [hW1]; first | assumption | go_size
          clear hW1
          refine wp_region_makers 7 [] [0, 1, 2, 3, 4, 5, 6] ?A2 _ (by kernel_rfl) (by kernel_rfl) ?hrun2 (by simp [quiets, mkOf]; rfl) ?walk2 ?fin2
          case hrun2 =>
            intro x hx
            cases hx
          case walk2 =>
            intro W2 hW2
            repeat (go_big_quiet_step (first | fail))
            refine wpQuiet_nil ?_
            rfl
          intro bs w2 hb hF hN
          have hw := chain hw1 (by omega) hb
          obtain ⟨hc, hf, hz⟩ := bcell hb
          clear hb hF hN hw1 
          simp only [List.map_cons, List.map_nil, List.foldr_cons, List.foldr_nil] at *
          clear bs
          simp only [dstOf, ptr, Act.put, List.getElem?_toArray, List.getElem?_cons_succ, List.getElem?_cons_zero, Option.bind_some, List.setIfInBounds_toArray, List.set_cons_zero, List.set_cons_succ, List.drop_succ_cons, List.drop_zero]
          have hw2 : Wd w2 (.slice (some ⟨bb, off, none⟩) A cap) (xs.take A) := (Wd.take (by omega) c1 m1.out lb h3.out).below (hw.mono (Nat.le_refl _))
          have hw3 : Wd w2 (.slice (some ⟨bb, off + B * 2, none⟩) (xs.length - B) (cap - B)) (xs.drop B) := (Wd.drop hBn c1 m1.out lb h3.out).below (hw.mono (Nat.le_refl _))
          have hwu : Wd w2 (.slice uo ys.length ucap) ys := HU.out.below hw
          have hws := Ws.lit (w := w2) [(.slice (some ⟨bb, off, none⟩) A cap, xs.take A), (.slice uo ys.length ucap, ys), (.slice (some ⟨bb, off + B * 2, none⟩) (xs.length - B) (cap - B), xs.drop B)] #[.slice (some ⟨bb, off, none⟩) A cap, .slice uo ys.length ucap, .slice (some ⟨bb, off + B * 2, none⟩) (xs.length - B) (cap - B)] 24 rfl (by simp) (by intro x hx; simp only [List.mem_cons, List.not_mem_nil, or_false] at hx; rcases hx with rfl | rfl | rfl <;> first | exact hw2 | exact hwu | exact hw3)
          have hcc := concat_any _ _ _ (by simp [cat]; omega) hws
          have ecat : cat [(.slice (some ⟨bb, off, none⟩) A cap, xs.take A), (.slice uo ys.length ucap, ys), (.slice (some ⟨bb, off + B * 2, none⟩) (xs.length - B) (cap - B), xs.drop B)] 3 = spl xs A B ys := by simp [cat, spl]
          simp only [List.length_cons, List.length_nil, Nat.zero_add, Nat.reduceAdd, ecat] at hcc
          have HCC := Lib.hid hcc
          clear hcc ecat hws hw2 hw3 hwu
          go_wp2_with fail
          go_at_call 37
          with_reducible refine Makes.then HCC.out ?_
          intro v4 w4 ho4 hb4
          have hb24 : Below w.heap.size w w4 := hw.trans ((((Below.refl _ w2).alloc (Nat.le_refl _) _).trans (hb4.mono (by rw [World.size_alloc]; omega))).mono hw.size)
          have ho4' : Own w4 w.heap.size v4 (spl xs A B ys) := ho4.mono (by rw [World.size_alloc]; have := hw.size; omega)
          obtain ⟨ao4, cap4, rfl, -, -, -⟩ := ho4.wd.open
          by_cases h32 : (spl xs A B ys).length ≤ 32
          · skip
            go_wp2_with fail
            go_ret2
            exact ⟨_, by (rw [HE.out, if_pos h32]; try rfl), by rw [HS.out, if_pos h32]; exact ho4', hb24⟩
          · skip
            go_wp2_with fail
            go_ret2
            exact ⟨_, by (rw [HE.out, if_neg h32]; try rfl), by rw [HS.out, if_neg h32]; exact Own.nil _ _, hb24⟩
  · have eE : splE xs a b ys = ck2 xs ys := by simp [splE, hc]
    have eS : splS xs a b ys = [] := by simp [splS, hc]
    rw [eE, eS]
    generalize ck2 xs ys = c at *
    have hb : (c == 0) = false := by simpa using hc
    have hb' : (c != 0) = true := by simpa using hc
    have HC := Lib.hid hC
    clear eE eS hP hc hC e0
    obtain ⟨ao, cap, rfl, -, -, -⟩ := h.open
    obtain ⟨ao', cap', rfl, -, -, -⟩ := hu.open
    clear h hu
    go_enter Try.func17, Try.ntmps17
    go_wp2_with fail
    go_at_call 24
    with_reducible refine Gives.then HC.out ?_
    intro w1 hb1
    have hb1 := ((Below.refl _ w).alloc (Nat.le_refl _) _).trans (hb1.mono (by rw [World.size_alloc]; omega))
    go_wp2_with fail
    go_ret2
    exact ⟨_, rfl, Own.nil _ _, hb1⟩
end Go.Proofs.Ytfjngkdpembdcaa
