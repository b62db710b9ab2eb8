/-
  Parts of words: isPart, slices.Clone, Cut.
-/
import Derived.Test.YtfjngkdpembdcaaHe
import Derived.RangeFuncBox
import Derived.Lib.SliceRun
namespace Go.Proofs.Ytfjngkdpembdcaa
open Go.RowKit Go.Sort
/-- Whether a and b are the ends of a part. -/
def part (n : Nat) (a b : Int) : Bool := decide (0 ≤ a) && decide (a ≤ b) && decide (b ≤ n)
set_option maxHeartbeats 1000000 in
theorem isPart_any (ss : List Snd) (v : Value) (a b : Int) (w : World) (h : Wd w v ss) : Gives 35 #[v, .int .i64 a, .int .i64 b] w (.bool (part ss.length a b)) := by
  unfold Gives
  obtain ⟨ao, cap, rfl, c1, m1, H1⟩ := h.open
  clear h c1 m1 H1
  generalize hd : part ss.length a b = D
  have HD := Lib.hid hd; clear hd
  by_cases h1 : 0 ≤ a
  · by_cases h2 : a ≤ b
    · by_cases h3 : b ≤ ss.length
      · have hf := (show part ss.length a b = true by simp [part, h1, h2, h3]).symm.trans HD.out
        subst hf
        go_enter Try.func35, Try.ntmps35
        go_wp2
        go_returns
        exact ⟨by first | rfl | simp, by go_grown⟩
      · have hf := (show part ss.length a b = false by simp [part, h3]).symm.trans HD.out
        subst hf
        go_enter Try.func35, Try.ntmps35
        go_wp2
        go_returns
        exact ⟨by first | rfl | simp, by go_grown⟩
    · have hf := (show part ss.length a b = false by simp [part, h2]).symm.trans HD.out
      subst hf
      go_enter Try.func35, Try.ntmps35
      go_wp2
      go_returns
      exact ⟨by first | rfl | simp, by go_grown⟩
  · have hf := (show part ss.length a b = false by simp [part, h1]).symm.trans HD.out
    subst hf
    go_enter Try.func35, Try.ntmps35
    go_wp2
    go_returns
    exact ⟨by first | rfl | simp, by go_grown⟩
theorem Own.empty (w : World) : Own (w.alloc (.cells #[] 32)) w.heap.size (.slice (some ⟨w.heap.size, 0, none⟩) 0 0) [] :=
  ⟨rfl, .inr ⟨w.heap.size, 0, #[], rfl, Nat.le_refl _, World.alloc_heap_new w _, Nat.le_refl _, by decide, rfl, rfl⟩⟩
/-- The call returns a new slice that holds these sounds. -/
abbrev Makes (f : Nat) (args : Array Value) (w : World) (ss : List Snd) : Prop := Calls Try.prog f args w fun e w' => ∃ v, e = .returned v ∧ Own w' w.heap.size v ss ∧ Below w.heap.size w w'
theorem Makes.then {f : Nat} {args : Array Value} {w : World} {ss : List Snd} {Q : Ending → World → Prop} (h : Makes f args w ss) (k : ∀ v w1, Own w1 w.heap.size v ss → Below w.heap.size w w1 → Q (.returned v) w1) : Calls Try.prog f args w Q := Calls.mono h (by rintro e w1 ⟨v, rfl, ho, hb⟩; exact k v w1 ho hb)
set_option maxHeartbeats 1000000 in
theorem clone_any (ss : List Snd) (v : Value) (w : World) (hl : ss.length ≤ 1000000000000) (h : Wd w v ss) : Makes 29 #[v] w ss := by
  unfold Makes
  have hnil := fun (w : World) (ao : Option Addr) (n c : Nat) => Lib.run_eql_slice_nil (P := Try.prog) w 24 32 ao n c 0 0 Try.underlying24
  have h' := h
  have HL := Lib.hid hl; clear hl
  rcases h with ⟨rfl | ⟨aa, rfl⟩, rfl⟩ | ⟨b, off, cap, rfl, hx⟩
  · go_enter Try.func29, Try.ntmps29
    go_wp2
    go_returns
    exact ⟨_, rfl, Own.nil _ _, by go_grown⟩
  · have HW := Lib.hid h'; clear h'
    have ho1 := Own.empty w
    go_enter Try.func29, Try.ntmps29
    go_wp2_with (at_builtin; refine wpList_app rfl (.tmp 5) (.tmp 6) 24 Try.underlying24 rfl w.heap.size _ _ [] [] rfl rfl ho1 (HW.out.below ((Below.refl _ w).alloc (Nat.le_refl _) _)) (by simp) (by go_size) ?_; intro v' w2 ho2 hk2 hz2)
    go_returns
    exact ⟨_, rfl, ho2, hk2 _ _ (Nat.le_refl _) (by go_grown)⟩
  · have HW := Lib.hid h'; clear h' hx
    have ho1 := Own.empty w
    go_enter Try.func29, Try.ntmps29
    go_wp2_with (at_builtin; refine wpList_app rfl (.tmp 5) (.tmp 6) 24 Try.underlying24 rfl w.heap.size _ _ [] ss rfl rfl ho1 (HW.out.below ((Below.refl _ w).alloc (Nat.le_refl _) _)) (by simpa using HL.out) (by go_size) ?_; intro v' w2 ho2 hk2 hz2)
    go_returns
    exact ⟨_, rfl, ho2, hk2 _ _ (Nat.le_refl _) (by go_grown)⟩
/-- The sounds from A on, to B. -/
def sub (ss : List Snd) (A B : Nat) : List Snd := (ss.drop A).take (B - A)
theorem sub_length {ss : List Snd} {A B : Nat} (hB : B ≤ ss.length) : (sub ss A B).length = B - A := by unfold sub; simp; omega
theorem sub_get {ss : List Snd} {A B i : Nat} (h : i < (sub ss A B).length) (h' : A + i < ss.length) : (sub ss A B)[i] = ss[A + i] := by
  have h2 : i < ((ss.drop A).take (B - A)).length := h
  exact (List.getElem_take (xs := ss.drop A) (h := h2)).trans List.getElem_drop
theorem Wd.sub {w : World} {b off cap A B : Nat} {ss : List Snd} (hc : ss.length ≤ cap) (hm : cap ≤ maxLen) (hb : b < w.heap.size) (h3 : ∀ i (h : i < ss.length), w.cell? ⟨b, off + i * 2, none⟩ = some (.int .u32 (ss[i].1.toNat : Int)) ∧ w.cell? ⟨b, off + i * 2 + 1, none⟩ = some (.int .u32 (ss[i].2.toNat : Int)))
    (hB : B ≤ ss.length) : Wd w (.slice (some ⟨b, off + A * 2, none⟩) (B - A) (cap - A)) (Proofs.Ytfjngkdpembdcaa.sub ss A B) := by
  have hl := sub_length (A := A) hB
  refine .inr ⟨b, off + A * 2, cap - A, by rw [hl], by omega, by omega, hb, fun i hi => ?_⟩
  have hi' : A + i < ss.length := by omega
  obtain ⟨e0, e1⟩ := h3 (A + i) hi'
  rw [sub_get hi hi', show off + A * 2 + i * 2 = off + (A + i) * 2 from by omega]
  exact ⟨e0, e1⟩
theorem Wd.sub0 {w : World} {b off A B : Nat} {ss : List Snd} (hc : ss.length ≤ A) (hb : b < w.heap.size) (hB : B ≤ ss.length) : Wd w (.slice (some ⟨b, off, none⟩) (B - A) 0) (Proofs.Ytfjngkdpembdcaa.sub ss A B) := by
  have hl := sub_length (A := A) hB
  refine .inr ⟨b, off, 0, by rw [hl], by omega, by decide, hb, fun i hi => by omega⟩
/-- What Cut returns: the error, and the sounds. -/
def cutE (ss : List Snd) (a b : Int) : Int := if chk ss ≠ 0 then chk ss else if part ss.length a b then 0 else 3
def cutS (ss : List Snd) (a b : Int) : List Snd := if chk ss ≠ 0 then [] else if part ss.length a b then sub ss a.toNat b.toNat else []
theorem chk_short {ss : List Snd} (h : chk ss = 0) : ss.length ≤ 32 := by
  unfold chk at h
  split at h
  · cases h
  · omega
/-- The call returns an error, and a new slice that holds these sounds. -/
abbrev MakesE (f : Nat) (args : Array Value) (w : World) (e : Int) (ss : List Snd) : Prop := Calls Try.prog f args w fun z w' => ∃ v, z = .returned (.tuple #[v, .int .i64 e]) ∧ Own w' w.heap.size v ss ∧ Below w.heap.size w w'
theorem MakesE.then {f : Nat} {args : Array Value} {w : World} {e : Int} {ss : List Snd} {Q : Ending → World → Prop} (h : MakesE f args w e ss) (k : ∀ v w1, Own w1 w.heap.size v ss → Below w.heap.size w w1 → Q (.returned (.tuple #[v, .int .i64 e])) w1) : Calls Try.prog f args w Q := Calls.mono h (by rintro z w1 ⟨v, rfl, ho, hb⟩; exact k v w1 ho hb)
theorem own_in {w w1 w2 : World} {v : Value} {ss : List Snd} (ho : Own w2 w1.heap.size v ss) (h1 : Below w.heap.size w w1) : Own w2 w.heap.size v ss := ho.mono h1.size
set_option maxHeartbeats 1000000 in
theorem cut_any (ss : List Snd) (v : Value) (a b : Int) (w : World) (h : Wd w v ss) (hne : ss ≠ []) : MakesE 15 #[v, .int .i64 a, .int .i64 b] w (cutE ss a b) (cutS ss a b) := by
  unfold MakesE
  have hC := check_any ss v w h
  have hP := fun w1 (hb : Below w.heap.size w w1) => isPart_any ss v a b w1 (h.below hb)
  have HC := Lib.hid hC; have HP := Lib.hid hP; clear hC hP
  by_cases hc : chk ss = 0
  · have hc0 := HC.out; rw [hc] at hc0
    have HC0 := Lib.hid hc0; clear hc0 HC
    rcases hp : part ss.length a b with _ | _
    · have hp0 := HP.out; simp only [hp] at hp0
      have eE : cutE ss a b = 3 := by simp [cutE, hc, hp]
      have eS : cutS ss a b = [] := by simp [cutS, hc, hp]
      rw [eE, eS]
      have HP0 := Lib.hid hp0
      clear hp0 eE eS HP hc hp
      obtain ⟨ao, cap, rfl, -, -, -⟩ := h.open
      clear h
      go_enter Try.func15, Try.ntmps15
      go_wp2_with fail
      go_at_call 11
      with_reducible refine Gives.then HC0.out ?_
      intro w1 hb1
      go_wp2_with fail
      go_at_call 35
      with_reducible refine Gives.then (HP0.out _ hb1) ?_
      intro w2 hb2
      go_wp2_with fail
      go_ret2
      exact ⟨_, rfl, Own.nil _ _, hb1.trans (hb2.mono hb1.size)⟩
    · have hp0 := HP.out; simp only [hp] at hp0
      have eE : cutE ss a b = 0 := by simp [cutE, hc, hp]
      have eS : cutS ss a b = sub ss a.toNat b.toNat := by simp [cutS, hc, hp]
      rw [eE, eS]
      have HP0 := Lib.hid hp0
      unfold part at hp
      simp only [Bool.and_eq_true, decide_eq_true_eq] at hp
      obtain ⟨⟨p1, p2⟩, p3⟩ := hp
      have h32 := chk_short hc
      clear hp0 eE eS HP hc
      obtain ⟨A, rfl⟩ := Int.eq_ofNat_of_zero_le p1
      obtain ⟨B, rfl⟩ := Int.eq_ofNat_of_zero_le (Int.le_trans p1 p2)
      simp only [Int.toNat_natCast]
      rcases h with ⟨-, rfl⟩ | ⟨bb, off, cap, rfl, c1, m1, lb, h3⟩
      · exact absurd rfl hne
      · clear hne
        have h3 := Lib.hid h3
        have m1 := Lib.hid m1
        have hl : cap ≤ 9223372036854775807 := m1.out
        go_enter Try.func15, Try.ntmps15
        go_wp2_with fail
        go_at_call 11
        with_reducible refine Gives.then HC0.out ?_
        intro w1 hb1
        go_wp2_with fail
        go_at_call 35
        with_reducible refine Gives.then (HP0.out _ hb1) ?_
        intro w2 hb2
        go_wp2_with fail
        all_goals have hb12 := hb1.trans (hb2.mono hb1.size)
        all_goals go_at_call 29
        all_goals first
          | with_reducible refine Makes.then (clone_any (sub ss A B) _ _ (by rw [sub_length (by omega)]; omega) ((Wd.sub c1 m1.out lb h3.out (by omega)).below hb12)) ?_
          | with_reducible refine Makes.then (clone_any (sub ss A B) _ _ (by rw [sub_length (by omega)]; omega) ((Wd.sub0 (by omega) lb (by omega)).below hb12)) ?_
        all_goals intro v w3 ho hb3
        all_goals go_wp2_with fail
        all_goals go_ret2
        all_goals exact ⟨_, rfl, own_in ho hb12, hb12.trans (hb3.mono hb12.size)⟩
  · have eE : cutE ss a b = chk ss := by simp [cutE, hc]
    have eS : cutS ss a b = [] := by simp [cutS, hc]
    rw [eE, eS]
    generalize chk ss = c at *
    have hb : (c == 0) = false := by simpa using hc
    have hb' : (c != 0) = true := by simpa using hc
    clear eE eS HP hc
    obtain ⟨ao, cap, rfl, -, -, -⟩ := h.open
    clear h
    go_enter Try.func15, Try.ntmps15
    go_wp2_with fail
    go_at_call 11
    with_reducible refine Gives.then HC.out ?_
    intro w1 hb1
    go_wp2_with fail
    go_ret2
    exact ⟨_, rfl, Own.nil _ _, hb1⟩
end Go.Proofs.Ytfjngkdpembdcaa
