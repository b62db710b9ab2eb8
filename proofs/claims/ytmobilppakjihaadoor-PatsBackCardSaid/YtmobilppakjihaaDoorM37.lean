/-
  Lemmas that the theorem of this claim rests on: 2 texts, one behind the other.
-/
import Derived.Test.YtmobilppakjihaaDoorM1
import Derived.Test.YtmobilppakjihaaDoorProg
import Derived.Shelf.SlicesQ.Reverse
set_option linter.unusedSimpArgs false
set_option linter.unusedVariables false
/-
  The library's contract of slices.Reverse, laid at this program's own numbers: for sounds.
-/
namespace Go.Proofs.YtmobilppakjihaaDoor
open Go.Shelf Go.Proofs
def TrydRevL_ren : Go.Shelf.Ren := ⟨fun | 35 => 65 | n => n, fun | 22 => 34 | 23 => 24 | 3 => 3 | 4 => 4 | 0 => 0 | n => n, fun | n => n⟩
theorem TrydRevL : SlLaysE0.n35 Tryd.prog TrydRevL_ren := {
  mixed := by kernel_rfl,
  f35 := ⟨Tryd.f65.name, by decide, Tryd.func65.trans (congrArg some (by kernel_rfl))⟩,
  t0 := Tryd.underlying0,
  a0 := Tryd.isAgg0,
  z0 := Tryd.sizeOf0,
  v0 := Tryd.zeroValue0,
  t3 := Tryd.underlying3,
  a3 := Tryd.isAgg3,
  z3 := Tryd.sizeOf3,
  v3 := Tryd.zeroValue3,
  t4 := Tryd.underlying4,
  a4 := Tryd.isAgg4,
  z4 := Tryd.sizeOf4,
  v4 := Tryd.zeroValue4,
  t22 := Tryd.underlying34,
  a22 := Tryd.isAgg34,
  z22 := Tryd.sizeOf34,
  v22 := Tryd.zeroValue34 }
end Go.Proofs.YtmobilppakjihaaDoor

/-
  slices.Reverse on sounds; Reverse of words.
-/
namespace Go.Proofs.YtmobilppakjihaaDoor
open Go.RowKit Go.Sort Go.Shelf Go.Proofs
def encS (s : Snd) : List Value := [.int .u32 (s.1.toNat : Int), .int .u32 (s.2.toNat : Int)]
theorem holds_cells {w : World} {g : Nat} {cur : Array Value} {ss : List Snd} (hh : w.heap[g]? = some (.cells cur 24 (0, 0))) (h3 : ∀ i (h : i < ss.length), w.cell? ⟨g, 0 + i * 2, none⟩ = some (.int .u32 (ss[i].1.toNat : Int)) ∧ w.cell? ⟨g, 0 + i * 2 + 1, none⟩ = some (.int .u32 (ss[i].2.toNat : Int))) : HoldsK encS 2 w g 0 ss.toArray := by
  intro j hj
  rw [size_flatK, List.size_toArray] at hj
  refine ⟨?_, frozen_block hh⟩
  have hi : j / 2 < ss.length := by omega
  show w.cell? ⟨g, 0 + j, none⟩ = some ((flatK encS 2 ss.toArray)[j]!)
  rw [get_flatK _ _ _ _ (by rw [List.size_toArray]; exact hj)]
  have e : ss.toArray[j / 2]! = ss[j / 2] := by rw [getElem!_pos ss.toArray (j / 2) (by simpa using hi)]; simp
  rw [e]
  obtain ⟨c0, c1⟩ := h3 (j / 2) hi
  rcases Nat.mod_two_eq_zero_or_one j with m | m
  · rw [m, show (0 + j) = 0 + j / 2 * 2 from by omega]; exact c0
  · rw [m, show (0 + j) = 0 + j / 2 * 2 + 1 from by omega]; exact c1
theorem reverse_own (ss : List Snd) (v : Value) (w : World) (B : Nat) (h : Own w B v ss) (hl : ss.length ≤ 1000000000) : Calls Tryd.prog 65 #[v] w fun e w' => e = .returned (.tuple #[]) ∧ Wd w' v ss.reverse ∧ ∀ a, Below B a w → Below B a w' := by
  have hwd := h.wd
  obtain ⟨_, ⟨rfl, h0⟩ | ⟨g, cap, cur, rfl, hg, hh, hn, hm, hs, ht⟩⟩ := h
  · have hcon := AnyQ.slices_Reverse_empty TrydRevL none 0 w
    change Calls Tryd.prog 65 _ _ _ at hcon
    refine hcon.mono ?_
    rintro e w' ⟨rfl, rfl⟩
    have : ss = [] := List.eq_nil_of_length_eq_zero h0
    subst this
    exact ⟨rfl, Wd.nil _, fun _ h => h⟩
  · have h3 : ∀ i (h : i < ss.length), w.cell? ⟨g, 0 + i * 2, none⟩ = some (.int .u32 (ss[i].1.toNat : Int)) ∧ w.cell? ⟨g, 0 + i * 2 + 1, none⟩ = some (.int .u32 (ss[i].2.toNat : Int)) := by
      rcases hwd with ⟨_, h0⟩ | ⟨b, off, cap', hv, _, _, _, h3⟩
      · subst h0
        intro i hi
        simp at hi
      · cases hv; exact h3
    have hH := holds_cells hh h3
    have hcon := AnyQ.slices_Reverse TrydRevL 2 Tryd.isAgg24 Tryd.sizeOf24 encS (fun _ => rfl) (fun x v hv => by simp [encS] at hv; rcases hv with rfl | rfl <;> rfl) g 0 cap ss.toArray w hH (by rw [List.size_toArray]; omega)
    change Calls Tryd.prog 65 _ _ _ at hcon
    rw [List.size_toArray] at hcon
    refine hcon.mono ?_
    rintro e w' ⟨rfl, n, rfl⟩
    have hP := holdsK_putRowK encS 2 (Sort.ahead w n) g 0 ss.toArray ss.toArray.reverse (holdsK_ahead encS 2 w n g 0 ss.toArray hH) (by simp)
    have hgl : g < w.heap.size := (Array.getElem?_eq_some_iff.1 hh).1
    refine ⟨rfl, ?_, fun a hb => ⟨hb.os, hb.tape, hb.output, ?_, fun k hk => ?_⟩⟩
    · refine .inr ⟨g, 0, cap, by rw [List.length_reverse], by rw [List.length_reverse]; exact hn, hm, ?_, fun i hi => ?_⟩
      · show g < (putRow id (Sort.ahead w n) g 0 _).heap.size
        rw [size_putRow]; exact hgl
      · have hi' : i < ss.toArray.reverse.size := by simpa using hi
        have e : ss.toArray.reverse[i]! = ss.reverse[i] := by rw [getElem!_pos _ i hi']; simp
        have c0 := (hP.cell (c := 0) hi' (by decide)).1
        have c1 := (hP.cell (c := 1) hi' (by decide)).1
        rw [e] at c0 c1
        exact ⟨c0, c1⟩
    · show a.heap.size ≤ (putRow id (Sort.ahead w n) g 0 _).heap.size
      rw [size_putRow]; exact hb.size
    · rw [← hb.block k hk]
      show (w.heap.modify g _)[k]? = w.heap[k]?
      rw [Array.getElem?_modify, if_neg (by omega)]
/-- The call returns an error, and a slice that holds these sounds. -/
abbrev GetsE (f : Nat) (args : Array Value) (w : World) (e : Int) (ss : List Snd) : Prop := Calls Tryd.prog f args w fun z w' => ∃ v, z = .returned (.tuple #[v, .int .i64 e]) ∧ Wd w' v ss ∧ Below w.heap.size w w'
theorem GetsE.then {f : Nat} {args : Array Value} {w : World} {e : Int} {ss : List Snd} {Q : Ending → World → Prop} (h : GetsE f args w e ss) (k : ∀ v w1, Wd w1 v ss → Below w.heap.size w w1 → Q (.returned (.tuple #[v, .int .i64 e])) w1) : Calls Tryd.prog f args w Q := Calls.mono h (by rintro z w1 ⟨v, rfl, ho, hb⟩; exact k v w1 ho hb)
def revS (ss : List Snd) : List Snd := if chk ss = 0 then ss.reverse else []
set_option maxHeartbeats 1000000 in
theorem reverse_any (ss : List Snd) (v : Value) (w : World) (h : Wd w v ss) : GetsE 39 #[v] w (chk ss) (revS ss) := by
  unfold GetsE
  have hC := check_any ss v w h
  have DH := Lib.hid h
  obtain ⟨ao, cap, rfl, -, -, -⟩ := h.open
  clear h
  by_cases hc : chk ss = 0
  · have hl := chk_short hc
    have hr : revS ss = ss.reverse := if_pos hc
    rw [hr]
    rw [hc] at hC ⊢
    have HC := Lib.hid hC; have HL : Hid (ss.length ≤ 1000000000) := Lib.hid (by omega)
    have HL2 : Hid (ss.length ≤ 1000000000000) := Lib.hid (by omega)
    clear hC hl hr hc
    go_enter Tryd.func39, Tryd.ntmps39
    go_wp2_with fail
    go_at_call 63
    with_reducible refine Gives.then HC.out ?_
    intro w1 hb1
    go_wp2_with fail
    go_at_call 64
    with_reducible refine Makes.then (clone_any ss _ _ HL2.out (DH.out.below hb1)) ?_
    intro v2 w2 ho2 hb2
    have hw2 := hb1.trans (hb2.mono hb1.size)
    have ho := own_in ho2 hb1
    have HO := Lib.hid ho
    obtain ⟨a2, c2, hv, -, -, -⟩ := ho2.wd.open
    subst hv
    clear ho2 hb2 ho
    go_wp2_with fail
    go_at_call 65
    refine (reverse_own ss _ _ _ HO.out HL.out).mono ?_
    rintro e w3 ⟨rfl, hd, hk⟩
    have hw3 := hk _ hw2
    have HD := Lib.hid hd
    clear hd hk hw2
    go_wp2_with fail
    go_ret2
    exact ⟨_, rfl, HD.out, hw3⟩
  · have hr : revS ss = [] := if_neg hc
    rw [hr]
    generalize chk ss = c at *
    have hc1 : (c == 0) = false := by simpa using hc
    have HC := Lib.hid hC
    clear hC hr hc
    go_enter Tryd.func39, Tryd.ntmps39
    go_wp2_with (go_at_call 63; with_reducible refine Gives.then HC.out ?_; intro w1 hb1)
    go_ret2
    exact ⟨_, rfl, Wd.nil _, hb1⟩
end Go.Proofs.YtmobilppakjihaaDoor
