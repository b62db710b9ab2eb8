/-
  The runs of a word: the iterator.
-/
import Derived.Test.YtfjngkdpembdcaaHq
import Derived.Sort.QuietIn
namespace Go.Proofs.Ytfjngkdpembdcaa
open Go.RowKit Go.Shelf Go.Sort
attribute [local go_sem] Oper.semAt_some
attribute [local go_sem ↓] snd_eql snd_neq
/-- Runs, one after the other, from a place to a place. -/
def Chain (ss : List Snd) : List (Nat × Nat) → Nat → Nat → Prop
  | [], a, z => a = z
  | x :: l, a, z => x.1 = a ∧ x.1 < x.2 ∧ x.2 ≤ ss.length ∧ (∀ k, x.1 ≤ k → k < x.2 → ss[k]? = ss[x.1]?) ∧ (x.2 < ss.length → ss[x.2]? ≠ ss[x.1]?) ∧ Chain ss l x.2 z
theorem Chain.snoc {ss : List Snd} {p q : Nat} (h1 : p < q) (h2 : q ≤ ss.length) (h3 : ∀ k, p ≤ k → k < q → ss[k]? = ss[p]?) (h4 : q < ss.length → ss[q]? ≠ ss[p]?) : ∀ (l : List (Nat × Nat)) (a : Nat), Chain ss l a p → Chain ss (l ++ [(p, q)]) a q
  | [], a, h => by
    have h : a = p := h
    subst h
    exact ⟨rfl, h1, h2, h3, h4, rfl⟩
  | x :: l, a, h => by
    obtain ⟨c1, c2, c3, c4, c5, c6⟩ := h
    exact ⟨c1, c2, c3, c4, c5, Chain.snoc h1 h2 h3 h4 l x.2 c6⟩
theorem same_more {ss : List Snd} {A B : Nat} (hB : B < ss.length) (hA : A < ss.length) (he : ss[B] = ss[A]) (h : ∀ k, A ≤ k → k < B → ss[k]? = ss[A]?) : ∀ k, A ≤ k → k < B + 1 → ss[k]? = ss[A]? := fun k h1 h2 => by
  by_cases hk : k < B
  · exact h k h1 hk
  · obtain rfl : k = B := by omega
    rw [List.getElem?_eq_getElem hB, List.getElem?_eq_getElem hA, he]
theorem same_not {ss : List Snd} {A B : Nat} {x y : Snd} (hB : B < ss.length) (hA : A < ss.length) (hx : ss[B] = x) (hy : ss[A] = y) (hne : ¬ x = y) : B < ss.length → ss[B]? ≠ ss[A]? := fun _ e => by
  rw [List.getElem?_eq_getElem hB, List.getElem?_eq_getElem hA, hx, hy] at e
  exact hne (Option.some.inj e)
abbrev encR (x : Nat × Nat) : Array Value := #[.int .i64 (x.1 : Int), .int .i64 (x.2 : Int)]
theorem grown_drew (w : World) (q : Nat) : w.grownBy (w.drewN q) none := ⟨rfl, rfl, rfl, Nat.le_refl _, fun _ _ _ => rfl⟩
theorem below_drewN {B : Nat} {a w : World} (h : Below B a w) (q : Nat) : Below B a (w.drewN q) := ⟨h.os, h.tape, h.output, h.size, h.block⟩
/-- What is older than n₀ stands, and so does one block more. -/
def KB (n₀ Bn : Nat) (a b : World) : Prop := Below n₀ a b ∧ (Bn < a.heap.size → b.heap[Bn]? = a.heap[Bn]?)
theorem KB.refl (n₀ Bn : Nat) (a : World) : KB n₀ Bn a a := ⟨Below.refl _ _, fun _ => rfl⟩
theorem KB.trans {n₀ Bn : Nat} {a b c : World} (h : KB n₀ Bn a b) (k : KB n₀ Bn b c) : KB n₀ Bn a c := ⟨h.1.trans k.1, fun hl => (k.2 (Nat.lt_of_lt_of_le hl h.1.size)).trans (h.2 hl)⟩
theorem KB.drewN {n₀ Bn : Nat} {a b : World} (h : KB n₀ Bn a b) (q : Nat) : KB n₀ Bn a (b.drewN q) := ⟨below_drewN h.1 q, h.2⟩
theorem KB.bn {n₀ Bn : Nat} {a b : World} (h : KB n₀ Bn a b) (hl : Bn < a.heap.size) : b.cell? ⟨Bn, 0, none⟩ = a.cell? ⟨Bn, 0, none⟩ := World.cell?_of_block (h.2 hl)
set_option maxRecDepth 100000 in
set_option maxHeartbeats 4000000 in
/-- The iterator: each run of the word, in order. -/
theorem runs_in (n : Nat) (hn : 1 ≤ n) (lid Bn n₀ : Nat) (ss : List Snd) (ao : Option Addr) (cap : Nat) (hl : ss.length ≤ 1000000000) (J Jx : List (Nat × Nat) → World → Prop)
    (W : World) (hab : AbidesFrom W.heap.size J)
    (hY : ∀ pre x W, J pre W → pre.length < ss.length → YieldAt Fence.wide (n - 1) Try.prog lid (encR x) W fun e W' =>
      (e = .returned (.bool true) ∧ J (pre ++ [x]) W' ∧ KB n₀ Bn W W') ∨ (e = .returned (.bool false) ∧ Jx (pre ++ [x]) W'))
    (hBn : W.cell? ⟨Bn, 0, none⟩ = some (.slice ao ss.length cap)) (hc : ∀ i (h : i < ss.length), ∃ b off, ao = some ⟨b, off, none⟩ ∧ b < n₀ ∧ W.cell? ⟨b, off + i * 2, none⟩ = some (.int .u32 (ss[i].1.toNat : Int)) ∧ W.cell? ⟨b, off + i * 2 + 1, none⟩ = some (.int .u32 (ss[i].2.toNat : Int))) (h0 : J [] W) :
    CallsIn Fence.wide n Try.prog 49 #[.func (.yield lid) #[] #[], .pointer (some ⟨Bn, 0, none⟩)] W fun e W' => (∃ v, e = .returned v) ∧
      ((∃ ys, Chain ss ys 0 ss.length ∧ J ys W') ∨ (∃ pre, True ∧ Jx pre W')) := by
  have hBW : Bn < W.heap.size := World.block_lt_of_cell? _ _ hBn
  have HC := Lib.hid hc; have HBN := Lib.hid hBn; have HAB := Lib.hid hab
  clear hc hBn hab
  refine callsIn_of_wp Try.func49 rfl trivial ?_ rfl
  simp only [Try.ntmps49, List.size_toArray, List.length_cons, List.length_nil, Nat.reduceAdd, Nat.reduceSub, Array.replicate_succ, Array.replicate_zero, List.push_toArray, List.append_toArray, List.nil_append, List.cons_append]
  gi_wp2
  gi_loopw [3, 4] (fun p r wr => ∃ (A : Nat) (pre : List (Nat × Nat)), p = .int .i64 (A : Int) ∧ r = .int .i64 (A : Int) ∧ A ≤ ss.length ∧ Chain ss pre 0 A ∧ pre.length ≤ A ∧ J pre wr ∧ KB n₀ Bn W wr) (fun p r wr => ss.length - (intOf p).toNat)
  case atStart =>
    exact ⟨0, [], rfl, rfl, by omega, rfl, Nat.le_refl _, h0, KB.refl _ _ _⟩
  case round =>
    obtain ⟨A, pre, rfl, rfl, hA, hch, hpl, hJ, hw⟩ := hrel
    have HCH := Lib.hid hch; have HJ := Lib.hid hJ; have HW := Lib.hid hw
    have cB := (hw.bn hBW).trans HBN.out
    clear hch hJ hw
    by_cases hlt : A < ss.length
    · gi_wp2_with fail
      gi_loopw [4] (fun r w4 => ∃ B : Nat, r = .int .i64 (B : Int) ∧ A ≤ B ∧ B ≤ ss.length ∧ (∀ k, A ≤ k → k < B → ss[k]? = ss[A]?) ∧ J pre w4 ∧ KB n₀ Bn W w4) (fun r w4 => ss.length - (intOf r).toNat)
      case atStart => exact ⟨A, rfl, Nat.le_refl _, by omega, fun k h1 h2 => by omega, HJ.out, HW.out⟩
      case round =>
        clear HJ HW
        obtain ⟨B, rfl, hB1, hB2, hrun, hJ, hw⟩ := hrel
        have HR := Lib.hid hrun; have HJ := Lib.hid hJ
        have cB := (hw.bn hBW).trans HBN.out
        clear hrun hJ
        by_cases hlt2 : B < ss.length
        · obtain ⟨b, off, rfl, lb, d0, d1⟩ := HC.out B hlt2
          obtain ⟨b', off', hao, lb', e0, e1⟩ := HC.out A hlt
          cases hao
          have d0 := (hw.1.cell (p := ⟨b, off + B * 2, none⟩) lb).trans d0
          have d1 := (hw.1.cell (p := ⟨b, off + B * 2 + 1, none⟩) lb).trans d1
          have e0 := (hw.1.cell (p := ⟨b, off + A * 2, none⟩) lb').trans e0
          have e1 := (hw.1.cell (p := ⟨b, off + A * 2 + 1, none⟩) lb').trans e1
          have hsame := fun he => same_more hlt2 hlt he HR.out
          generalize hx : ss[B] = x at *
          generalize hy : ss[A] = y at *
          have hg : decide ((B : Int) < (ss.length : Int)) = true := decide_eq_true (by omega)
          by_cases hxy : x = y
          · subst hxy
            have HSM := Lib.hid (hsame rfl)
            clear hsame hx hy
            obtain ⟨x1, x2⟩ := x
            simp only at d0 d1 e0 e1
            gi_wp2_with fail
            gi_quiet (fail)
            have hJ2 := HAB.out pre wr (wr.drewN nq) none HJ.out (grown_drew _ _) (by rintro r e; cases e)
            have hw2 : KB n₀ Bn W (wr.drewN nq) := hw.drewN nq
            clear hw HJ cB d0 d1 e0 e1
            generalize wr.drewN nq = wd at *
            gi_wp2_with fail
            go_roundw
            case rel => exact ⟨B + 1, by go_num, by omega, by omega, HSM.out, hJ2, hw2⟩
            case measure => simp [intOf]; omega
          · have hne := snd_ne hxy
            have HNE := Lib.hid (same_not hlt2 hlt hx hy hxy)
            have hBA : A < B := by
              by_cases h : A = B
              · subst h; exact absurd (hx.symm.trans hy) hxy
              · omega
            clear hsame hx hy hxy
            obtain ⟨x1, x2⟩ := x
            obtain ⟨y1, y2⟩ := y
            simp only at d0 d1 e0 e1 hne
            gi_wp2_with fail
            gi_quiet (fail)
            have hJ2 := HAB.out pre wr (wr.drewN nq) none HJ.out (grown_drew _ _) (by rintro r e; cases e)
            have hw2 : KB n₀ Bn W (wr.drewN nq) := hw.drewN nq
            clear hw HJ cB d0 d1 e0 e1
            generalize wr.drewN nq = wd at *
            obtain ⟨fn, tmps, assign, body, hy, hR⟩ := hY pre (A, B) wd hJ2 (by omega)
            dsimp only [encR] at hy
            have hch := Chain.snoc hBA hB2 HR.out HNE.out pre 0 HCH.out
            have HRR := Lib.hid hR; have HCC := Lib.hid hch
            clear hR hch HR HNE HCH HC hJ2
            gi_wp2_with fail
            refine HRR.out.mono ?_
            rintro e W3 (⟨rfl, hJ3, hk3⟩ | ⟨rfl, hJx3⟩)
            · gi_wp2
              go_roundw
              case rel => exact ⟨B, pre ++ [(A, B)], rfl, rfl, hB2, HCC.out, by rw [List.length_append]; simp; omega, hJ3, hw2.trans hk3⟩
              case measure => simp [intOf]; omega
            · gi_wp2
              refine bodyPost_ret (results_none rfl _ _ _) rfl ?_
              exact ⟨⟨_, rfl⟩, .inr ⟨_, trivial, hJx3⟩⟩
        · have hg : decide ((B : Int) < (ss.length : Int)) = false := decide_eq_false (by omega)
          have HNE : Hid (B < ss.length → ss[B]? ≠ ss[A]?) := Lib.hid (fun h => absurd h hlt2)
          have hBA : A < B := by omega
          gi_wp2_with fail
          gi_quiet (fail)
          have hJ2 := HAB.out pre wr (wr.drewN nq) none HJ.out (grown_drew _ _) (by rintro r e; cases e)
          have hw2 : KB n₀ Bn W (wr.drewN nq) := hw.drewN nq
          clear hw HJ cB
          generalize wr.drewN nq = wd at *
          obtain ⟨fn, tmps, assign, body, hy, hR⟩ := hY pre (A, B) wd hJ2 (by omega)
          dsimp only [encR] at hy
          have hch := Chain.snoc hBA hB2 HR.out HNE.out pre 0 HCH.out
          have HRR := Lib.hid hR; have HCC := Lib.hid hch
          clear hR hch HR HNE HCH HC hJ2
          gi_wp2_with fail
          refine HRR.out.mono ?_
          rintro e W3 (⟨rfl, hJ3, hk3⟩ | ⟨rfl, hJx3⟩)
          · gi_wp2
            go_roundw
            case rel => exact ⟨B, pre ++ [(A, B)], rfl, rfl, hB2, HCC.out, by rw [List.length_append]; simp; omega, hJ3, hw2.trans hk3⟩
            case measure => simp [intOf]; omega
          · gi_wp2
            refine bodyPost_ret (results_none rfl _ _ _) rfl ?_
            exact ⟨⟨_, rfl⟩, .inr ⟨_, trivial, hJx3⟩⟩
    · obtain rfl : A = ss.length := by omega
      gi_wp2
      go_end0
      exact ⟨⟨_, rfl⟩, .inl ⟨pre, HCH.out, HJ.out⟩⟩
end Go.Proofs.Ytfjngkdpembdcaa
