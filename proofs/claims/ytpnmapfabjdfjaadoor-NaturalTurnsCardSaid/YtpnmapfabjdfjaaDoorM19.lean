/-
  Lemmas that the theorem of this claim rests on: 3 texts, one behind the other.
-/
import Derived.Test.YtpnmapfabjdfjaaDoorM18
import Derived.Test.YtpnmapfabjdfjaaDoorM3
import Derived.Test.YtpnmapfabjdfjaaDoorM15
import Derived.Test.YtpnmapfabjdfjaaDoorM5
import Derived.Test.YtpnmapfabjdfjaaDoorM4
import Derived.Test.YtpnmapfabjdfjaaDoorM7
import Derived.Test.YtpnmapfabjdfjaaDoorM6
set_option linter.unusedSimpArgs false
set_option linter.unusedVariables false

/-
  Shortest of package natural.
-/
namespace Go.Proofs.YtpnmapfabjdfjaaDoor
open Go.RowKit Go.Sort
/-- What Shortest returns. -/
def shoS (l s : List Snd) : Snd := if isB l s = true then shS l (cmS s) else (0#32, 0#32)
theorem cloE_in {l s : List Snd} (h : cloE l s = 0) : ckE l 256 = 0 ∧ s ≠ [] ∧ ∀ x ∈ s, x ∈ l := by
  unfold cloE at h
  by_cases h1 : ckE l 256 ≠ 0
  · rw [if_pos h1] at h; exact absurd h h1
  · rw [if_neg h1] at h
    by_cases h2 : s = [] ∨ ¬ ∀ x ∈ s, x ∈ l
    · rw [if_pos h2] at h; exact absurd h (by decide)
    · exact ⟨Classical.byContradiction h1, fun e => h2 (.inl e), Classical.byContradiction fun e => h2 (.inr e)⟩
set_option maxRecDepth 100000 in
set_option maxHeartbeats 4000000 in
theorem shortestE_any (l s : List Snd) (v u : Value) (w : World) (h : Wd w v l) (hu : Wd w u s) : Gives 19 #[v, u] w (.tuple #[.agg #[.int .u32 ((shoS l s).1.toNat : Int), .int .u32 ((shoS l s).2.toNat : Int)], .bool (isB l s), .int .i64 (cloE l s)]) := by
  unfold Gives
  have his := fun (W : World) (hb : Below w.heap.size w W) => is_any l s v u W (h.below hb) (hu.below hb)
  have hE : isB l s = true → cloE l s = 0 := fun hb => of_decide_eq_true (Bool.and_eq_true_iff.1 hb).1
  have hS : shoS l s = if isB l s = true then shS l (cmS s) else (0#32, 0#32) := rfl
  have hcm : cloE l s = 0 → ∀ W, Below w.heap.size w W → Gives 49 #[u] W (.agg #[.int .u32 ((cmS s).1.toNat : Int), .int .u32 ((cmS s).2.toNat : Int)]) := fun e W hb => common_any s u W (hu.below hb) (cloE_in e).2.1 (fun x hx => ckE_vld (cloE_in e).1 x ((cloE_in e).2.2 x hx))
  have hsh : cloE l s = 0 → ∀ W, Below w.heap.size w W → Gives 56 #[v, .agg #[.int .u32 ((cmS s).1.toNat : Int), .int .u32 ((cmS s).2.toNat : Int)]] W (.agg #[.int .u32 ((shS l (cmS s)).1.toNat : Int), .int .u32 ((shS l (cmS s)).2.toNat : Int)]) := fun e W hb =>
    shortest_any l (cmS s) v W (h.below hb) (ckE_vld (cloE_in e).1) (cmS_vld (fun x hx => ckE_vld (cloE_in e).1 x ((cloE_in e).2.2 x hx))) (ckE_len (cloE_in e).1)
  have hb0 : Below w.heap.size w (w.alloc (.cells #[.int .u32 0, .int .u32 0] 27)) := (Below.refl w.heap.size w).alloc (Nat.le_refl _) _
  have k0 := World.alloc_heap_new w (.cells #[.int .u32 0, .int .u32 0] 27)
  have HB0 := Lib.hid hb0; have K0 := Lib.hid k0
  clear hb0 k0
  obtain ⟨ao, cap, rfl, -, -, -⟩ := h.open
  obtain ⟨ao2, cap2, rfl, -, -, -⟩ := hu.open
  generalize shoS l s = SH at *
  generalize shS l (cmS s) = SX at *
  generalize cmS s = CM at *
  generalize cloE l s = E at *
  generalize isB l s = B at *
  generalize l.length = n at *
  generalize s.length = m at *
  have HIS := Lib.hid his; have HCM := Lib.hid hcm; have HSH := Lib.hid hsh; have HE := Lib.hid hE; have HS := Lib.hid hS
  clear his hcm hsh h hu hE hS
  rcases B with _ | _
  · have e := HS.out
    rw [if_neg (by decide)] at e
    subst e
    clear HS
    go_enter Tryd.func19, Tryd.ntmps19
    go_wp2_with fail
    go_at_call 17
    refine Gives.then (HIS.out _ HB0.out) ?_
    intro w1 hb1
    have k1 := (hb1.block _ (Array.getElem?_eq_some_iff.1 K0.out).1).trans K0.out
    have HW1 := Lib.hid (HB0.out.trans (hb1.mono HB0.out.size))
    have K1 := Lib.hid k1
    clear hb1 k1
    have c0 := cell_block K1.out (o := 0) rfl
    have c1 := cell_block K1.out (o := 1) rfl
    have f0 := frozen_block K1.out (o := 0)
    have f1 := frozen_block K1.out (o := 1)
    have J := Lib.hid (two_cells K1.out (.int .u32 0) (.int .u32 0))
    go_wp2_with fail
    refine bodyPost_ret (v := .tuple #[.agg #[.int .u32 0, .int .u32 0], .bool false, .int .i64 E]) (by simp [results, Tryd.results19, go_sem, J.out.1, J.out.2]) rfl ⟨rfl, HW1.out.setCell2 (Nat.le_refl _) _ _⟩
  · have e0 := HE.out rfl
    subst e0
    have e := HS.out
    rw [if_pos rfl] at e
    subst e
    clear HS
    have HCM2 := Lib.hid (HCM.out rfl); have HSH2 := Lib.hid (HSH.out rfl)
    clear HCM HSH HE
    go_enter Tryd.func19, Tryd.ntmps19
    go_wp2_with fail
    go_at_call 17
    refine Gives.then (HIS.out _ HB0.out) ?_
    intro w1 hb1
    have k1 := (hb1.block _ (Array.getElem?_eq_some_iff.1 K0.out).1).trans K0.out
    have HW1 := Lib.hid (HB0.out.trans (hb1.mono HB0.out.size))
    have K1 := Lib.hid k1
    clear hb1 k1
    go_wp2_with fail
    go_at_call 49
    refine Gives.then (HCM2.out _ HW1.out) ?_
    intro w2 hb2
    have HW2 := Lib.hid (HW1.out.trans (hb2.mono HW1.out.size))
    have K2 := Lib.hid ((hb2.block _ (Array.getElem?_eq_some_iff.1 K1.out).1).trans K1.out)
    clear hb2
    go_wp2_with fail
    go_at_call 56
    refine Gives.then (HSH2.out _ HW2.out) ?_
    intro w3 hb3
    have HW3 := Lib.hid (HW2.out.trans (hb3.mono HW2.out.size))
    have K3 := Lib.hid ((hb3.block _ (Array.getElem?_eq_some_iff.1 K2.out).1).trans K2.out)
    clear hb3
    have c0 := cell_block K3.out (o := 0) rfl
    have c1 := cell_block K3.out (o := 1) rfl
    have f0 := frozen_block K3.out (o := 0)
    have f1 := frozen_block K3.out (o := 1)
    have J := Lib.hid (two_cells K3.out (.int .u32 (SH.1.toNat : Int)) (.int .u32 (SH.2.toNat : Int)))
    go_wp2_with fail
    refine bodyPost_ret (v := .tuple #[.agg #[.int .u32 (SH.1.toNat : Int), .int .u32 (SH.2.toNat : Int)], .bool true, .int .i64 0]) (by simp [results, Tryd.results19, go_sem, J.out.1, J.out.2]) rfl ⟨rfl, HW3.out.setCell2 (Nat.le_refl _) _ _⟩
end Go.Proofs.YtpnmapfabjdfjaaDoor

/-
  The chapter's example, computed.
-/
namespace Go.Proofs.YtpnmapfabjdfjaaDoor
open Go.RowKit Go.Sort
/-- The inventory of the example. -/
def L3 : List Snd := [(2#32, 5#32), (3#32, 4#32), (5#32, 2#32)]
theorem x1 : cloE L3 [(2#32, 5#32), (3#32, 4#32)] = 0 := by decide +kernel
theorem x2 : cloC L3 [(2#32, 5#32), (3#32, 4#32)] = (2#32, 4#32) := by decide +kernel
theorem x3 : cloM L3 [(2#32, 5#32), (3#32, 4#32)] = [0, 1] := by decide +kernel
theorem x4 : isB L3 [(5#32, 2#32), (2#32, 5#32)] = false := by decide +kernel
theorem x5 : cloE L3 [(5#32, 2#32), (2#32, 5#32)] = 0 := by decide +kernel
theorem x6 : isB L3 [(3#32, 4#32)] = true := by decide +kernel
theorem x7 : cloE L3 [(3#32, 4#32)] = 0 := by decide +kernel
theorem x8 : shoS L3 [(3#32, 4#32)] = (3#32, 0#32) := by decide +kernel
theorem x9 : cntN L3 = 6 := by decide +kernel
theorem x10 : ckE L3 12 = 0 := by decide +kernel
theorem x11 : ckE L3 256 = 0 := by decide +kernel
theorem x12 : ndM L3 = 1#32 := by decide +kernel
/-- The gaps, as a list. -/
def gapG (l : List Snd) : List Snd := (swS l (prs l)).flatMap fun x => (l.filter fun z => isG l x z).map fun z => gapS z x
theorem mem_gapG (l : List Snd) (g : Snd) : g ∈ gapG l ↔ gapP l g := by
  unfold gapG gapP
  simp only [List.mem_flatMap, List.mem_map, List.mem_filter]
  constructor
  · rintro ⟨x, hx, z, ⟨hz, hg⟩, rfl⟩
    exact ⟨x, hx, z, hz, hg, rfl⟩
  · rintro ⟨x, hx, z, hz, hg, rfl⟩
    exact ⟨x, hx, z, ⟨hz, hg⟩, rfl⟩
theorem x13 : ((gapG L3).all fun g => decide (g = (4#32, 3#32))) = true := by decide +kernel
theorem x14 : (4#32, 3#32) ∈ gapG L3 := by decide +kernel
theorem inc_one {Y : List Snd} {a : Snd} (h : IncS Y) (hm : ∀ g, g ∈ Y ↔ g = a) : Y = [a] := by
  match Y, h, hm with
  | [], _, hm => exact absurd ((hm a).2 rfl) (by simp)
  | [x], _, hm => rw [(hm x).1 (by simp)]
  | x :: y :: t, h, hm =>
    have hx := (hm x).1 (by simp)
    have hy := (hm y).1 (by simp)
    have := h 0 1 (by omega) (by simp)
    simp only [List.getElem_cons_zero, List.getElem_cons_succ] at this
    rw [hx, hy] at this
    unfold ltS at this
    omega
theorem x15 {Y : List Snd} (h : IncS Y) (hm : ∀ g, g ∈ Y ↔ gapP L3 g) : Y = [(4#32, 3#32)] := inc_one h (fun g => by
  rw [hm g, ← mem_gapG]
  exact ⟨fun h => of_decide_eq_true (List.all_eq_true.1 x13 g h), fun h => h ▸ x14⟩)
end Go.Proofs.YtpnmapfabjdfjaaDoor

/-
  The chapter's example holds, in whatever world has the table.
-/
namespace Go.Proofs.YtpnmapfabjdfjaaDoor
open Go.RowKit Go.Sort
theorem wd_three {W : World} {B : Nat} {T : TypeId} (h : W.heap[B]? = some (.cells #[.int .u32 2, .int .u32 5, .int .u32 3, .int .u32 4, .int .u32 5, .int .u32 2] T)) :
    Wd W (.slice (some ⟨B, 0, none⟩) 3 3) L3 ∧ Wd W (.slice (some ⟨B, 0, none⟩) 2 3) [(2#32, 5#32), (3#32, 4#32)] ∧ Wd W (.slice (some ⟨B, 2, none⟩) 1 2) [(3#32, 4#32)] := by
  have hl := (Array.getElem?_eq_some_iff.1 h).1
  refine ⟨.inr ⟨B, 0, 3, rfl, by decide, by decide, hl, fun i hi => ?_⟩, .inr ⟨B, 0, 3, rfl, by decide, by decide, hl, fun i hi => ?_⟩, .inr ⟨B, 2, 2, rfl, by decide, by decide, hl, fun i hi => ?_⟩⟩
  · match i, hi with
    | 0, _ => exact ⟨cell_block h rfl, cell_block h rfl⟩
    | 1, _ => exact ⟨cell_block h rfl, cell_block h rfl⟩
    | 2, _ => exact ⟨cell_block h rfl, cell_block h rfl⟩
    | n + 3, h => exact absurd h (by simp [L3])
  · match i, hi with
    | 0, _ => exact ⟨cell_block h rfl, cell_block h rfl⟩
    | 1, _ => exact ⟨cell_block h rfl, cell_block h rfl⟩
    | n + 2, h => exact absurd h (by simp)
  · match i, hi with
    | 0, _ => exact ⟨cell_block h rfl, cell_block h rfl⟩
    | n + 1, h => exact absurd h (by simp)
theorem wd_ap {W : World} {B : Nat} {T : TypeId} (h : W.heap[B]? = some (.cells #[.int .u32 5, .int .u32 2, .int .u32 2, .int .u32 5] T)) : Wd W (.slice (some ⟨B, 0, none⟩) 2 2) [(5#32, 2#32), (2#32, 5#32)] :=
  .inr ⟨B, 0, 2, rfl, by decide, by decide, (Array.getElem?_eq_some_iff.1 h).1, fun i hi => match i, hi with
    | 0, _ => ⟨cell_block h rfl, cell_block h rfl⟩
    | 1, _ => ⟨cell_block h rfl, cell_block h rfl⟩
    | n + 2, h => absurd h (by simp)⟩
theorem wd_gap {W : World} {B : Nat} {T : TypeId} (h : W.heap[B]? = some (.cells #[.int .u32 4, .int .u32 3] T)) : Wd W (.slice (some ⟨B, 0, none⟩) 1 1) [(4#32, 3#32)] :=
  .inr ⟨B, 0, 1, rfl, by decide, by decide, (Array.getElem?_eq_some_iff.1 h).1, fun i hi => match i, hi with
    | 0, _ => ⟨cell_block h rfl, cell_block h rfl⟩
    | n + 1, h => absurd h (by simp)⟩
theorem is_two {W : World} {B : Nat} {T : TypeId} (h : W.heap[B]? = some (.cells #[.int .i64 0, .int .i64 1] T)) : Is W (.slice (some ⟨B, 0, none⟩) 2 2) [0, 1] :=
  .inr ⟨B, 2, rfl, by decide, by decide, (Array.getElem?_eq_some_iff.1 h).1, fun i hi => match i, hi with
    | 0, _ => cell_block h rfl
    | 1, _ => cell_block h rfl
    | n + 2, h => absurd h (by simp)⟩
set_option maxRecDepth 100000 in
theorem p_any (w : World) : Gives 43 #[] w (.agg #[.int .u32 2, .int .u32 5]) := by
  unfold Gives
  have k0 := World.alloc_heap_new w (.cells #[.int .u32 0, .int .u32 0] 27)
  have c0 : (w.alloc (.cells #[.int .u32 0, .int .u32 0] 27)).cell? ⟨w.heap.size, 0, none⟩ = some (.int .u32 0) := cell_block k0 rfl
  have c1 : (w.alloc (.cells #[.int .u32 0, .int .u32 0] 27)).cell? ⟨w.heap.size, 1, none⟩ = some (.int .u32 0) := cell_block k0 rfl
  have f0 := frozen_block k0 (o := 0)
  have f1 := frozen_block k0 (o := 1)
  have J := Lib.hid (two_cells k0 (.int .u32 2) (.int .u32 5))
  clear k0
  go_enter Tryd.func43, Tryd.ntmps43
  go_wp2_with fail
  refine bodyPost_ret (v := .agg #[.int .u32 2, .int .u32 5]) (by simp [results, Tryd.results43, go_sem, J.out.1, J.out.2]) rfl ⟨rfl, (Below.refl w.heap.size w).alloc (Nat.le_refl _) _⟩
set_option maxRecDepth 100000 in
theorem b_any (w : World) : Gives 44 #[] w (.agg #[.int .u32 3, .int .u32 4]) := by
  unfold Gives
  have k0 := World.alloc_heap_new w (.cells #[.int .u32 0, .int .u32 0] 27)
  have c0 : (w.alloc (.cells #[.int .u32 0, .int .u32 0] 27)).cell? ⟨w.heap.size, 0, none⟩ = some (.int .u32 0) := cell_block k0 rfl
  have c1 : (w.alloc (.cells #[.int .u32 0, .int .u32 0] 27)).cell? ⟨w.heap.size, 1, none⟩ = some (.int .u32 0) := cell_block k0 rfl
  have f0 := frozen_block k0 (o := 0)
  have f1 := frozen_block k0 (o := 1)
  have J := Lib.hid (two_cells k0 (.int .u32 3) (.int .u32 4))
  clear k0
  go_enter Tryd.func44, Tryd.ntmps44
  go_wp2_with fail
  refine bodyPost_ret (v := .agg #[.int .u32 3, .int .u32 4]) (by simp [results, Tryd.results44, go_sem, J.out.1, J.out.2]) rfl ⟨rfl, (Below.refl w.heap.size w).alloc (Nat.le_refl _) _⟩
set_option maxRecDepth 100000 in
theorem a_any (w : World) : Gives 45 #[] w (.agg #[.int .u32 5, .int .u32 2]) := by
  unfold Gives
  have k0 := World.alloc_heap_new w (.cells #[.int .u32 0, .int .u32 0] 27)
  have c0 : (w.alloc (.cells #[.int .u32 0, .int .u32 0] 27)).cell? ⟨w.heap.size, 0, none⟩ = some (.int .u32 0) := cell_block k0 rfl
  have c1 : (w.alloc (.cells #[.int .u32 0, .int .u32 0] 27)).cell? ⟨w.heap.size, 1, none⟩ = some (.int .u32 0) := cell_block k0 rfl
  have f0 := frozen_block k0 (o := 0)
  have f1 := frozen_block k0 (o := 1)
  have J := Lib.hid (two_cells k0 (.int .u32 5) (.int .u32 2))
  clear k0
  go_enter Tryd.func45, Tryd.ntmps45
  go_wp2_with fail
  refine bodyPost_ret (v := .agg #[.int .u32 5, .int .u32 2]) (by simp [results, Tryd.results45, go_sem, J.out.1, J.out.2]) rfl ⟨rfl, (Below.refl w.heap.size w).alloc (Nat.le_refl _) _⟩

set_option maxRecDepth 100000 in
set_option maxHeartbeats 4000000 in
theorem works_any (w0 : World) (hT : Tab w0) (lT : 0 < w0.heap.size) : Gives 14 #[] w0 (.bool true) := by
  unfold Gives
  have HT := Lib.hid hT; have LT := Lib.hid lT
  clear hT lT
  go_enter Tryd.func14, Tryd.ntmps14
  go_wp2_with fail
  go_at_call 43
  refine Gives.then (p_any _) ?_
  intro w1 hb1
  go_wp2_with fail
  go_at_call 44
  refine Gives.then (b_any _) ?_
  intro w2 hb2
  go_wp2_with fail
  go_at_call 45
  refine Gives.then (a_any _) ?_
  intro w3 hb3
  have HB3 := Lib.hid ((hb1.trans (hb2.mono hb1.size)).trans (hb3.mono (Nat.le_trans hb1.size hb2.size)))
  clear hb1 hb2 hb3
  go_wp2_with fail
  have k0 := World.alloc_heap_new w3 (.cells #[.int .u32 2, .int .u32 5, .int .u32 3, .int .u32 4, .int .u32 5, .int .u32 2] 27)
  have hb4 : Below w0.heap.size w0 (w3.alloc (.cells #[.int .u32 2, .int .u32 5, .int .u32 3, .int .u32 4, .int .u32 5, .int .u32 2] 27)) := HB3.out.alloc HB3.out.size _
  generalize w3.alloc (.cells #[.int .u32 2, .int .u32 5, .int .u32 3, .int .u32 4, .int .u32 5, .int .u32 2] 27) = W1 at *
  have hcl : Calls Tryd.prog 15 #[.slice (some ⟨w3.heap.size, 0, none⟩) 3 3, .slice (some ⟨w3.heap.size, 0, none⟩) 2 3] W1 fun e w' => ∃ m, e = .returned (.tuple #[.agg #[.int .u32 2, .int .u32 4], m, .int .i64 0]) ∧ OwnI w' W1.heap.size m [0, 1] ∧ Below W1.heap.size W1 w' := by
    have h := closure_any L3 [(2#32, 5#32), (3#32, 4#32)] _ _ W1 (wd_three k0).1 (wd_three k0).2.1
    rw [x1, x2, x3] at h
    exact h
  have HCL := Lib.hid hcl; have K0 := Lib.hid k0; have HB4 := Lib.hid hb4
  clear hcl k0 hb4 HB3
  go_at_call 15
  refine HCL.out.mono ?_
  rintro e w5 ⟨m1, rfl, ho1, hb5⟩
  obtain ⟨a1, c1, hm1⟩ : ∃ a1 c1, m1 = .slice a1 2 c1 := ho1.slice
  subst hm1
  have K0 := Lib.hid ((hb5.block _ (Array.getElem?_eq_some_iff.1 K0.out).1).trans K0.out); have HB5 := Lib.hid (HB4.out.trans (hb5.mono HB4.out.size))
  have HO1 := Lib.hid ho1.is
  clear ho1 hb5 HCL
  have k := World.alloc_heap_new w5 (.cells #[.int .u32 2, .int .u32 4] 27)
  have hb6 : Below w5.heap.size w5 (w5.alloc (.cells #[.int .u32 2, .int .u32 4] 27)) := (Below.refl _ _).alloc (Nat.le_refl _) _
  go_wp2_with fail
  generalize w5.alloc (.cells #[.int .u32 2, .int .u32 4] 27) = w6 at *
  have K0 := Lib.hid ((hb6.block _ (Array.getElem?_eq_some_iff.1 K0.out).1).trans K0.out); have HB6 := Lib.hid (HB5.out.trans (hb6.mono HB5.out.size))
  have HO1 := Lib.hid (HO1.out.below hb6); have KC := Lib.hid k
  clear hb6 k
  generalize w5.heap.size = BC at *
  go_at_call 45
  (with_reducible refine Gives.then (a_any _) ?_)
  intro w7 hb7
  have K0 := Lib.hid ((hb7.block _ (Array.getElem?_eq_some_iff.1 K0.out).1).trans K0.out); have HB7 := Lib.hid (HB6.out.trans (hb7.mono HB6.out.size))
  have HO1 := Lib.hid (HO1.out.below hb7); have KC := Lib.hid ((hb7.block _ (Array.getElem?_eq_some_iff.1 KC.out).1).trans KC.out)
  clear hb7
  go_wp2_with fail
  go_at_call 43
  (with_reducible refine Gives.then (p_any _) ?_)
  intro w8 hb8
  have K0 := Lib.hid ((hb8.block _ (Array.getElem?_eq_some_iff.1 K0.out).1).trans K0.out); have HB8 := Lib.hid (HB7.out.trans (hb8.mono HB7.out.size))
  have HO1 := Lib.hid (HO1.out.below hb8); have KC := Lib.hid ((hb8.block _ (Array.getElem?_eq_some_iff.1 KC.out).1).trans KC.out)
  clear hb8
  have k := World.alloc_heap_new w8 (.cells #[.int .u32 5, .int .u32 2, .int .u32 2, .int .u32 5] 27)
  have hb9 : Below w8.heap.size w8 (w8.alloc (.cells #[.int .u32 5, .int .u32 2, .int .u32 2, .int .u32 5] 27)) := (Below.refl _ _).alloc (Nat.le_refl _) _
  go_wp2_with fail
  generalize w8.alloc (.cells #[.int .u32 5, .int .u32 2, .int .u32 2, .int .u32 5] 27) = w9 at *
  have his : Gives 17 #[.slice (some ⟨w3.heap.size, 0, none⟩) 3 3, .slice (some ⟨w8.heap.size, 0, none⟩) 2 2] w9 (.tuple #[.bool false, .int .i64 0]) := by
    have h := is_any L3 [(5#32, 2#32), (2#32, 5#32)] _ _ w9 (wd_three ((hb9.block _ (Array.getElem?_eq_some_iff.1 K0.out).1).trans K0.out)).1 (wd_ap k)
    rw [x4, x5] at h
    exact h
  have K0 := Lib.hid ((hb9.block _ (Array.getElem?_eq_some_iff.1 K0.out).1).trans K0.out); have HB9 := Lib.hid (HB8.out.trans (hb9.mono HB8.out.size))
  have HO1 := Lib.hid (HO1.out.below hb9); have KC := Lib.hid ((hb9.block _ (Array.getElem?_eq_some_iff.1 KC.out).1).trans KC.out)
  have HIS := Lib.hid his
  clear hb9 his k
  go_at_call 17
  refine Gives.then HIS.out ?_
  intro w10 hb10
  have K0 := Lib.hid ((hb10.block _ (Array.getElem?_eq_some_iff.1 K0.out).1).trans K0.out); have HB10 := Lib.hid (HB9.out.trans (hb10.mono HB9.out.size))
  have HO1 := Lib.hid (HO1.out.below hb10); have KC := Lib.hid ((hb10.block _ (Array.getElem?_eq_some_iff.1 KC.out).1).trans KC.out)
  clear hb10 HIS
  have hsh : Gives 19 #[.slice (some ⟨w3.heap.size, 0, none⟩) 3 3, .slice (some ⟨w3.heap.size, 2, none⟩) 1 2] w10 (.tuple #[.agg #[.int .u32 3, .int .u32 0], .bool true, .int .i64 0]) := by
    have h := shortestE_any L3 [(3#32, 4#32)] _ _ w10 (wd_three K0.out).1 (wd_three K0.out).2.2
    rw [x6, x7, x8] at h
    exact h
  have HSH := Lib.hid hsh
  clear hsh
  go_wp2_with fail
  go_at_call 19
  refine Gives.then HSH.out ?_
  intro w11 hb11
  have K0 := Lib.hid ((hb11.block _ (Array.getElem?_eq_some_iff.1 K0.out).1).trans K0.out); have HB11 := Lib.hid (HB10.out.trans (hb11.mono HB10.out.size))
  have HO1 := Lib.hid (HO1.out.below hb11); have KC := Lib.hid ((hb11.block _ (Array.getElem?_eq_some_iff.1 KC.out).1).trans KC.out)
  clear hb11 HSH
  have k := World.alloc_heap_new w11 (.cells #[.int .u32 3, .int .u32 0] 27)
  have hb12 : Below w11.heap.size w11 (w11.alloc (.cells #[.int .u32 3, .int .u32 0] 27)) := (Below.refl _ _).alloc (Nat.le_refl _) _
  go_wp2_with fail
  generalize w11.alloc (.cells #[.int .u32 3, .int .u32 0] 27) = w12 at *
  have K0 := Lib.hid ((hb12.block _ (Array.getElem?_eq_some_iff.1 K0.out).1).trans K0.out); have HB12 := Lib.hid (HB11.out.trans (hb12.mono HB11.out.size))
  have HO1 := Lib.hid (HO1.out.below hb12); have KC := Lib.hid ((hb12.block _ (Array.getElem?_eq_some_iff.1 KC.out).1).trans KC.out); have KS := Lib.hid k
  clear hb12 k
  generalize w11.heap.size = BS at *
  have hco : Gives 31 #[.slice (some ⟨w3.heap.size, 0, none⟩) 3 3] w12 (.tuple #[.int .i64 6, .int .i64 0]) := by
    have h := count_any L3 _ w12 (wd_three K0.out).1
    rw [x9, x10] at h
    exact h
  have HCO := Lib.hid hco
  clear hco
  go_at_call 31
  refine Gives.then HCO.out ?_
  intro w13 hb13
  have K0 := Lib.hid ((hb13.block _ (Array.getElem?_eq_some_iff.1 K0.out).1).trans K0.out); have HB13 := Lib.hid (HB12.out.trans (hb13.mono HB12.out.size))
  have HO1 := Lib.hid (HO1.out.below hb13); have KC := Lib.hid ((hb13.block _ (Array.getElem?_eq_some_iff.1 KC.out).1).trans KC.out); have KS := Lib.hid ((hb13.block _ (Array.getElem?_eq_some_iff.1 KS.out).1).trans KS.out)
  clear hb13 HCO
  go_wp2_with fail
  go_at_call 29
  refine (gaps_any L3 _ w13 (wd_three K0.out).1 (HT.out.below HB13.out LT.out) (Nat.lt_of_lt_of_le LT.out HB13.out.size)).mono ?_
  rintro e w14 ⟨m2, Y, he, hwd, hy, -, hb14⟩
  rw [x11] at he
  subst he
  obtain ⟨hy1, hy2⟩ := hy x11
  obtain rfl := x15 hy1 hy2
  obtain ⟨a2, c2, hm2, -⟩ := hwd.open
  have hm2 : m2 = .slice a2 1 c2 := hm2
  subst hm2
  have K0 := Lib.hid ((hb14.block _ (Array.getElem?_eq_some_iff.1 K0.out).1).trans K0.out); have HB14 := Lib.hid (HB13.out.trans (hb14.mono HB13.out.size))
  have HO1 := Lib.hid (HO1.out.below hb14); have KC := Lib.hid ((hb14.block _ (Array.getElem?_eq_some_iff.1 KC.out).1).trans KC.out); have KS := Lib.hid ((hb14.block _ (Array.getElem?_eq_some_iff.1 KS.out).1).trans KS.out); have HY := Lib.hid hwd
  clear hb14 hwd hy hy1 hy2
  have hne : Gives 27 #[.slice (some ⟨w3.heap.size, 0, none⟩) 3 3] w14 (.tuple #[.int .u32 1, .int .i64 0]) := by
    have h := needed_any L3 _ w14 (wd_three K0.out).1
    rw [x12, x11] at h
    exact h
  have HNE := Lib.hid hne
  clear hne
  go_wp2_with fail
  go_at_call 27
  refine Gives.then HNE.out ?_
  intro w15 hb15
  have K0 := Lib.hid ((hb15.block _ (Array.getElem?_eq_some_iff.1 K0.out).1).trans K0.out); have HB15 := Lib.hid (HB14.out.trans (hb15.mono HB14.out.size))
  have HO1 := Lib.hid (HO1.out.below hb15); have KC := Lib.hid ((hb15.block _ (Array.getElem?_eq_some_iff.1 KC.out).1).trans KC.out); have KS := Lib.hid ((hb15.block _ (Array.getElem?_eq_some_iff.1 KS.out).1).trans KS.out); have HY := Lib.hid (HY.out.below hb15)
  clear hb15 HNE
  have e0 : w15.cell? ⟨BC, 0, none⟩ = some (.int .u32 2) := cell_block KC.out rfl
  have e1 : w15.cell? ⟨BC, 1, none⟩ = some (.int .u32 4) := cell_block KC.out rfl
  go_wp2_with fail
  have k := World.alloc_heap_new w15 (.cells #[.int .i64 0, .int .i64 1] 3)
  have hb16 : Below w15.heap.size w15 (w15.alloc (.cells #[.int .i64 0, .int .i64 1] 3)) := (Below.refl _ _).alloc (Nat.le_refl _) _
  generalize w15.alloc (.cells #[.int .i64 0, .int .i64 1] 3) = w16 at *
  have heq := equal_any [0, 1] [0, 1] _ _ w16 (HO1.out.below hb16) (is_two k)
  rw [decide_eq_true rfl] at heq
  have K0 := Lib.hid ((hb16.block _ (Array.getElem?_eq_some_iff.1 K0.out).1).trans K0.out); have HB16 := Lib.hid (HB15.out.trans (hb16.mono HB15.out.size))
  have KS := Lib.hid ((hb16.block _ (Array.getElem?_eq_some_iff.1 KS.out).1).trans KS.out); have HY := Lib.hid (HY.out.below hb16); have HEQ := Lib.hid heq
  clear hb16 k heq e0 e1
  go_at_call 21
  refine Gives.then HEQ.out ?_
  intro w17 hb17
  have K0 := Lib.hid ((hb17.block _ (Array.getElem?_eq_some_iff.1 K0.out).1).trans K0.out); have HB17 := Lib.hid (HB16.out.trans (hb17.mono HB16.out.size))
  have KS := Lib.hid ((hb17.block _ (Array.getElem?_eq_some_iff.1 KS.out).1).trans KS.out); have HY := Lib.hid (HY.out.below hb17)
  clear hb17 HEQ
  have e0 : w17.cell? ⟨BS, 0, none⟩ = some (.int .u32 3) := cell_block KS.out rfl
  have e1 : w17.cell? ⟨BS, 1, none⟩ = some (.int .u32 0) := cell_block KS.out rfl
  go_wp2_with fail
  have k := World.alloc_heap_new w17 (.cells #[.int .u32 4, .int .u32 3] 27)
  have hb18 : Below w17.heap.size w17 (w17.alloc (.cells #[.int .u32 4, .int .u32 3] 27)) := (Below.refl _ _).alloc (Nat.le_refl _) _
  generalize w17.alloc (.cells #[.int .u32 4, .int .u32 3] 27) = w18 at *
  have hsm := same_any [(4#32, 3#32)] [(4#32, 3#32)] _ _ w18 (HY.out.below hb18) (wd_gap k)
  rw [decide_eq_true rfl] at hsm
  have HB18 := Lib.hid (HB17.out.trans (hb18.mono HB17.out.size)); have HSM := Lib.hid hsm
  clear hb18 k hsm e0 e1
  go_at_call 22
  refine Gives.then HSM.out ?_
  intro w19 hb19
  have HB19 := Lib.hid (HB18.out.trans (hb19.mono HB18.out.size))
  clear hb19 HSM
  go_wp2_with fail
  go_returns
  exact ⟨rfl, HB19.out⟩
end Go.Proofs.YtpnmapfabjdfjaaDoor
