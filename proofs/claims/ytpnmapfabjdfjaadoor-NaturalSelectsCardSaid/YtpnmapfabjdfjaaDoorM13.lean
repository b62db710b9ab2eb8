/-
  Lemmas that the theorem of this claim rests on: 1 texts, one behind the other.
-/
import Derived.Test.YtpnmapfabjdfjaaDoorM9
set_option linter.unusedSimpArgs false
set_option linter.unusedVariables false

/-
  Which sounds do not satisfy a condition: the first one, and slices.Clone.
-/
namespace Go.Proofs.YtpnmapfabjdfjaaDoor
open Go.RowKit Go.Sort
theorem Own.empty (w : World) : Own (w.alloc (.cells #[] 27)) w.heap.size (.slice (some ⟨w.heap.size, 0, none⟩) 0 0) [] :=
  ⟨rfl, .inr ⟨w.heap.size, 0, #[], rfl, Nat.le_refl _, World.alloc_heap_new w _, Nat.le_refl _, by decide, rfl, rfl⟩⟩
/-- The call returns a new slice that holds these sounds. -/
abbrev Makes (f : Nat) (args : Array Value) (w : World) (ss : List Snd) : Prop := Calls Tryd.prog f args w fun e w' => ∃ v, e = .returned v ∧ Own w' w.heap.size v ss ∧ Below w.heap.size w w'
theorem Makes.then {f : Nat} {args : Array Value} {w : World} {ss : List Snd} {Q : Ending → World → Prop} (h : Makes f args w ss) (k : ∀ v w1, Own w1 w.heap.size v ss → Below w.heap.size w w1 → Q (.returned v) w1) : Calls Tryd.prog f args w Q := Calls.mono h (by rintro e w1 ⟨v, rfl, ho, hb⟩; exact k v w1 ho hb)
set_option maxHeartbeats 1000000 in
theorem clone_any (ss : List Snd) (v : Value) (w : World) (hl : ss.length ≤ 1000000000000) (h : Wd w v ss) : Makes 84 #[v] w ss := by
  unfold Makes
  have hnil := fun (w : World) (ao : Option Addr) (n c : Nat) => Lib.run_eql_slice_nil (P := Tryd.prog) w 22 27 ao n c 0 0 Tryd.underlying22
  have h' := h
  have HL := Lib.hid hl; clear hl
  rcases h with ⟨rfl | ⟨aa, rfl⟩, rfl⟩ | ⟨b, off, cap, rfl, hx⟩
  · go_enter Tryd.func84, Tryd.ntmps84
    go_wp2
    go_returns
    exact ⟨_, rfl, Own.nil _ _, by go_grown⟩
  · have HW := Lib.hid h'; clear h'
    have ho1 := Own.empty w
    go_enter Tryd.func84, Tryd.ntmps84
    go_wp2_with (at_builtin; refine wpList_app rfl (.tmp 5) (.tmp 6) 22 Tryd.underlying22 rfl w.heap.size _ _ [] [] rfl rfl ho1 (HW.out.below ((Below.refl _ w).alloc (Nat.le_refl _) _)) (by simp) (by go_size) ?_; intro v' w2 ho2 hk2 hz2)
    go_returns
    exact ⟨_, rfl, ho2, hk2 _ _ (Nat.le_refl _) (by go_grown)⟩
  · have HW := Lib.hid h'; clear h' hx
    have ho1 := Own.empty w
    go_enter Tryd.func84, Tryd.ntmps84
    go_wp2_with (at_builtin; refine wpList_app rfl (.tmp 5) (.tmp 6) 22 Tryd.underlying22 rfl w.heap.size _ _ [] ss rfl rfl ho1 (HW.out.below ((Below.refl _ w).alloc (Nat.le_refl _) _)) (by simpa using HL.out) (by go_size) ?_; intro v' w2 ho2 hk2 hz2)
    go_returns
    exact ⟨_, rfl, ho2, hk2 _ _ (Nat.le_refl _) (by go_grown)⟩

theorem oth_mem {l : List Snd} {c x : Snd} (hx : x ∈ l) : decide (x ∈ othL l c) = !sat x c := by
  unfold othL
  have h : x ∈ List.filter (fun x => !sat x c) l ↔ (!sat x c) = true := by rw [List.mem_filter]; exact ⟨fun h => h.2, fun h => ⟨hx, h⟩⟩
  cases hs : sat x c
  · exact decide_eq_true (h.2 (by rw [hs]; rfl))
  · exact decide_eq_false (fun hm => by have := h.1 hm; rw [hs] at this; cases this)
set_option maxHeartbeats 1000000 in
theorem s1_any (x c : Snd) (D : Nat) (w : World) (hD : w.cell? ⟨D, 0, none⟩ = some (.int .u32 (c.1.toNat : Int)) ∧ w.cell? ⟨D, 1, none⟩ = some (.int .u32 (c.2.toNat : Int))) (lD : D < w.heap.size) (h1 : vld x.1 x.2 = true) (h2 : vld c.1 c.2 = true) : Gives 85 #[.agg #[.int .u32 (x.1.toNat : Int), .int .u32 (x.2.toNat : Int)], .pointer (some ⟨D, 0, none⟩)] w (.bool (sat x c)) := by
  unfold Gives
  have hst := gv_st x c h1 h2
  have HS := Lib.hid hst
  obtain ⟨c0, c1⟩ := hD
  generalize sat x c = S at *
  obtain ⟨xp, xm⟩ := x
  obtain ⟨cp, cm⟩ := c
  simp only at c0 c1 HS
  have k0 := cell_past (X := .cells #[.int .u32 (xp.toNat : Int), .int .u32 (xm.toNat : Int)] 27) lD c0
  have k1 := cell_past (X := .cells #[.int .u32 (xp.toNat : Int), .int .u32 (xm.toNat : Int)] 27) lD c1
  have HB := Lib.hid ((Below.refl w.heap.size w).alloc (Nat.le_refl _) (.cells #[.int .u32 (xp.toNat : Int), .int .u32 (xm.toNat : Int)] 27))
  clear hst h1 h2
  go_enter Tryd.func85, Tryd.ntmps85
  go_wp2_with fail
  go_at_call 36
  refine Gives.then (HS.out _) ?_
  intro w2 hb2
  go_wp2_with fail
  go_returns
  exact ⟨rfl, HB.out.trans (hb2.mono HB.out.size)⟩
theorem s1_in (l : List Snd) (c x : Snd) (hx : x ∈ l) (D : Nat) (w : World) (hD : w.cell? ⟨D, 0, none⟩ = some (.int .u32 (c.1.toNat : Int)) ∧ w.cell? ⟨D, 1, none⟩ = some (.int .u32 (c.2.toNat : Int))) (lD : D < w.heap.size) (h1 : vld x.1 x.2 = true) (h2 : vld c.1 c.2 = true) : Gives 85 #[.agg #[.int .u32 (x.1.toNat : Int), .int .u32 (x.2.toNat : Int)], .pointer (some ⟨D, 0, none⟩)] w (.bool !(decide (x ∈ othL l c))) := by
  rw [oth_mem hx, Bool.not_not]
  exact s1_any x c D w hD lD h1 h2
set_option maxRecDepth 100000 in
set_option maxHeartbeats 4000000 in
theorem index_s1 (l : List Snd) (c : Snd) (v : Value) (D : Nat) (w : World) (hv : Wd w v l) (hD : w.cell? ⟨D, 0, none⟩ = some (.int .u32 (c.1.toNat : Int)) ∧ w.cell? ⟨D, 1, none⟩ = some (.int .u32 (c.2.toNat : Int))) (lD : D < w.heap.size) (h : ∀ x ∈ l, vld x.1 x.2 = true) (hcv : vld c.1 c.2 = true) : Gives 101 #[v, .func (.func 85) #[] #[.pointer (some ⟨D, 0, none⟩)]] w (.int .i64 (outN (othL l c) l 0)) := by
  unfold Gives
  obtain ⟨ao, cap, rfl, c1, m1, hc⟩ := hv.open
  obtain ⟨N, hN⟩ : ∃ N, l.length = N := ⟨_, rfl⟩
  obtain ⟨E, hE⟩ : ∃ E, outN (othL l c) l 0 = E := ⟨_, rfl⟩
  have HC := Lib.hid hc; have HN := Lib.hid hN; have HE := Lib.hid hE; have HY := Lib.hid h; have HD := Lib.hid hD
  have l1 : N ≤ 9223372036854775807 := by unfold maxLen at m1; omega
  rw [hN] at c1 ⊢
  rw [hE]
  clear hc hN m1 hE h hD hv
  go_enter Tryd.func101, Tryd.ntmps101
  go_wp2_with fail
  go_loopw [8] (fun i wr => ∃ k : Nat, k ≤ N ∧ i = .int .i64 (k : Int) ∧ (∀ j (hj : j < l.length), j < k → l[j] ∈ othL l c) ∧ Below w.heap.size w wr) (fun i _ => N - (intOf i).toNat)
  case atStart => exact ⟨0, by omega, rfl, fun j _ hj => by omega, Below.refl _ _⟩
  case round =>
    obtain ⟨k, hk, rfl, hall, hw⟩ := hrel
    have HALL := Lib.hid hall
    clear hall
    by_cases hlt : k < N
    · have hkl : k < l.length := by rw [HN.out]; exact hlt
      obtain ⟨b', off, hao, lb, d0, d1⟩ := HC.out k hkl
      subst hao
      have d0 := (hw.cell (p := ⟨b', _, none⟩) lb).trans d0
      have d1 := (hw.cell (p := ⟨b', _, none⟩) lb).trans d1
      have hni := s1_in l c l[k] (List.getElem_mem hkl) D wr ⟨(hw.cell (p := ⟨D, 0, none⟩) lD).trans HD.out.1, (hw.cell (p := ⟨D, 1, none⟩) lD).trans HD.out.2⟩ (Nat.lt_of_lt_of_le lD hw.size) (HY.out _ (List.getElem_mem hkl)) hcv
      have hyes : l[k] ∈ othL l c → ∀ j (hj : j < l.length), j < k + 1 → l[j] ∈ othL l c := fun h j hj hjk => by
        by_cases e : j = k
        · subst e; exact h
        · exact HALL.out j hj (by omega)
      have hno : l[k] ∉ othL l c → E = (k : Int) := fun h => by
        rw [← HE.out, out_at (othL l c) l 0 k hkl (fun j hj hjk => HALL.out j hj hjk) h, Nat.zero_add]
      have HYES := Lib.hid hyes; have HNO := Lib.hid hno; have HW := Lib.hid hw
      clear hyes hno hw HC
      generalize l[k] = x at *
      generalize othL l c = OL at *
      obtain ⟨p, m⟩ := x
      simp only at d0 d1 hni
      by_cases hx : (p, m) ∈ OL
      · rw [decide_eq_true hx] at hni
        have HNI := Lib.hid hni
        have HYES := Lib.hid (HYES.out hx)
        clear hni hx HNO
        go_wp2_with (go_at_call 85; (with_reducible refine Gives.then HNI.out ?_); intro w1 hb1; have HW1 := Lib.hid (HW.out.trans (hb1.mono HW.out.size)); clear hb1)
        go_roundw
        case rel => exact ⟨k + 1, by omega, by go_num, HYES.out, HW1.out⟩
        case measure => simp [intOf]; omega
      · rw [decide_eq_false hx] at hni
        have HNI := Lib.hid hni
        have he := HNO.out hx
        subst he
        clear hni hx HYES HNO
        go_wp2_with (go_at_call 85; (with_reducible refine Gives.then HNI.out ?_); intro w1 hb1; have HW1 := Lib.hid (HW.out.trans (hb1.mono HW.out.size)); clear hb1)
        go_returns
        exact ⟨rfl, HW1.out⟩
    · obtain rfl : k = N := by omega
      have he : E = -1 := by rw [← HE.out]; exact out_no (othL l c) l 0 (fun j hj => HALL.out j hj (by rw [← HN.out]; exact hj))
      subst he
      go_wp2_with fail
      go_returns
      exact ⟨rfl, hw⟩
end Go.Proofs.YtpnmapfabjdfjaaDoor
