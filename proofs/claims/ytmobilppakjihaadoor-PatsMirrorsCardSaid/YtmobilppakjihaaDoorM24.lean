/-
  Lemmas that the theorem of this claim rests on: 4 texts, one behind the other.
-/
import Derived.Test.YtmobilppakjihaaDoorM21
import Derived.Test.YtmobilppakjihaaDoorM8
import Derived.Test.YtmobilppakjihaaDoorM23
import Derived.Lib.QuietBelow
set_option linter.unusedSimpArgs false
set_option linter.unusedVariables false
/-
  The specification's tables: rows of numbers.
-/
namespace Go.Proofs.YtmobilppakjihaaDoor
open Go.RowKit Go.Sort
def uR (n : Nat) (x : Tb) : Array Value := ((List.range (n + 1)).map fun a => Value.int .u64 ((x a).toNat : Int)).toArray
theorem uR_size (n : Nat) (x : Tb) : (uR n x).size = n + 1 := by simp [uR]
theorem uR_get (n : Nat) (x : Tb) (a : Nat) (h : a ≤ n) : (uR n x)[a]? = some (.int .u64 ((x a).toNat : Int)) := by
  have h' : a < n + 1 := by omega
  simp [uR, h']
theorem uR_set (n : Nat) (x : Tb) (a : Nat) (v : BitVec 64) : (uR n x).setIfInBounds a (.int .u64 (v.toNat : Int)) = uR n (fun b => if b = a then v else x b) := by
  apply Array.ext
  · simp [uR]
  · intro i h1 h2
    have hi : i < n + 1 := by rw [uR_size] at h2; exact h2
    rw [Array.getElem_setIfInBounds (by rw [uR_size]; exact hi)]
    simp only [uR, List.getElem_toArray, List.getElem_map, List.getElem_range]
    by_cases h : a = i
    · subst h; simp
    · have h' : ¬ i = a := fun e => h e.symm
      simp [h, h']
theorem uR_congr {n : Nat} {x y : Tb} (h : ∀ a, a ≤ n → x a = y a) : uR n x = uR n y := by
  apply Array.ext_getElem?
  intro i
  by_cases hi : i ≤ n
  · rw [uR_get n x i hi, uR_get n y i hi, h i hi]
  · rw [Array.getElem?_eq_none (by rw [uR_size]; omega), Array.getElem?_eq_none (by rw [uR_size]; omega)]
theorem uR_made (n : Nat) : madeCells #[.int .u64 0] (n + 1) = uR n zeroT := by
  apply Array.ext_getElem?
  intro i
  by_cases hi : i < n + 1
  · rw [uR_get n _ i (by omega)]
    unfold madeCells
    rw [Array.getElem?_map, Array.getElem?_range, if_pos hi]
    simp [Nat.mod_one, zeroT]
  · rw [Array.getElem?_eq_none (xs := madeCells _ _) (by rw [size_madeCells]; omega), Array.getElem?_eq_none (xs := uR _ _) (by rw [uR_size]; omega)]
def RowT (W : World) (c n : Nat) (x : Tb) : Prop := W.heap[c]? = some (.cells (uR n x) 71 (0, 0))
theorem RowT.cell {W : World} {c n : Nat} {x : Tb} (h : RowT W c n x) {a : Nat} (ha : a ≤ n) : W.cell? ⟨c, a, none⟩ = some (.int .u64 ((x a).toNat : Int)) := cell_block h (uR_get n x a ha)
theorem RowT.frozen {W : World} {c n : Nat} {x : Tb} (h : RowT W c n x) (a : Nat) : W.frozen? ⟨c, a, none⟩ = false := frozen_of_row W c a _ _ h
theorem RowT.lt {W : World} {c n : Nat} {x : Tb} (h : RowT W c n x) : c < W.heap.size := (Array.getElem?_eq_some_iff.1 h).1
theorem RowT.below {W W' : World} {c n : Nat} {x : Tb} (h : RowT W c n x) (hb : Below W.heap.size W W') : RowT W' c n x := (hb.block c h.lt).trans h
theorem RowT.eq {W : World} {c n : Nat} {x y : Tb} (h : RowT W c n x) (e : ∀ a, a ≤ n → x a = y a) : RowT W c n y := by
  unfold RowT
  rw [← uR_congr e]; exact h
theorem RowT.set {W : World} {c n : Nat} {x : Tb} (h : RowT W c n x) (a : Nat) (v : BitVec 64) : RowT (W.setCell ⟨c, a, none⟩ (.int .u64 (v.toNat : Int))) c n (fun j => if j = a then v else x j) := by
  unfold RowT
  unfold RowT at h
  rw [heap_setCell_same W c a _ _ _ h, uR_set]
theorem RowT.other {W : World} {c n : Nat} {x : Tb} (h : RowT W c n x) {a : Addr} (ha : c ≠ a.block) (v : Value) : RowT (W.setCell a v) c n x := (heap_setCell_other W a c v ha).trans h
theorem infoU : (Tryd.prog.info? 71).map (fun i => (i.zero, i.size, i.bytes)) = some (some (.int .u64 0), 1, 8) := by kernel_rfl
theorem make_rowT (n : Nat) (hn : n ≤ 32) (w : World) : (Instr.makeSlice 78 (.int .i64 ((n : Int) + 1)) (.int .i64 ((n : Int) + 1))).run Tryd.prog w = .ok (.slice (some ⟨w.heap.size, 0, none⟩) (n + 1) (n + 1)) (w.alloc (.cells (uR n zeroT) 71)) := by
  obtain ⟨i, hi, hz, hs1, hb1⟩ := info_parts infoU
  have h := run_make (P := Tryd.prog) w 78 71 i _ Tryd.underlying78 hi hz .i64 .i64 ((n : Int) + 1) ((n : Int) + 1) (by omega) (Int.le_refl _) (by rw [hb1]; omega) (by omega)
  have e : ((n : Int) + 1).toNat = n + 1 := by omega
  simp only [e, hs1, Nat.mul_one] at h
  rw [show (Value.int .u64 0).cells = #[.int .u64 0] from rfl, uR_made] at h
  exact h
/-- A table in a slice. -/
def TbS (W : World) (v : Value) (n : Nat) (x : Tb) : Prop := ∃ g, v = .slice (some ⟨g, 0, none⟩) (n + 1) (n + 1) ∧ RowT W g n x
theorem TbS.below {W W' : World} {v : Value} {n : Nat} {x : Tb} (h : TbS W v n x) (hb : Below W.heap.size W W') : TbS W' v n x := by
  obtain ⟨g, h1, h2⟩ := h
  exact ⟨g, h1, h2.below hb⟩
theorem shl_wrap (k : Nat) (hk : k < 64) : IntKind.u64.wrap ((2 : Int) ^ k) = ((1#64 <<< k).toNat : Int) := by
  have h2 : 2 ^ k < 2 ^ 64 := Nat.pow_lt_pow_right (by omega) hk
  rw [one_shl_nat k hk, u64_wrap, show (2 ^ k : Int) = ((2 ^ k : Nat) : Int) from by simp]
  generalize 2 ^ k = z at *
  omega
set_option maxRecDepth 100000 in
set_option maxHeartbeats 1000000 in
theorem rsame_any (n : Nat) (hn : n ≤ 32) (w : World) : Calls Tryd.prog 74 #[.int .i64 (n : Int)] w fun e w' => ∃ v, e = .returned v ∧ TbS w' v n (sameT n) ∧ Below w.heap.size w w' := by
  have hmk : ∀ w, Sem.run Tryd.prog (Instr.makeSlice 78 (Value.int IntKind.i64 ((n : Int) + 1)) (Value.int IntKind.i64 ((n : Int) + 1))) w = .ok (.slice (some ⟨w.heap.size, 0, none⟩) (n + 1) (n + 1)) (w.alloc (.cells (uR n zeroT) 71)) := make_rowT n hn
  have R0 := Lib.hid (World.alloc_heap_new w (.cells (uR n zeroT) 71))
  have hB0 : Below w.heap.size w (w.alloc (.cells (uR n zeroT) 71)) := by go_grown
  have HB0 := Lib.hid hB0
  clear hB0
  have hwr : IntKind.i64.wrap ((n : Int) + 1) = (n : Int) + 1 := by rw [IntKind.wrap_i64]; omega
  go_enter Tryd.func74, Tryd.ntmps74
  go_wp2_with fail
  go_loopw [4] (fun i wr => ∃ k : Nat, k ≤ n + 1 ∧ i = .int .i64 (k : Int) ∧ RowT wr w.heap.size n (fun a => if a < k then 1#64 <<< a else 0#64) ∧ Below w.heap.size w wr) (fun i _ => n + 1 - (intOf i).toNat)
  case atStart => exact ⟨0, by omega, rfl, RowT.eq R0.out (fun a _ => by simp [zeroT]), HB0.out⟩
  case round =>
    clear R0 HB0 hmk
    obtain ⟨k, hk, rfl, hr, hw⟩ := hrel
    by_cases hlt : k < n + 1
    · have c0 := hr.cell (a := k) (by omega)
      have f0 := hr.frozen k
      have hki : (k : Int) ≤ (n : Int) := by omega
      have hki2 : (k : Int) < (n : Int) + 1 := by omega
      have hsh := shl_wrap k (by omega)
      have HR := Lib.hid hr; have HW := Lib.hid hw
      clear hr hw
      go_wp2_with fail
      go_roundw
      case rel => exact ⟨k + 1, by omega, by go_num, (HR.out.set k (1#64 <<< k)).eq (fun a _ => by by_cases ha : a = k <;> simp [ha]; by_cases hb : a < k <;> by_cases hc : a < k + 1 <;> simp [hb, hc] <;> omega), HW.out.setCell (p := ⟨w.heap.size, k, none⟩) (Nat.le_refl _) _⟩
      case measure => simp [intOf]; omega
    · obtain rfl : k = n + 1 := by omega
      have hki : ¬ (((n + 1 : Nat) : Int) ≤ (n : Int)) := by omega
      have FIN := Lib.hid (And.intro hr hw)
      clear hr hw hlt
      go_wp2_with fail
      go_returns
      exact ⟨_, rfl, ⟨w.heap.size, rfl, FIN.out.1.eq (fun a ha => by unfold sameT; by_cases hb : a < n + 1 <;> by_cases hc : a ≤ n <;> simp [hb, hc] <;> omega)⟩, FIN.out.2⟩
end Go.Proofs.YtmobilppakjihaaDoor

/-
  The specification's tables: either of two, one and then another, equality.
-/
namespace Go.Proofs.YtmobilppakjihaaDoor
open Go.RowKit Go.Sort
set_option maxRecDepth 100000 in
set_option maxHeartbeats 2000000 in
theorem rjoin_any (n : Nat) (hn : n ≤ 32) (x y : Tb) (v u : Value) (w : World) (hv : TbS w v n x) (hu : TbS w u n y) : Calls Tryd.prog 76 #[v, u] w fun e w' => ∃ r, e = .returned r ∧ TbS w' r n (orT x y) ∧ Below w.heap.size w w' := by
  obtain ⟨gx, rfl, hx⟩ := hv
  obtain ⟨gy, rfl, hy⟩ := hu
  have hmk : ∀ w, Sem.run Tryd.prog (Instr.makeSlice 78 (Value.int IntKind.i64 ((n : Int) + 1)) (Value.int IntKind.i64 ((n : Int) + 1))) w = .ok (.slice (some ⟨w.heap.size, 0, none⟩) (n + 1) (n + 1)) (w.alloc (.cells (uR n zeroT) 71)) := make_rowT n hn
  have R0 := Lib.hid (World.alloc_heap_new w (.cells (uR n zeroT) 71))
  have hB0 : Below w.heap.size w (w.alloc (.cells (uR n zeroT) 71)) := by go_grown
  have HB0 := Lib.hid hB0
  have HX := Lib.hid hx; have HY := Lib.hid hy
  clear hB0 hx hy
  have hwr : IntKind.i64.wrap ((n : Int) + 1) = (n : Int) + 1 := by rw [IntKind.wrap_i64]; omega
  go_enter Tryd.func76, Tryd.ntmps76
  go_wp2_with fail
  go_loopw [6] (fun i wr => ∃ k : Nat, k ≤ n + 1 ∧ i = .int .i64 (k : Int) ∧ RowT wr w.heap.size n (fun a => if a < k then x a ||| y a else 0#64) ∧ Below w.heap.size w wr) (fun i _ => n + 1 - (intOf i).toNat)
  case atStart => exact ⟨0, by omega, rfl, RowT.eq R0.out (fun a _ => by simp [zeroT]), HB0.out⟩
  case round =>
    clear R0 HB0 hmk
    obtain ⟨k, hk, rfl, hr, hw⟩ := hrel
    by_cases hlt : k < n + 1
    · have c0 := (HX.out.below hw).cell (a := k) (by omega)
      have c1 := (HY.out.below hw).cell (a := k) (by omega)
      have c2 := hr.cell (a := k) (by omega)
      have f0 := hr.frozen k
      have hki2 : (k : Int) < (n : Int) + 1 := by omega
      have hor := bv_or64 (x k) (y k)
      have HR := Lib.hid hr; have HW := Lib.hid hw
      clear hr hw HX HY
      go_wp2_with fail
      go_region
      all_goals go_wp2_with fail
      all_goals rw [← BitVec.toNat_or]
      all_goals refine ⟨⟨k + 1, by omega, by go_num, ?_, ?_⟩, by simp [intOf]; omega⟩
      all_goals first
        | exact (show RowT _ _ _ _ from ((HR.out.set k (x k ||| y k)).eq (fun a _ => by by_cases ha : a = k <;> simp [ha]; by_cases hb : a < k <;> by_cases hc : a < k + 1 <;> simp [hb, hc] <;> omega)))
        | exact (HW.out.drew).setCell (p := ⟨w.heap.size, k, none⟩) (Nat.le_refl _) _
        | exact (HW.out.setCell (p := ⟨w.heap.size, k, none⟩) (Nat.le_refl _) _).drew
    · obtain rfl : k = n + 1 := by omega
      have hki : ¬ (((n + 1 : Nat) : Int) < (n : Int) + 1) := by omega
      have FIN := Lib.hid (And.intro hr hw)
      clear hr hw hlt HX HY
      go_wp2_with fail
      go_returns
      exact ⟨_, rfl, ⟨w.heap.size, rfl, FIN.out.1.eq (fun a ha => by unfold orT; rw [if_pos (by omega)])⟩, FIN.out.2⟩
theorem upto_succ {P : Nat → Prop} {k : Nat} (h : ∀ a, a < k → P a) (hk : P k) : ∀ a, a < k + 1 → P a := fun a ha => by
  by_cases hak : a = k
  · rw [hak]; exact hk
  · exact h a (by omega)
theorem eqAll {n : Nat} {x y : Tb} (hx : OkT n x) (hy : OkT n y) (h : ∀ a, a ≤ n → x a = y a) : x = y := by
  funext a
  by_cases ha : a ≤ n
  · exact h a ha
  · rw [hx.beyond (by omega), hy.beyond (by omega)]
set_option maxRecDepth 100000 in
set_option maxHeartbeats 2000000 in
theorem requal_any (n : Nat) (hn : n ≤ 32) (x y : Tb) (hox : OkT n x) (hoy : OkT n y) (v u : Value) (w : World) (hv : TbS w v n x) (hu : TbS w u n y) (B : Bool) (hB : B = true ↔ x = y) : Gives 77 #[v, u] w (.bool B) := by
  unfold Gives
  obtain ⟨gx, rfl, hx⟩ := hv
  obtain ⟨gy, rfl, hy⟩ := hu
  have HX := Lib.hid hx; have HY := Lib.hid hy
  have hyes : (∀ a, a < n + 1 → x a = y a) → B = true := fun h => hB.2 (eqAll hox hoy (fun a ha => h a (by omega)))
  have hno : ∀ a, x a ≠ y a → B = false := fun a h => by
    rcases hb : B with _ | _
    · rfl
    · exact absurd (congrFun (hB.1 hb) a) h
  have HYES := Lib.hid hyes; have HNO := Lib.hid hno
  clear hx hy hyes hno hB hox hoy
  go_enter Tryd.func77, Tryd.ntmps77
  go_wp2_with fail
  go_loopw [5] (fun i wr => ∃ k : Nat, k ≤ n + 1 ∧ i = .int .i64 (k : Int) ∧ (∀ a, a < k → x a = y a) ∧ Below w.heap.size w wr) (fun i _ => n + 1 - (intOf i).toNat)
  case atStart => exact ⟨0, by omega, rfl, fun a h => by omega, Below.refl _ _⟩
  case round =>
    obtain ⟨k, hk, rfl, hp, hw⟩ := hrel
    have HP := Lib.hid hp
    clear hp
    by_cases hlt : k < n + 1
    · have c0 := (HX.out.below hw).cell (a := k) (by omega)
      have c1 := (HY.out.below hw).cell (a := k) (by omega)
      have hki2 : (k : Int) < (n : Int) + 1 := by omega
      have HW := Lib.hid hw
      clear hw HX HY
      by_cases he : x k = y k
      · rw [he] at c0
        have HE := Lib.hid he
        clear he
        go_wp2_with fail
        have y0 := cell_regrown c0
        have y1 := cell_regrown c1
        refine wp_region_quiet_below (by kernel_rfl) (by kernel_rfl) ?_
        try simp only [List.append]
        repeat (go_big_quiet_step (fail))
        refine wpQuiet_nil ?_
        intro w11 hw11
        have HW11 := Lib.hid (HW.out.trans (show Below w.heap.size wr w11 from by obtain ⟨q, rfl⟩ := hw11; exact (below_regrown _ _ _).mono HW.out.size))
        clear hw11 y0 y1 c0 c1
        go_wp2_with fail
        go_roundw
        case rel => exact ⟨k + 1, by omega, by go_num, upto_succ HP.out HE.out, HW11.out⟩
        case measure => simp [intOf]; omega
      · obtain rfl := HNO.out k he
        have hne : (((x k).toNat : Int) != ((y k).toNat : Int)) = true := by
          rw [bne_iff_ne]
          intro h
          exact he (BitVec.eq_of_toNat_eq (by omega))
        clear he
        go_wp2_with fail
        have y0 := cell_regrown c0
        have y1 := cell_regrown c1
        refine wp_region_quiet_below (by kernel_rfl) (by kernel_rfl) ?_
        try simp only [List.append]
        repeat (go_big_quiet_step (fail))
        refine wpQuiet_nil ?_
        intro w11 hw11
        have HW11 := Lib.hid (HW.out.trans (show Below w.heap.size wr w11 from by obtain ⟨q, rfl⟩ := hw11; exact (below_regrown _ _ _).mono HW.out.size))
        clear hw11 y0 y1 c0 c1
        go_wp2_with fail
        go_returns
        exact ⟨rfl, HW11.out⟩
    · obtain rfl : k = n + 1 := by omega
      have hki : ¬ (((n + 1 : Nat) : Int) < (n : Int) + 1) := by omega
      obtain rfl := HYES.out HP.out
      have HW := Lib.hid hw
      clear hw hlt HX HY
      go_wp2_with fail
      go_returns
      exact ⟨rfl, HW.out⟩
end Go.Proofs.YtmobilppakjihaaDoor

/-
  The specification's tables: one, and then another.
-/
namespace Go.Proofs.YtmobilppakjihaaDoor
open Go.RowKit Go.Sort
set_option maxRecDepth 100000 in
set_option maxHeartbeats 4000000 in
theorem rfollow_any (n : Nat) (hn : n ≤ 32) (x y : Tb) (v u : Value) (w : World) (hv : TbS w v n x) (hu : TbS w u n y) : Calls Tryd.prog 75 #[v, u] w fun e w' => ∃ r, e = .returned r ∧ TbS w' r n (thnT n x y) ∧ Below w.heap.size w w' := by
  obtain ⟨gx, rfl, hx⟩ := hv
  obtain ⟨gy, rfl, hy⟩ := hu
  have hmk : ∀ w, Sem.run Tryd.prog (Instr.makeSlice 78 (Value.int IntKind.i64 ((n : Int) + 1)) (Value.int IntKind.i64 ((n : Int) + 1))) w = .ok (.slice (some ⟨w.heap.size, 0, none⟩) (n + 1) (n + 1)) (w.alloc (.cells (uR n zeroT) 71)) := make_rowT n hn
  have R0 := Lib.hid (World.alloc_heap_new w (.cells (uR n zeroT) 71))
  have hB0 : Below w.heap.size w (w.alloc (.cells (uR n zeroT) 71)) := by go_grown
  have HB0 := Lib.hid hB0
  have HX := Lib.hid hx; have HY := Lib.hid hy
  clear hB0 hx hy
  go_enter Tryd.func75, Tryd.ntmps75
  go_wp2_with fail
  go_loopw [6] (fun i wr => ∃ k : Nat, k ≤ n + 1 ∧ i = .int .i64 (k : Int) ∧ RowT wr w.heap.size n (fun a => if a < k then thnT n x y a else 0#64) ∧ Below w.heap.size w wr) (fun i _ => n + 1 - (intOf i).toNat)
  case atStart => exact ⟨0, by omega, rfl, RowT.eq R0.out (fun a _ => by simp [zeroT]), HB0.out⟩
  case round =>
    clear R0 HB0 hmk
    obtain ⟨k, hk, rfl, hr, hw⟩ := hrel
    by_cases hlt : k < n + 1
    · have hki2 : (k : Int) < (n : Int) + 1 := by omega
      obtain ⟨W4, hW4⟩ : ∃ W4, W4 = wr := ⟨_, rfl⟩
      subst hW4
      have HR := Lib.hid hr; have HW := Lib.hid hw
      clear hr hw
      go_wp2_with fail
      go_loopw [7] (fun i wr => ∃ j : Nat, j ≤ n + 1 ∧ i = .int .i64 (j : Int) ∧ RowT wr w.heap.size n (fun a => if a < k then thnT n x y a else if a = k then orU y (x k) j else 0#64) ∧ Below w.heap.size w wr) (fun i _ => n + 1 - (intOf i).toNat)
      case atStart => exact ⟨0, by omega, rfl, HR.out.eq (fun a _ => by by_cases h : a < k <;> simp [h]; intro h2; simp [orU]), HW.out⟩
      case round =>
      clear HR HW
      obtain ⟨j, hj, rfl, hr, hw⟩ := hrel
      have HR := Lib.hid hr; have HW := Lib.hid hw
      clear hr hw
      by_cases hjl : j < n + 1
      · have c0 := (HX.out.below HW.out).cell (a := k) (by omega)
        have c1 := (HY.out.below HW.out).cell (a := j) (by omega)
        have c2 := HR.out.cell (a := k) (by omega)
        have f0 := HR.out.frozen k
        simp only [Nat.lt_irrefl, if_false, if_true] at c2
        have hji2 : (j : Int) < (n : Int) + 1 := by omega
        have hbit := has_nat (x k) j
        rcases hb : (x k).getLsbD j with _ | _
        · rw [hb] at hbit
          have hst : orU y (x k) (j + 1) = orU y (x k) j := by rw [orU, hb]; simp
          have HST := Lib.hid hst
          clear hb HX HY c1 c2 f0 hst
          go_wp2_with fail
          go_roundw
          case rel => exact ⟨j + 1, by omega, by go_num, HR.out.eq (fun a _ => by rw [HST.out]), HW.out⟩
          case measure => simp [intOf]; omega
        · rw [hb] at hbit
          have HBT := Lib.hid hb
          have hor := bv_or64 (orU y (x k) j) (y j)
          clear hb HX HY
          go_wp2_with fail
          go_region
          all_goals go_wp2_with fail
          all_goals rw [← BitVec.toNat_or]
          all_goals refine ⟨⟨j + 1, by omega, by go_num, ?_, ?_⟩, by simp [intOf]; omega⟩
          all_goals first
            | exact (show RowT _ _ _ _ from ((HR.out.set k (orU y (x k) j ||| y j)).eq (fun a _ => by by_cases ha : a = k <;> simp [ha]; rw [orU, HBT.out]; simp)))
            | exact (HW.out.drew).setCell (p := ⟨w.heap.size, k, none⟩) (Nat.le_refl _) _
            | exact (HW.out.setCell (p := ⟨w.heap.size, k, none⟩) (Nat.le_refl _) _).drew
      · obtain rfl : j = n + 1 := by omega
        have hji2 : ¬ (((n + 1 : Nat) : Int) < (n : Int) + 1) := by omega
        clear hjl HX HY
        go_wp2_with fail
        go_roundw
        case rel => exact ⟨k + 1, by omega, by go_num, HR.out.eq (fun a _ => by rcases Nat.lt_trichotomy a k with h | h | h <;> first | (rw [if_pos h, if_pos (by omega)]) | (rw [if_neg (by omega), if_pos h, if_pos (by omega), h]; rfl) | (rw [if_neg (by omega), if_neg (by omega), if_neg (by omega)])), HW.out⟩
        case measure => simp [intOf]; omega
    · obtain rfl : k = n + 1 := by omega
      have hki : ¬ (((n + 1 : Nat) : Int) < (n : Int) + 1) := by omega
      have FIN := Lib.hid (And.intro hr hw)
      clear hr hw hlt HX HY
      go_wp2_with fail
      go_returns
      exact ⟨_, rfl, ⟨w.heap.size, rfl, FIN.out.1.eq (fun a ha => by rw [if_pos (by omega)])⟩, FIN.out.2⟩
end Go.Proofs.YtmobilppakjihaaDoor

/-
  The specification's tables of patterns (Table): those without patterns below them.
-/
namespace Go.Proofs.YtmobilppakjihaaDoor
open Go.RowKit Go.Sort

/-- The table of a sound. -/
def sndT (ss : List Snd) (c : Snd) (neg : Bool) : Tb := fun a => match ss[a]? with
  | none => 0#64
  | some s => if satB s c != neg then 1#64 <<< (a + 1) else 0#64
theorem sndT_none {ss : List Snd} {c : Snd} {neg : Bool} {a : Nat} (h : ss.length ≤ a) : sndT ss c neg a = 0#64 := by
  unfold sndT
  rw [List.getElem?_eq_none h]
theorem sndT_some {ss : List Snd} {c : Snd} {neg : Bool} {a : Nat} (h : a < ss.length) : sndT ss c neg a = if satB ss[a] c != neg then 1#64 <<< (a + 1) else 0#64 := by
  unfold sndT
  rw [List.getElem?_eq_getElem h]
section
attribute [local go_sem] bv_and bv_or ofInt32_nat
set_option maxHeartbeats 1000000 in
theorem rsat_any (s c : Snd) (w : World) : Gives 73 #[sdV s, sdV c] w (.bool (satB s c)) := by
  unfold Gives
  obtain ⟨s1, s2⟩ := s
  obtain ⟨c1, c2⟩ := c
  have hb : satB (s1, s2) (c1, c2) = ((((s1 &&& c1).toNat : Int) == (c1.toNat : Int)) && (((s2 &&& c2).toNat : Int) == (c2.toNat : Int))) := by
    rw [bv_eq_dec, bv_eq_dec]; unfold satB; simp only
  unfold sdV
  dsimp only
  rcases h1 : (((s1 &&& c1).toNat : Int) == (c1.toNat : Int)) with _ | _
  · rw [h1] at hb
    have hb' : satB (s1, s2) (c1, c2) = false := by rw [hb]; rfl
    rw [hb']
    clear hb hb'
    simp only [BitVec.toNat_and] at h1
    go_enter Tryd.func73, Tryd.ntmps73
    go_wp2_with fail
    go_returns
    exact ⟨rfl, by go_grown⟩
  · rw [h1] at hb
    have HB := Lib.hid hb; clear hb
    simp only [BitVec.toNat_and] at h1
    go_enter Tryd.func73, Tryd.ntmps73
    go_wp2_with fail
    go_returns
    refine ⟨ret_bool ?_, by go_grown⟩
    rw [HB.out]; simp
end
set_option maxRecDepth 100000 in
set_option maxHeartbeats 4000000 in
theorem rtab_0 (p m : BitVec 32) (neg : Bool) (mi ma : Int) (ao : Option Addr) (kl cap : Nat) (ss : List Snd) (wv : Value) (w : World) (n : Nat) (hn : n ≤ 32) (hl : ss.length = n) (hW : Wd w wv ss) :
    Calls Tryd.prog 51 #[.agg #[.int .i64 0, .int .u32 (p.toNat : Int), .int .u32 (m.toNat : Int), .bool neg, .int .i64 mi, .int .i64 ma, .slice ao kl cap], wv] w fun e w' => ∃ v, e = .returned v ∧ TbS w' v n (sameT n) ∧ Below w.heap.size w w' := by
  obtain ⟨wo, wc, rfl, lw, mw, H1⟩ := hW.open
  rw [hl]
  have hmk : ∀ w, Sem.run Tryd.prog (Instr.makeSlice 78 (Value.int IntKind.i64 ((n : Int) + 1)) (Value.int IntKind.i64 ((n : Int) + 1))) w = .ok (.slice (some ⟨w.heap.size, 0, none⟩) (n + 1) (n + 1)) (w.alloc (.cells (uR n zeroT) 71)) := make_rowT n hn
  have hwr : IntKind.i64.wrap ((n : Int) + 1) = (n : Int) + 1 := by rw [IntKind.wrap_i64]; omega
  have R0 := Lib.hid (show ((w.alloc (.cells #[.int .i64 0, .int .u32 (p.toNat : Int), .int .u32 (m.toNat : Int), .bool neg, .int .i64 mi, .int .i64 ma, .slice ao kl cap] 27)).alloc (.cells (uR n zeroT) 71)).heap[w.heap.size]? = some (.cells #[.int .i64 0, .int .u32 (p.toNat : Int), .int .u32 (m.toNat : Int), .bool neg, .int .i64 mi, .int .i64 ma, .slice ao kl cap] 27) from (Below.heap_alloc _ _ _ (by rw [World.size_alloc]; omega)).trans (World.alloc_heap_new w _))
  have T0 := Lib.hid (show RowT ((w.alloc (.cells #[.int .i64 0, .int .u32 (p.toNat : Int), .int .u32 (m.toNat : Int), .bool neg, .int .i64 mi, .int .i64 ma, .slice ao kl cap] 27)).alloc (.cells (uR n zeroT) 71)) (w.heap.size + 1) n zeroT from heap_alloc2_new w _ _)
  have HB0 := Lib.hid (show Below w.heap.size w ((w.alloc (.cells #[.int .i64 0, .int .u32 (p.toNat : Int), .int .u32 (m.toNat : Int), .bool neg, .int .i64 mi, .int .i64 ma, .slice ao kl cap] 27)).alloc (.cells (uR n zeroT) 71)) by go_grown)
  go_enter Tryd.func51, Tryd.ntmps51
  go_wp2_with fail
  go_loopw [7] (fun i wr => ∃ k : Nat, k ≤ n + 1 ∧ i = .int .i64 (k : Int) ∧ RowT wr (w.heap.size + 1) n (fun a => if a < k then 1#64 <<< a else 0#64) ∧ wr.heap[w.heap.size]? = some (.cells #[.int .i64 0, .int .u32 (p.toNat : Int), .int .u32 (m.toNat : Int), .bool neg, .int .i64 mi, .int .i64 ma, .slice ao kl cap] 27) ∧ Below w.heap.size w wr) (fun i _ => n + 1 - (intOf i).toNat)
  case atStart => exact ⟨0, by omega, rfl, RowT.eq T0.out (fun a _ => by simp [zeroT]), R0.out, HB0.out⟩
  case round =>
    clear R0 T0 HB0 hmk
    obtain ⟨k, hk, rfl, hr, hR, hw⟩ := hrel
    have g0 := cell_block hR (o := 0) rfl; have g1 := cell_block hR (o := 1) rfl; have g2 := cell_block hR (o := 2) rfl; have g3 := cell_block hR (o := 3) rfl; have g4 := cell_block hR (o := 4) rfl; have g5 := cell_block hR (o := 5) rfl; have g6 := cell_block hR (o := 6) rfl
    have HR := Lib.hid hr; have HW := Lib.hid hw; have RR := Lib.hid hR
    clear hr hw hR
    by_cases hlt : k < n + 1
    · have hki : (k : Int) ≤ (n : Int) := by omega
      have hki2 : (k : Int) < (n : Int) + 1 := by omega
      have c0 := HR.out.cell (a := k) (by omega)
      have f0 := HR.out.frozen k
      have hsh := shl_wrap k (by omega)
      clear H1
      go_wp2_with fail
      go_roundw
      case rel => exact ⟨k + 1, by omega, by go_num, (HR.out.set k (1#64 <<< k)).eq (fun a _ => by rcases Nat.lt_trichotomy a k with h | h | h <;> first | (rw [if_neg (show ¬ a = k by omega), if_pos h, if_pos (show a < k + 1 by omega)]; done) | (rw [if_pos h, if_pos (show a < k + 1 by omega), h]; first | done | rfl) | (rw [if_neg (show ¬ a = k by omega), if_neg (show ¬ a < k by omega), if_neg (show ¬ a < k + 1 by omega)]; done)), (heap_setCell_other _ _ _ _ (by simp)).trans RR.out, HW.out.setCell (p := ⟨w.heap.size + 1, k, none⟩) (by simp) _⟩
      case measure => simp [intOf] <;> omega
    · obtain rfl : k = n + 1 := by omega
      have hki : ¬ (((n + 1 : Nat) : Int) ≤ (n : Int)) := by omega
      clear hlt
      have FIN := Lib.hid (And.intro HR.out HW.out)
      clear HR HW RR
      go_wp2_with fail
      go_returns
      exact ⟨_, rfl, ⟨w.heap.size + 1, rfl, FIN.out.1.eq (fun a ha => by rw [if_pos (by omega)]; unfold sameT; rw [if_pos ha])⟩, FIN.out.2⟩
set_option maxRecDepth 100000 in
set_option maxHeartbeats 4000000 in
theorem rtab_2 (p m : BitVec 32) (neg : Bool) (mi ma : Int) (ao : Option Addr) (kl cap : Nat) (ss : List Snd) (wv : Value) (w : World) (n : Nat) (hn : n ≤ 32) (hl : ss.length = n) (hW : Wd w wv ss) :
    Calls Tryd.prog 51 #[.agg #[.int .i64 2, .int .u32 (p.toNat : Int), .int .u32 (m.toNat : Int), .bool neg, .int .i64 mi, .int .i64 ma, .slice ao kl cap], wv] w fun e w' => ∃ v, e = .returned v ∧ TbS w' v n (fun a => if a = 0 then 1#64 else 0#64) ∧ Below w.heap.size w w' := by
  obtain ⟨wo, wc, rfl, lw, mw, H1⟩ := hW.open
  rw [hl]
  have hmk : ∀ w, Sem.run Tryd.prog (Instr.makeSlice 78 (Value.int IntKind.i64 ((n : Int) + 1)) (Value.int IntKind.i64 ((n : Int) + 1))) w = .ok (.slice (some ⟨w.heap.size, 0, none⟩) (n + 1) (n + 1)) (w.alloc (.cells (uR n zeroT) 71)) := make_rowT n hn
  have hwr : IntKind.i64.wrap ((n : Int) + 1) = (n : Int) + 1 := by rw [IntKind.wrap_i64]; omega
  have R0 := Lib.hid (show ((w.alloc (.cells #[.int .i64 2, .int .u32 (p.toNat : Int), .int .u32 (m.toNat : Int), .bool neg, .int .i64 mi, .int .i64 ma, .slice ao kl cap] 27)).alloc (.cells (uR n zeroT) 71)).heap[w.heap.size]? = some (.cells #[.int .i64 2, .int .u32 (p.toNat : Int), .int .u32 (m.toNat : Int), .bool neg, .int .i64 mi, .int .i64 ma, .slice ao kl cap] 27) from (Below.heap_alloc _ _ _ (by rw [World.size_alloc]; omega)).trans (World.alloc_heap_new w _))
  have T0 := Lib.hid (show RowT ((w.alloc (.cells #[.int .i64 2, .int .u32 (p.toNat : Int), .int .u32 (m.toNat : Int), .bool neg, .int .i64 mi, .int .i64 ma, .slice ao kl cap] 27)).alloc (.cells (uR n zeroT) 71)) (w.heap.size + 1) n zeroT from heap_alloc2_new w _ _)
  have HB0 := Lib.hid (show Below w.heap.size w ((w.alloc (.cells #[.int .i64 2, .int .u32 (p.toNat : Int), .int .u32 (m.toNat : Int), .bool neg, .int .i64 mi, .int .i64 ma, .slice ao kl cap] 27)).alloc (.cells (uR n zeroT) 71)) by go_grown)
  go_enter Tryd.func51, Tryd.ntmps51
  go_wp2_with fail
  go_loopw [7] (fun i wr => ∃ k : Nat, k ≤ n + 1 ∧ i = .int .i64 (k : Int) ∧ RowT wr (w.heap.size + 1) n (fun a => if a < k then (if a = 0 then 1#64 else 0#64) else 0#64) ∧ wr.heap[w.heap.size]? = some (.cells #[.int .i64 2, .int .u32 (p.toNat : Int), .int .u32 (m.toNat : Int), .bool neg, .int .i64 mi, .int .i64 ma, .slice ao kl cap] 27) ∧ Below w.heap.size w wr) (fun i _ => n + 1 - (intOf i).toNat)
  case atStart => exact ⟨0, by omega, rfl, RowT.eq T0.out (fun a _ => by simp [zeroT]), R0.out, HB0.out⟩
  case round =>
    clear R0 T0 HB0 hmk
    obtain ⟨k, hk, rfl, hr, hR, hw⟩ := hrel
    have g0 := cell_block hR (o := 0) rfl; have g1 := cell_block hR (o := 1) rfl; have g2 := cell_block hR (o := 2) rfl; have g3 := cell_block hR (o := 3) rfl; have g4 := cell_block hR (o := 4) rfl; have g5 := cell_block hR (o := 5) rfl; have g6 := cell_block hR (o := 6) rfl
    have HR := Lib.hid hr; have HW := Lib.hid hw; have RR := Lib.hid hR
    clear hr hw hR
    by_cases hlt : k < n + 1
    · have hki : (k : Int) ≤ (n : Int) := by omega
      have hki2 : (k : Int) < (n : Int) + 1 := by omega
      by_cases hk0 : k = 0
      · subst hk0
        have c0 := HR.out.cell (a := 0) (by omega)
        have f0 := HR.out.frozen 0
        clear H1
        go_wp2_with fail
        go_roundw
        case rel => exact ⟨0 + 1, by omega, rfl, (HR.out.set 0 (1#64)).eq (fun a _ => by by_cases ha : a = 0 <;> simp [ha]), (heap_setCell_other _ _ _ _ (by simp)).trans RR.out, HW.out.setCell (p := ⟨w.heap.size + 1, 0, none⟩) (by simp) _⟩
        case measure => simp [intOf] <;> omega
      · have hk0i : ((k : Int) == 0) = false := by rw [beq_eq_false_iff_ne]; omega
        have HK0 := Lib.hid hk0
        clear H1 hk0
        go_wp2_with fail
        go_roundw
        case rel => exact ⟨k + 1, by omega, by go_num, HR.out.eq (fun a _ => by rcases Nat.lt_trichotomy a k with h | h | h <;> first | (rw [if_pos h, if_pos (show a < k + 1 by omega)]; done) | (rw [if_neg (show ¬ a < k by omega), if_pos (show a < k + 1 by omega), if_neg (show ¬ a = 0 by have := HK0.out; omega)]; first | done | rfl) | (rw [if_neg (show ¬ a < k by omega), if_neg (show ¬ a < k + 1 by omega)]; done)), RR.out, HW.out⟩
        case measure => simp [intOf] <;> omega
    · obtain rfl : k = n + 1 := by omega
      have hki : ¬ (((n + 1 : Nat) : Int) ≤ (n : Int)) := by omega
      clear hlt
      have FIN := Lib.hid (And.intro HR.out HW.out)
      clear HR HW RR
      go_wp2_with fail
      go_returns
      exact ⟨_, rfl, ⟨w.heap.size + 1, rfl, FIN.out.1.eq (fun a ha => by rw [if_pos (by omega)])⟩, FIN.out.2⟩
set_option maxRecDepth 100000 in
set_option maxHeartbeats 4000000 in
theorem rtab_6 (p m : BitVec 32) (neg : Bool) (mi ma : Int) (ao : Option Addr) (kl cap : Nat) (ss : List Snd) (wv : Value) (w : World) (n : Nat) (hn : n ≤ 32) (hl : ss.length = n) (hW : Wd w wv ss) :
    Calls Tryd.prog 51 #[.agg #[.int .i64 6, .int .u32 (p.toNat : Int), .int .u32 (m.toNat : Int), .bool neg, .int .i64 mi, .int .i64 ma, .slice ao kl cap], wv] w fun e w' => ∃ v, e = .returned v ∧ TbS w' v n (fun a => if a = n then 1#64 <<< a else 0#64) ∧ Below w.heap.size w w' := by
  obtain ⟨wo, wc, rfl, lw, mw, H1⟩ := hW.open
  rw [hl]
  have hmk : ∀ w, Sem.run Tryd.prog (Instr.makeSlice 78 (Value.int IntKind.i64 ((n : Int) + 1)) (Value.int IntKind.i64 ((n : Int) + 1))) w = .ok (.slice (some ⟨w.heap.size, 0, none⟩) (n + 1) (n + 1)) (w.alloc (.cells (uR n zeroT) 71)) := make_rowT n hn
  have hwr : IntKind.i64.wrap ((n : Int) + 1) = (n : Int) + 1 := by rw [IntKind.wrap_i64]; omega
  have R0 := Lib.hid (show ((w.alloc (.cells #[.int .i64 6, .int .u32 (p.toNat : Int), .int .u32 (m.toNat : Int), .bool neg, .int .i64 mi, .int .i64 ma, .slice ao kl cap] 27)).alloc (.cells (uR n zeroT) 71)).heap[w.heap.size]? = some (.cells #[.int .i64 6, .int .u32 (p.toNat : Int), .int .u32 (m.toNat : Int), .bool neg, .int .i64 mi, .int .i64 ma, .slice ao kl cap] 27) from (Below.heap_alloc _ _ _ (by rw [World.size_alloc]; omega)).trans (World.alloc_heap_new w _))
  have T0 := Lib.hid (show RowT ((w.alloc (.cells #[.int .i64 6, .int .u32 (p.toNat : Int), .int .u32 (m.toNat : Int), .bool neg, .int .i64 mi, .int .i64 ma, .slice ao kl cap] 27)).alloc (.cells (uR n zeroT) 71)) (w.heap.size + 1) n zeroT from heap_alloc2_new w _ _)
  have HB0 := Lib.hid (show Below w.heap.size w ((w.alloc (.cells #[.int .i64 6, .int .u32 (p.toNat : Int), .int .u32 (m.toNat : Int), .bool neg, .int .i64 mi, .int .i64 ma, .slice ao kl cap] 27)).alloc (.cells (uR n zeroT) 71)) by go_grown)
  go_enter Tryd.func51, Tryd.ntmps51
  go_wp2_with fail
  go_loopw [7] (fun i wr => ∃ k : Nat, k ≤ n + 1 ∧ i = .int .i64 (k : Int) ∧ RowT wr (w.heap.size + 1) n (fun a => if a < k then (if a = n then 1#64 <<< a else 0#64) else 0#64) ∧ wr.heap[w.heap.size]? = some (.cells #[.int .i64 6, .int .u32 (p.toNat : Int), .int .u32 (m.toNat : Int), .bool neg, .int .i64 mi, .int .i64 ma, .slice ao kl cap] 27) ∧ Below w.heap.size w wr) (fun i _ => n + 1 - (intOf i).toNat)
  case atStart => exact ⟨0, by omega, rfl, RowT.eq T0.out (fun a _ => by simp [zeroT]), R0.out, HB0.out⟩
  case round =>
    clear R0 T0 HB0 hmk
    obtain ⟨k, hk, rfl, hr, hR, hw⟩ := hrel
    have g0 := cell_block hR (o := 0) rfl; have g1 := cell_block hR (o := 1) rfl; have g2 := cell_block hR (o := 2) rfl; have g3 := cell_block hR (o := 3) rfl; have g4 := cell_block hR (o := 4) rfl; have g5 := cell_block hR (o := 5) rfl; have g6 := cell_block hR (o := 6) rfl
    have HR := Lib.hid hr; have HW := Lib.hid hw; have RR := Lib.hid hR
    clear hr hw hR
    by_cases hlt : k < n + 1
    · have hki : (k : Int) ≤ (n : Int) := by omega
      have hki2 : (k : Int) < (n : Int) + 1 := by omega
      by_cases hkn : k = n
      · subst hkn
        have hkni : ((k : Int) == (k : Int)) = true := by simp
        have c0 := HR.out.cell (a := k) (by omega)
        have f0 := HR.out.frozen k
        have hsh := shl_wrap k (by omega)
        clear H1 hl hkni
        go_wp2_with fail
        go_roundw
        case rel => exact ⟨k + 1, by omega, by go_num, (HR.out.set k (1#64 <<< k)).eq (fun a _ => by rcases Nat.lt_trichotomy a k with h | h | h <;> first | (rw [if_neg (show ¬ a = k by omega), if_pos h, if_pos (show a < k + 1 by omega)]; done) | (rw [if_pos h, if_pos (show a < k + 1 by omega), if_pos h, h]; first | done | rfl) | (rw [if_neg (show ¬ a = k by omega), if_neg (show ¬ a < k by omega), if_neg (show ¬ a < k + 1 by omega)]; done)), (heap_setCell_other _ _ _ _ (by simp)).trans RR.out, HW.out.setCell (p := ⟨w.heap.size + 1, k, none⟩) (by simp) _⟩
        case measure => simp [intOf] <;> omega
      · have hkni : ((k : Int) == (n : Int)) = false := by rw [beq_eq_false_iff_ne]; omega
        have HK0 := Lib.hid hkn
        clear H1 hkn
        go_wp2_with fail
        go_roundw
        case rel => exact ⟨k + 1, by omega, by go_num, HR.out.eq (fun a _ => by rcases Nat.lt_trichotomy a k with h | h | h <;> first | (rw [if_pos h, if_pos (show a < k + 1 by omega)]; done) | (rw [if_neg (show ¬ a < k by omega), if_pos (show a < k + 1 by omega), if_neg (show ¬ a = n by have := HK0.out; omega)]; first | done | rfl) | (rw [if_neg (show ¬ a < k by omega), if_neg (show ¬ a < k + 1 by omega)]; done)), RR.out, HW.out⟩
        case measure => simp [intOf] <;> omega
    · obtain rfl : k = n + 1 := by omega
      have hki : ¬ (((n + 1 : Nat) : Int) ≤ (n : Int)) := by omega
      clear hlt
      have FIN := Lib.hid (And.intro HR.out HW.out)
      clear HR HW RR
      go_wp2_with fail
      go_returns
      exact ⟨_, rfl, ⟨w.heap.size + 1, rfl, FIN.out.1.eq (fun a ha => by rw [if_pos (by omega)])⟩, FIN.out.2⟩
set_option maxRecDepth 100000 in
set_option maxHeartbeats 4000000 in
theorem rtab_1 (p m : BitVec 32) (neg : Bool) (mi ma : Int) (ao : Option Addr) (kl cap : Nat) (ss : List Snd) (wv : Value) (w : World) (n : Nat) (hn : n ≤ 32) (hl : ss.length = n) (hW : Wd w wv ss) :
    Calls Tryd.prog 51 #[.agg #[.int .i64 1, .int .u32 (p.toNat : Int), .int .u32 (m.toNat : Int), .bool neg, .int .i64 mi, .int .i64 ma, .slice ao kl cap], wv] w fun e w' => ∃ v, e = .returned v ∧ TbS w' v n (sndT ss (p, m) neg) ∧ Below w.heap.size w w' := by
  obtain ⟨wo, wc, rfl, lw, mw, H1⟩ := hW.open
  rw [hl]
  have hmk : ∀ w, Sem.run Tryd.prog (Instr.makeSlice 78 (Value.int IntKind.i64 ((n : Int) + 1)) (Value.int IntKind.i64 ((n : Int) + 1))) w = .ok (.slice (some ⟨w.heap.size, 0, none⟩) (n + 1) (n + 1)) (w.alloc (.cells (uR n zeroT) 71)) := make_rowT n hn
  have hwr : IntKind.i64.wrap ((n : Int) + 1) = (n : Int) + 1 := by rw [IntKind.wrap_i64]; omega
  have R0 := Lib.hid (show ((w.alloc (.cells #[.int .i64 1, .int .u32 (p.toNat : Int), .int .u32 (m.toNat : Int), .bool neg, .int .i64 mi, .int .i64 ma, .slice ao kl cap] 27)).alloc (.cells (uR n zeroT) 71)).heap[w.heap.size]? = some (.cells #[.int .i64 1, .int .u32 (p.toNat : Int), .int .u32 (m.toNat : Int), .bool neg, .int .i64 mi, .int .i64 ma, .slice ao kl cap] 27) from (Below.heap_alloc _ _ _ (by rw [World.size_alloc]; omega)).trans (World.alloc_heap_new w _))
  have T0 := Lib.hid (show RowT ((w.alloc (.cells #[.int .i64 1, .int .u32 (p.toNat : Int), .int .u32 (m.toNat : Int), .bool neg, .int .i64 mi, .int .i64 ma, .slice ao kl cap] 27)).alloc (.cells (uR n zeroT) 71)) (w.heap.size + 1) n zeroT from heap_alloc2_new w _ _)
  have HB0 := Lib.hid (show Below w.heap.size w ((w.alloc (.cells #[.int .i64 1, .int .u32 (p.toNat : Int), .int .u32 (m.toNat : Int), .bool neg, .int .i64 mi, .int .i64 ma, .slice ao kl cap] 27)).alloc (.cells (uR n zeroT) 71)) by go_grown)
  go_enter Tryd.func51, Tryd.ntmps51
  go_wp2_with fail
  go_loopw [7] (fun i wr => ∃ k : Nat, k ≤ n + 1 ∧ i = .int .i64 (k : Int) ∧ RowT wr (w.heap.size + 1) n (fun a => if a < k then sndT ss (p, m) neg a else 0#64) ∧ wr.heap[w.heap.size]? = some (.cells #[.int .i64 1, .int .u32 (p.toNat : Int), .int .u32 (m.toNat : Int), .bool neg, .int .i64 mi, .int .i64 ma, .slice ao kl cap] 27) ∧ Below w.heap.size w wr) (fun i _ => n + 1 - (intOf i).toNat)
  case atStart => exact ⟨0, by omega, rfl, RowT.eq T0.out (fun a _ => by simp [zeroT]), R0.out, HB0.out⟩
  case round =>
    clear R0 T0 HB0 hmk
    obtain ⟨k, hk, rfl, hr, hR, hw⟩ := hrel
    have g0 := cell_block hR (o := 0) rfl; have g1 := cell_block hR (o := 1) rfl; have g2 := cell_block hR (o := 2) rfl; have g3 := cell_block hR (o := 3) rfl; have g4 := cell_block hR (o := 4) rfl; have g5 := cell_block hR (o := 5) rfl; have g6 := cell_block hR (o := 6) rfl
    have HR := Lib.hid hr; have HW := Lib.hid hw; have RR := Lib.hid hR
    clear hr hw hR
    by_cases hlt : k < n + 1
    · have hki : (k : Int) ≤ (n : Int) := by omega
      have hki2 : (k : Int) < (n : Int) + 1 := by omega
      by_cases hkl : k < ss.length
      · obtain ⟨b, off, hwo, lb, d0, d1⟩ := H1 k hkl
        subst hwo
        have d0 := (HW.out.cell (p := ⟨b, off + k * 2, none⟩) lb).trans d0
        have d1 := (HW.out.cell (p := ⟨b, off + k * 2 + 1, none⟩) lb).trans d1
        clear H1
        have hki3 : (k : Int) < (n : Int) := by omega
        have hkn : k < n := by omega
        have hsnd := sndT_some (c := (p, m)) (neg := neg) hkl
        have hsat := fun W => rsat_any ss[k] (p, m) W
        generalize hx : ss[k] = x at *
        obtain ⟨x1, x2⟩ := x
        unfold sdV at hsat
        simp only at hsat d0 d1
        obtain ⟨B, hB⟩ : ∃ B, satB (x1, x2) (p, m) = B := ⟨_, rfl⟩
        rw [hB] at hsat hsnd
        have HSN := Lib.hid hsnd; have HSAT := Lib.hid hsat
        clear hsnd hsat hx hB
        have hk1 : IntKind.i64.wrap ((k : Int) + 1) = (k : Int) + 1 := by rw [IntKind.wrap_i64]; omega
        rcases B with _ | _ <;> rcases neg with _ | _
        · go_wp2_with fail
          have y0 := cell_regrown g0; have y1 := cell_regrown g1; have y2 := cell_regrown g2; have y3 := cell_regrown g3; have y4 := cell_regrown g4; have y5 := cell_regrown g5; have y6 := cell_regrown g6; have y7 := cell_regrown d0; have y8 := cell_regrown d1
          refine wp_region_quiet_below (by kernel_rfl) (by kernel_rfl) ?_
          try simp only [List.append]
          repeat (go_big_quiet_step (first | (go_at_call 73; with_reducible exact Calls.regrown_of (HSAT.out _))))
          refine wpQuiet_nil ?_
          intro w11 hw11
          have hb11 : Below wr.heap.size wr w11 := by obtain ⟨qq, rfl⟩ := hw11; exact below_regrown _ _ _
          have HR_n := Lib.hid (HR.out.below hb11); have HW_n := Lib.hid (HW.out.trans (hb11.mono HW.out.size)); have RR_n := Lib.hid ((hb11.block _ (Array.getElem?_eq_some_iff.1 RR.out).1).trans RR.out)
          clear HR HW RR hb11 hw11 y0 y1 y2 y3 y4 y5 y6 g0 g1 g2 g3 g4 g5 g6 y7 y8 d0 d1
          have HR := HR_n; have HW := HW_n; have RR := RR_n
          clear HR_n HW_n RR_n
          skip
          go_wp2_with fail
          go_roundw
          case rel => exact ⟨k + 1, by omega, by go_num, HR.out.eq (fun a _ => by rcases Nat.lt_trichotomy a k with h | h | h <;> first | (rw [if_pos h, if_pos (show a < k + 1 by omega)]; done) | (rw [if_neg (show ¬ a < k by omega), if_pos (show a < k + 1 by omega), h, HSN.out]; first | done | rfl) | (rw [if_neg (show ¬ a < k by omega), if_neg (show ¬ a < k + 1 by omega)]; done)), RR.out, HW.out⟩
          case measure => simp [intOf] <;> omega
        · go_wp2_with fail
          have y0 := cell_regrown g0; have y1 := cell_regrown g1; have y2 := cell_regrown g2; have y3 := cell_regrown g3; have y4 := cell_regrown g4; have y5 := cell_regrown g5; have y6 := cell_regrown g6; have y7 := cell_regrown d0; have y8 := cell_regrown d1
          refine wp_region_quiet_below (by kernel_rfl) (by kernel_rfl) ?_
          try simp only [List.append]
          repeat (go_big_quiet_step (first | (go_at_call 73; with_reducible exact Calls.regrown_of (HSAT.out _))))
          refine wpQuiet_nil ?_
          intro w11 hw11
          have hb11 : Below wr.heap.size wr w11 := by obtain ⟨qq, rfl⟩ := hw11; exact below_regrown _ _ _
          have HR_n := Lib.hid (HR.out.below hb11); have HW_n := Lib.hid (HW.out.trans (hb11.mono HW.out.size)); have RR_n := Lib.hid ((hb11.block _ (Array.getElem?_eq_some_iff.1 RR.out).1).trans RR.out)
          clear HR HW RR hb11 hw11 y0 y1 y2 y3 y4 y5 y6 g0 g1 g2 g3 g4 g5 g6 y7 y8 d0 d1
          have HR := HR_n; have HW := HW_n; have RR := RR_n
          clear HR_n HW_n RR_n
          have c0 := HR.out.cell (a := k) (by omega)
          have f0 := HR.out.frozen k
          have hsh := shl_wrap (k + 1) (by omega)
          have hcast : ((k : Int) + 1).toNat = k + 1 := by omega
          go_wp2_with fail
          go_roundw
          case rel => exact ⟨k + 1, by omega, by go_num, (HR.out.set k (1#64 <<< (k + 1))).eq (fun a _ => by rcases Nat.lt_trichotomy a k with h | h | h <;> first | (rw [if_neg (show ¬ a = k by omega), if_pos h, if_pos (show a < k + 1 by omega)]; done) | (rw [if_pos h, if_pos (show a < k + 1 by omega), h, HSN.out]; first | done | rfl) | (rw [if_neg (show ¬ a = k by omega), if_neg (show ¬ a < k by omega), if_neg (show ¬ a < k + 1 by omega)]; done)), (heap_setCell_other _ _ _ _ (by simp)).trans RR.out, HW.out.setCell (p := ⟨w.heap.size + 1, k, none⟩) (by simp) _⟩
          case measure => simp [intOf] <;> omega
        · go_wp2_with fail
          have y0 := cell_regrown g0; have y1 := cell_regrown g1; have y2 := cell_regrown g2; have y3 := cell_regrown g3; have y4 := cell_regrown g4; have y5 := cell_regrown g5; have y6 := cell_regrown g6; have y7 := cell_regrown d0; have y8 := cell_regrown d1
          refine wp_region_quiet_below (by kernel_rfl) (by kernel_rfl) ?_
          try simp only [List.append]
          repeat (go_big_quiet_step (first | (go_at_call 73; with_reducible exact Calls.regrown_of (HSAT.out _))))
          refine wpQuiet_nil ?_
          intro w11 hw11
          have hb11 : Below wr.heap.size wr w11 := by obtain ⟨qq, rfl⟩ := hw11; exact below_regrown _ _ _
          have HR_n := Lib.hid (HR.out.below hb11); have HW_n := Lib.hid (HW.out.trans (hb11.mono HW.out.size)); have RR_n := Lib.hid ((hb11.block _ (Array.getElem?_eq_some_iff.1 RR.out).1).trans RR.out)
          clear HR HW RR hb11 hw11 y0 y1 y2 y3 y4 y5 y6 g0 g1 g2 g3 g4 g5 g6 y7 y8 d0 d1
          have HR := HR_n; have HW := HW_n; have RR := RR_n
          clear HR_n HW_n RR_n
          have c0 := HR.out.cell (a := k) (by omega)
          have f0 := HR.out.frozen k
          have hsh := shl_wrap (k + 1) (by omega)
          have hcast : ((k : Int) + 1).toNat = k + 1 := by omega
          go_wp2_with fail
          go_roundw
          case rel => exact ⟨k + 1, by omega, by go_num, (HR.out.set k (1#64 <<< (k + 1))).eq (fun a _ => by rcases Nat.lt_trichotomy a k with h | h | h <;> first | (rw [if_neg (show ¬ a = k by omega), if_pos h, if_pos (show a < k + 1 by omega)]; done) | (rw [if_pos h, if_pos (show a < k + 1 by omega), h, HSN.out]; first | done | rfl) | (rw [if_neg (show ¬ a = k by omega), if_neg (show ¬ a < k by omega), if_neg (show ¬ a < k + 1 by omega)]; done)), (heap_setCell_other _ _ _ _ (by simp)).trans RR.out, HW.out.setCell (p := ⟨w.heap.size + 1, k, none⟩) (by simp) _⟩
          case measure => simp [intOf] <;> omega
        · go_wp2_with fail
          have y0 := cell_regrown g0; have y1 := cell_regrown g1; have y2 := cell_regrown g2; have y3 := cell_regrown g3; have y4 := cell_regrown g4; have y5 := cell_regrown g5; have y6 := cell_regrown g6; have y7 := cell_regrown d0; have y8 := cell_regrown d1
          refine wp_region_quiet_below (by kernel_rfl) (by kernel_rfl) ?_
          try simp only [List.append]
          repeat (go_big_quiet_step (first | (go_at_call 73; with_reducible exact Calls.regrown_of (HSAT.out _))))
          refine wpQuiet_nil ?_
          intro w11 hw11
          have hb11 : Below wr.heap.size wr w11 := by obtain ⟨qq, rfl⟩ := hw11; exact below_regrown _ _ _
          have HR_n := Lib.hid (HR.out.below hb11); have HW_n := Lib.hid (HW.out.trans (hb11.mono HW.out.size)); have RR_n := Lib.hid ((hb11.block _ (Array.getElem?_eq_some_iff.1 RR.out).1).trans RR.out)
          clear HR HW RR hb11 hw11 y0 y1 y2 y3 y4 y5 y6 g0 g1 g2 g3 g4 g5 g6 y7 y8 d0 d1
          have HR := HR_n; have HW := HW_n; have RR := RR_n
          clear HR_n HW_n RR_n
          skip
          go_wp2_with fail
          go_roundw
          case rel => exact ⟨k + 1, by omega, by go_num, HR.out.eq (fun a _ => by rcases Nat.lt_trichotomy a k with h | h | h <;> first | (rw [if_pos h, if_pos (show a < k + 1 by omega)]; done) | (rw [if_neg (show ¬ a < k by omega), if_pos (show a < k + 1 by omega), h, HSN.out]; first | done | rfl) | (rw [if_neg (show ¬ a < k by omega), if_neg (show ¬ a < k + 1 by omega)]; done)), RR.out, HW.out⟩
          case measure => simp [intOf] <;> omega
      · have hki3 : ¬ (k : Int) < (n : Int) := by omega
        have hkn : ¬ k < n := by omega
        have hsnd := sndT_none (ss := ss) (c := (p, m)) (neg := neg) (a := k) (by omega)
        have HSN := Lib.hid hsnd
        clear hsnd H1
        go_wp2_with fail
        have y0 := cell_regrown g0; have y1 := cell_regrown g1; have y2 := cell_regrown g2; have y3 := cell_regrown g3; have y4 := cell_regrown g4; have y5 := cell_regrown g5; have y6 := cell_regrown g6
        refine wp_region_quiet_below (by kernel_rfl) (by kernel_rfl) ?_
        try simp only [List.append]
        repeat (go_big_quiet_step (fail))
        refine wpQuiet_nil ?_
        intro w11 hw11
        have hb11 : Below wr.heap.size wr w11 := by obtain ⟨qq, rfl⟩ := hw11; exact below_regrown _ _ _
        have HR_n := Lib.hid (HR.out.below hb11); have HW_n := Lib.hid (HW.out.trans (hb11.mono HW.out.size)); have RR_n := Lib.hid ((hb11.block _ (Array.getElem?_eq_some_iff.1 RR.out).1).trans RR.out)
        clear HR HW RR hb11 hw11 y0 y1 y2 y3 y4 y5 y6 g0 g1 g2 g3 g4 g5 g6
        have HR := HR_n; have HW := HW_n; have RR := RR_n
        clear HR_n HW_n RR_n
        skip
        go_wp2_with fail
        go_roundw
        case rel => exact ⟨k + 1, by omega, by go_num, HR.out.eq (fun a _ => by rcases Nat.lt_trichotomy a k with h | h | h <;> first | (rw [if_pos h, if_pos (show a < k + 1 by omega)]; done) | (rw [if_neg (show ¬ a < k by omega), if_pos (show a < k + 1 by omega), h, HSN.out]; first | done | rfl) | (rw [if_neg (show ¬ a < k by omega), if_neg (show ¬ a < k + 1 by omega)]; done)), RR.out, HW.out⟩
        case measure => simp [intOf] <;> omega
    · obtain rfl : k = n + 1 := by omega
      have hki : ¬ (((n + 1 : Nat) : Int) ≤ (n : Int)) := by omega
      clear hlt
      have FIN := Lib.hid (And.intro HR.out HW.out)
      clear HR HW RR
      go_wp2_with fail
      go_returns
      exact ⟨_, rfl, ⟨w.heap.size + 1, rfl, FIN.out.1.eq (fun a ha => by rw [if_pos (by omega)])⟩, FIN.out.2⟩
end Go.Proofs.YtmobilppakjihaaDoor
