/-
  Lemmas that the theorem of this claim rests on: 3 texts, one behind the other.
-/
import Derived.Test.YtmobilppakjihaaDoorM7
import Derived.Laws.Rows
import Derived.Laws.CopyOwn
import Derived.Test.YtmobilppakjihaaDoorM2
import Derived.Test.YtmobilppakjihaaDoorM4
set_option linter.unusedSimpArgs false
set_option linter.unusedVariables false
/-
  Arrays of places.
-/
namespace Go.Proofs.YtmobilppakjihaaDoor
open Go.RowKit Go.Sort
/-- The cells of a table. -/
def tbR (x : Tb) : Array Value := ((List.range 33).map fun a => Value.int .u64 ((x a).toNat : Int)).toArray
theorem tbR_size (x : Tb) : (tbR x).size = 33 := by simp [tbR]
theorem tbR_get (x : Tb) (a : Nat) (h : a < 33) : (tbR x)[a]? = some (.int .u64 ((x a).toNat : Int)) := by
  unfold tbR
  rw [List.getElem?_toArray, List.getElem?_map, List.getElem?_range h]; rfl
theorem tbR_set (x : Tb) (a : Nat) (v : BitVec 64) : (tbR x).setIfInBounds a (.int .u64 (v.toNat : Int)) = tbR (fun b => if b = a then v else x b) := by
  apply Array.ext
  · simp [tbR]
  · intro i h1 h2
    have hi : i < 33 := by rw [tbR_size] at h2; exact h2
    rw [Array.getElem_setIfInBounds (by rw [tbR_size]; exact hi)]
    simp only [tbR, List.getElem_toArray, List.getElem_map, List.getElem_range]
    by_cases h : a = i
    · subst h; simp
    · have h' : ¬ i = a := fun e => h e.symm
      simp [h, h']
theorem tbR_zero : (tbR zeroT) = #[.int .u64 0, .int .u64 0, .int .u64 0, .int .u64 0, .int .u64 0, .int .u64 0, .int .u64 0, .int .u64 0, .int .u64 0, .int .u64 0, .int .u64 0, .int .u64 0, .int .u64 0, .int .u64 0, .int .u64 0, .int .u64 0, .int .u64 0, .int .u64 0, .int .u64 0, .int .u64 0, .int .u64 0, .int .u64 0, .int .u64 0, .int .u64 0, .int .u64 0, .int .u64 0, .int .u64 0, .int .u64 0, .int .u64 0, .int .u64 0, .int .u64 0, .int .u64 0, .int .u64 0] := rfl
/-- A block that holds a table. -/
def TbAt (w : World) (b : Nat) (x : Tb) : Prop := w.heap[b]? = some (.cells (tbR x) 74 (0, 0))
theorem TbAt.cell {w : World} {b : Nat} {x : Tb} (h : TbAt w b x) {a : Nat} (ha : a < 33) : w.cell? ⟨b, a, none⟩ = some (.int .u64 ((x a).toNat : Int)) := by
  rw [cell_of_row w b a _ _ _ h]; exact tbR_get x a ha
theorem TbAt.frozen {w : World} {b : Nat} {x : Tb} (h : TbAt w b x) (a : Nat) : w.frozen? ⟨b, a, none⟩ = false := frozen_of_row w b a _ _ h
theorem TbAt.lt {w : World} {b : Nat} {x : Tb} (h : TbAt w b x) : b < w.heap.size := (Array.getElem?_eq_some_iff.1 h).1
theorem TbAt.new (w : World) (x : Tb) : TbAt (w.alloc (.cells (tbR x) 74)) w.heap.size x := World.alloc_heap_new w _
theorem TbAt.past {w : World} {b : Nat} {x : Tb} (h : TbAt w b x) (O : Obj) : TbAt (w.alloc O) b x := (Below.heap_alloc w O b h.lt).trans h
theorem TbAt.below {w w' : World} {b : Nat} {x : Tb} (h : TbAt w b x) (hb : Below w.heap.size w w') : TbAt w' b x := (hb.block b h.lt).trans h
theorem TbAt.drew {w : World} {b : Nat} {x : Tb} (h : TbAt w b x) : TbAt w.drew b x := h
theorem TbAt.other {w : World} {b : Nat} {x : Tb} (h : TbAt w b x) {a : Addr} (ha : b ≠ a.block) (v : Value) : TbAt (w.setCell a v) b x := (heap_setCell_other w a b v ha).trans h
theorem TbAt.set {w : World} {b : Nat} {x : Tb} (h : TbAt w b x) (a : Nat) (v : BitVec 64) : TbAt (w.setCell ⟨b, a, none⟩ (.int .u64 (v.toNat : Int))) b (fun c => if c = a then v else x c) := by
  unfold TbAt
  rw [heap_setCell_same w b a _ _ _ h, tbR_set]
theorem TbAt.eq {w : World} {b : Nat} {x y : Tb} (h : TbAt w b x) (e : x = y) : TbAt w b y := e ▸ h
theorem tbR_congr {x y : Tb} (h : ∀ a, a < 33 → x a = y a) : tbR x = tbR y := by
  unfold tbR
  congr 1
  refine List.map_congr_left fun a ha => ?_
  rw [h a (List.mem_range.1 ha)]
theorem TbAt.load {w : World} {b : Nat} {x : Tb} (h : TbAt w b x) : (loadVar 74 ⟨b, 0, none⟩).run Tryd.prog w = .ok (.agg (tbR x)) w :=
  run_loadVar_row w b _ _ _ _ _ h Tryd.underlying74 rfl (by rw [tbR_size]; kernel_rfl)
/-- Whether a block is an array of places; what it holds. -/
def RowAt (w : World) (g : Nat) : Bool := match w.heap[g]? with
  | some (.cells cs t fr) => cs.size == 33 && t == 74 && fr == (0, 0)
  | _ => false
def rowOf (w : World) (g : Nat) : Array Value := match w.heap[g]? with
  | some (.cells cs _ _) => cs
  | _ => #[]
theorem RowAt.get {w : World} {g : Nat} (h : RowAt w g = true) : w.heap[g]? = some (.cells (rowOf w g) 74 (0, 0)) ∧ (rowOf w g).size = 33 := by
  unfold RowAt at h
  unfold rowOf
  split at h
  · rename_i cs t fr hq
    simp only [Bool.and_eq_true, beq_iff_eq] at h
    obtain ⟨⟨h1, h2⟩, h3⟩ := h
    subst h2 h3
    rw [hq]
    exact ⟨rfl, h1⟩
  · cases h
theorem TbAt.row {w : World} {b : Nat} {x : Tb} (h : TbAt w b x) : RowAt w b = true := by
  unfold RowAt
  rw [h]
  simp [tbR_size]
theorem TbAt.val {w : World} {b : Nat} {x : Tb} (h : TbAt w b x) : rowOf w b = tbR x := by
  unfold rowOf
  rw [h]
theorem ld_row {w : World} {g : Nat} (h : RowAt w g = true) : (loadVar 74 ⟨g, 0, none⟩).run Tryd.prog w = .ok (.agg (rowOf w g)) w :=
  run_loadVar_row w g _ _ _ _ _ (RowAt.get h).1 Tryd.underlying74 rfl (by rw [(RowAt.get h).2]; kernel_rfl)
theorem tbR_one (x : Tb) : (tbR x).all (·.oneCell') = true := by
  rw [Array.all_eq_true]
  intro i hi
  simp [tbR, Value.oneCell']
theorem st_row {w : World} {g : Nat} {x : Tb} (h : RowAt w g = true) : (storeVar 74 ⟨g, 0, none⟩ (.agg (tbR x))).run Tryd.prog w = .ok () (w.setRow g (tbR x)) :=
  run_storeVar_row w g _ _ _ _ (RowAt.get h).1 (by rw [tbR_size]; kernel_rfl) ((RowAt.get h).2.trans (tbR_size x).symm) (tbR_one x)
theorem TbAt.setRow {w : World} {b : Nat} {y : Tb} (h : TbAt w b y) (x : Tb) : TbAt (w.setRow b (tbR x)) b x := setRow_heap w b _ _ _ _ h
theorem TbAt.setRow_other {w : World} {b g : Nat} {y : Tb} (h : TbAt w b y) (hg : b ≠ g) (cs : Array Value) : TbAt (w.setRow g cs) b y := (_root_.Go.setRow_other w g b cs hg).trans h
theorem bv_or64 (a b : BitVec 64) : bits .or .u64 (a.toNat : Int) (b.toNat : Int) = ((a ||| b).toNat : Int) := by
  rw [u64_or_nat _ _ a.isLt b.isLt, BitVec.toNat_or]
theorem ld_rowA {w : World} {g : Nat} (h : RowAt w g = true) : (Instr.loadAt 74 (.pointer (some ⟨g, 0, none⟩))).run Tryd.prog w = .ok (.agg (rowOf w g)) w := by
  simp only [Instr.loadAt, Instr.sureAddr, Sem.run_bind, Sem.run_pure, Result.andThen]
  exact ld_row h
theorem st_rowA {w : World} {g : Nat} {x : Tb} (h : RowAt w g = true) : (Instr.storeAt 74 (.pointer (some ⟨g, 0, none⟩)) (.agg (tbR x))).run Tryd.prog w = .ok () (w.setRow g (tbR x)) := by
  simp only [Instr.storeAt, Instr.sureAddr, Sem.run_bind, Sem.run_pure, Result.andThen]
  exact st_row h
theorem wpList_ld {ops : Array Oper} {rest : List Oper} {o : Oper} {a : Act} {w : World} {Q : Exit → Act → World → Prop} (hgd : o.guard = none) (x : Operand) (ho : o.op = .load 74 x) (g : Nat) (T : Tb) (hx : a.eval x = .pointer (some ⟨g, 0, none⟩)) (hg : TbAt w g T)
    (h : wpList Tryd.prog ops Q rest (a.put o.dst (.agg (tbR T))) w) : wpList Tryd.prog ops Q (o :: rest) a w :=
  wpList_load_row hgd _ x ho g hx _ _ _ _ hg Tryd.underlying74 rfl (by rw [tbR_size]; kernel_rfl) h
theorem wpList_st {ops : Array Oper} {rest : List Oper} {o : Oper} {a : Act} {w : World} {Q : Exit → Act → World → Prop} (hgd : o.guard = none) (x y : Operand) (ho : o.op = .store 74 x y) (g : Nat) (T T' : Tb) (hx : a.eval x = .pointer (some ⟨g, 0, none⟩)) (hy : a.eval y = .agg (tbR T')) (hg : TbAt w g T)
    (h : wpList Tryd.prog ops Q rest (a.put o.dst undef) (w.setRow g (tbR T'))) : wpList Tryd.prog ops Q (o :: rest) a w := by
  refine wpList_store_row hgd _ x y ho g (tbR T') hx hy _ _ hg ?_ ?_ (tbR_one T') ?_
  · rw [tbR_size]; kernel_rfl
  · rw [tbR_size, tbR_size]
  · exact h
set_option maxRecDepth 100000 in
set_option maxHeartbeats 1000000 in
theorem por_any (x y : Tb) (w : World) : Gives 103 #[.agg (tbR x), .agg (tbR y)] w (.agg (tbR (orT x y))) := by
  unfold Gives
  have hz := tbR_zero
  have HZ := Lib.hid hz
  clear hz
  go_enter Tryd.func103, Tryd.ntmps103
  go_wp2_with fail
  rw [← HZ.out]
  refine wp_gen ?_
  intro W1 hW1
  have hB1 : Below w.heap.size w W1 := by rw [hW1]; go_grown
  have hz1 : W1.heap.size = w.heap.size + 3 := by rw [hW1]; simp
  have t0 : TbAt W1 w.heap.size x := by rw [hW1]; exact ((TbAt.new w x).past _).past _
  have t1 : TbAt W1 (w.heap.size + 1) y := by rw [hW1]; have := (TbAt.new (w.alloc (.cells (tbR x) 74)) y).past (.cells (tbR zeroT) 74); rwa [World.size_alloc] at this
  have t2 : TbAt W1 (w.heap.size + 2) zeroT := by rw [hW1]; have := TbAt.new ((w.alloc (.cells (tbR x) 74)).alloc (.cells (tbR y) 74)) zeroT; rwa [World.size_alloc, World.size_alloc] at this
  have T0 := Lib.hid t0; have T1 := Lib.hid t1; have T2 := Lib.hid t2
  clear hW1 t0 t1 t2
  go_loopw [6] (fun i wr => ∃ k : Nat, k ≤ 33 ∧ i = .int .i64 (k : Int) ∧ TbAt wr w.heap.size (fun a => if a < k then x a ||| y a else x a) ∧ TbAt wr (w.heap.size + 1) y ∧ TbAt wr (w.heap.size + 2) zeroT ∧ Below w.heap.size w wr) (fun i _ => 33 - (intOf i).toNat)
  case atStart => exact ⟨0, by omega, rfl, by simpa using T0.out, T1.out, T2.out, hB1⟩
  case round =>
    obtain ⟨k, hk, rfl, h0, h1, h2, hw⟩ := hrel
    by_cases hlt : k < 33
    · have c0 := h0.cell hlt
      have c1 := h1.cell hlt
      have f0 := h0.frozen k
      rw [if_neg (by omega)] at c0
      have hor := bv_or64 (x k) (y k)
      have H0 := Lib.hid h0; have H1 := Lib.hid h1; have H2 := Lib.hid h2; have HW := Lib.hid hw
      clear h0 h1 h2 hw T0 T1 T2
      go_wp2_with fail
      go_region
      all_goals go_wp2_with fail
      all_goals rw [← BitVec.toNat_or]
      all_goals refine ⟨⟨k + 1, by omega, by go_num, ?_, ?_, ?_, ?_⟩, by simp [intOf]; omega⟩
      all_goals first
        | (refine (TbAt.drew ((H0.out.set k (x k ||| y k)).eq ?_)); funext a; by_cases ha : a = k <;> simp [ha]; by_cases hb : a < k <;> by_cases hc : a < k + 1 <;> simp [hb, hc] <;> omega)
        | exact TbAt.drew (H1.out.other (by simp) _)
        | exact TbAt.drew (H2.out.other (by simp) _)
        | exact (HW.out.setCell (p := ⟨w.heap.size, k, none⟩) (Nat.le_refl _) _).drew
    · obtain rfl : k = 33 := by omega
      have H0 := Lib.hid h0; have H2 := Lib.hid h2; have HW := Lib.hid hw
      clear T0 T1 T2 h0 h1 h2 hw hlt
      go_wp2_with (first | (refine wpList_ld rfl (.tmp 2) rfl w.heap.size _ rfl H0.out ?_) | (refine wpList_st rfl (.tmp 4) (.tmp 18) rfl (w.heap.size + 1 + 1) _ _ rfl rfl H2.out ?_))
      refine bodyPost_ret (v := .agg (tbR (orT x y))) ?_ rfl ⟨rfl, ?_⟩
      · refine (results_cell_row rfl _ _ (w.heap.size + 1 + 1) _ _ _ _ rfl (H2.out.setRow _) Tryd.underlying74 rfl (by rw [tbR_size]; kernel_rfl)).trans ?_
        rw [show tbR (fun a => if a < 33 then x a ||| y a else x a) = tbR (orT x y) from tbR_congr (fun a ha => by simp [ha, orT])]
      · exact below_setRow HW.out (by omega) _
end Go.Proofs.YtmobilppakjihaaDoor

/-
  One place; whether a place is in a set.
-/
namespace Go.Proofs.YtmobilppakjihaaDoor
open Go.RowKit Go.Sort
theorem one_shl_nat (k : Nat) (hk : k < 64) : (1#64 <<< k).toNat = 2 ^ k := by
  rw [BitVec.toNat_shiftLeft, Nat.shiftLeft_eq]
  have : 2 ^ k < 2 ^ 64 := Nat.pow_lt_pow_right (by omega) hk
  simp only [BitVec.toNat_ofNat]
  rw [show 1 % 2 ^ 64 = 1 from rfl, Nat.one_mul, Nat.mod_eq_of_lt this]
set_option maxHeartbeats 400000 in
theorem only_any (k : Nat) (hk : k < 64) (w : World) :
    Calls Tryd.prog 106 #[.int .i64 (k : Int)] w fun e w' => e = .returned (.int .u64 ((1#64 <<< k).toNat : Int)) ∧ w = w' := by
  have hb := one_shl_nat k hk
  have h2 : 2 ^ k < 2 ^ 64 := Nat.pow_lt_pow_right (by omega) (by omega)
  have HB := Lib.hid hb; clear hb
  have H2 := Lib.hid h2; clear h2
  go_enter Tryd.func106, Tryd.ntmps106
  go_wp2
  go_returns
  refine ⟨?_, rfl⟩
  have h2 := H2.out
  rw [HB.out]
  have e : ((2 ^ k : Int)) % 18446744073709551616 = ((2 ^ k : Nat) : Int) := by
    rw [show (2 ^ k : Int) = ((2 ^ k : Nat) : Int) from by simp]; generalize 2 ^ k = z at *; omega
  simp [u64_wrap, e]
theorem has_nat (s : BitVec 64) (k : Nat) : (bits BinOp.and IntKind.u64 ((s.toNat : Int) / 2 ^ k) 1 == 1) = s.getLsbD k := by
  have hs : s.toNat < 18446744073709551616 := s.isLt
  have e1 : ((s.toNat : Int) / 2 ^ k) = ((s.toNat / 2 ^ k : Nat) : Int) := by simp
  have hlt : s.toNat / 2 ^ k < 18446744073709551616 := Nat.lt_of_le_of_lt (Nat.div_le_self _ _) hs
  rw [e1, show (1 : Int) = ((1 : Nat) : Int) from rfl, u64_and_nat _ 1 hlt (by omega), Nat.and_one_is_mod]
  show _ = s.toNat.testBit k
  rw [Nat.testBit_eq_decide_div_mod_eq]
  rw [Bool.eq_iff_iff, beq_iff_eq, decide_eq_true_eq]
  omega
set_option maxHeartbeats 400000 in
theorem has_any (s : BitVec 64) (k : Nat) (hk : k < 64) (w : World) :
    Calls Tryd.prog 50 #[.int .u64 (s.toNat : Int), .int .i64 (k : Int)] w fun e w' => e = .returned (.bool (s.getLsbD k)) ∧ w = w' := by
  go_enter Tryd.func50, Tryd.ntmps50
  go_wp2
  go_returns
  refine ⟨?_, rfl⟩
  rw [← has_nat]; rfl
end Go.Proofs.YtmobilppakjihaaDoor

/-
  What the nodes without patterns below them match.
-/
namespace Go.Proofs.YtmobilppakjihaaDoor
open Go.RowKit Go.Sort
theorem parts_ret {fn : Func} (hr : fn.results = #[.cell 4 74]) (tmps : Array Value) (w : World) (g : Nat) (T T' : Tb) (hp : tmps.getD 4 undef = .pointer (some ⟨g, 0, none⟩)) (hg : TbAt w g T) (h : ∀ a, a < 33 → T a = T' a) : (results fn tmps).run Tryd.prog w = .ok (.agg (tbR T')) w := by
  rw [← tbR_congr h]
  exact results_cell_row hr tmps w g _ _ _ _ hp hg Tryd.underlying74 rfl (by rw [tbR_size]; kernel_rfl)
set_option maxRecDepth 100000 in
set_option maxHeartbeats 1000000 in
theorem pempty_any (ss : List Snd) (v : Value) (w : World) (hl : ss.length ≤ 32) (h : Wd w v ss) : Gives 109 #[.agg #[], v] w (.agg (tbR (sameT ss.length))) := by
  unfold Gives
  obtain ⟨ao, cap, rfl, -, -, -⟩ := h.open
  clear h
  obtain ⟨n, hn⟩ : ∃ n, ss.length = n := ⟨_, rfl⟩
  rw [hn] at hl ⊢
  clear hn
  have hz := tbR_zero
  have HZ := Lib.hid hz
  clear hz
  have hwr : wrap64 ((n : Int) + 1) = (n : Int) + 1 := by unfold wrap64; omega
  go_enter Tryd.func109, Tryd.ntmps109
  go_wp2_with fail
  rw [← HZ.out]
  refine wp_gen ?_
  intro W1 hW1
  have hB1 : Below w.heap.size w W1 := by rw [hW1]; go_grown
  have hz1 : W1.heap.size = w.heap.size + 3 := by rw [hW1]; simp
  have t1 : TbAt W1 (w.heap.size + 1) zeroT := by rw [hW1]; have := (TbAt.new (w.alloc (.cells #[] 116)) zeroT).past (.cells (tbR zeroT) 74); rwa [World.size_alloc] at this
  have t2 : TbAt W1 (w.heap.size + 2) zeroT := by rw [hW1]; have := TbAt.new ((w.alloc (.cells #[] 116)).alloc (.cells (tbR zeroT) 74)) zeroT; rwa [World.size_alloc, World.size_alloc] at this
  have T1 := Lib.hid t1; have T2 := Lib.hid t2
  clear hW1 t1 t2
  go_loopw [10] (fun i wr => ∃ k : Nat, k ≤ n + 1 ∧ i = .int .i64 (k : Int) ∧ TbAt wr (w.heap.size + 2) (fun a => if a < k then 1#64 <<< a else 0#64) ∧ TbAt wr (w.heap.size + 1) zeroT ∧ Below w.heap.size w wr) (fun i _ => n + 1 - (intOf i).toNat)
  case atStart => exact ⟨0, by omega, rfl, T2.out.eq (by funext a; simp [zeroT]), T1.out, hB1⟩
  case round =>
    obtain ⟨k, hk, rfl, h2, h1, hw⟩ := hrel
    by_cases hlt : k < n + 1
    · have c0 := h2.cell (a := k) (by omega)
      have f0 := h2.frozen k
      have H1 := Lib.hid h1; have H2 := Lib.hid h2; have HW := Lib.hid hw
      clear h1 h2 hw T1 T2
      have hk33 : k < 33 := by omega
      have hlt2 : (k : Int) < (n : Int) + 1 := by omega
      go_wp2_with (go_at_call 106; refine (only_any k (by omega) _).mono ?_; rintro e w1 ⟨rfl, rfl⟩)
      go_roundw
      case rel => exact ⟨k + 1, by omega, by go_num, (H2.out.set k (1#64 <<< k)).eq (by funext a; by_cases ha : a = k <;> simp [ha]; by_cases hb : a < k <;> by_cases hc : a < k + 1 <;> simp [hb, hc] <;> omega), H1.out.other (by simp) _, HW.out.setCell (p := ⟨w.heap.size + 2, k, none⟩) (by simp) _⟩
      case measure => simp [intOf]; omega
    · obtain rfl : k = n + 1 := by omega
      have H1 := Lib.hid h1; have H2 := Lib.hid h2; have HW := Lib.hid hw
      clear T1 T2 h1 h2 hw hlt
      have hlt2 : ¬ ((n + 1 : Nat) : Int) < (n : Int) + 1 := by omega
      go_wp2_with (first | (refine wpList_ld rfl (.tmp 5) rfl (w.heap.size + 1 + 1) _ rfl H2.out ?_) | (refine wpList_st rfl (.tmp 4) (.tmp 18) rfl (w.heap.size + 1) _ _ rfl rfl H1.out ?_))
      refine bodyPost_ret (v := .agg (tbR (sameT n))) ?_ rfl ⟨rfl, below_setRow HW.out (by omega) _⟩
      exact parts_ret rfl _ _ (w.heap.size + 1) _ _ rfl (H1.out.setRow _) (fun a ha => by unfold sameT; by_cases hb : a < n + 1 <;> by_cases hc : a ≤ n <;> simp [hb, hc] <;> omega)
end Go.Proofs.YtmobilppakjihaaDoor
