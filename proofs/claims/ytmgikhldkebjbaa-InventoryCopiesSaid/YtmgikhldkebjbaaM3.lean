/-
  Lemmas that the theorem of this claim rests on: 13 texts, one behind the other.
-/
import Derived.Test.YtmgikhldkebjbaaM2
import Derived.Test.YtmgikhldkebjbaaM1
import Derived.IntWalk

/-
  Inventories that are nil, or were not made by New: what every call returns.
-/
namespace Go.Proofs.Ytmgikhldkebjbaa
open Go.RowKit Go.Shelf Go.Sort
attribute [local go_sem] Oper.semAt_some
/-- What the package asks of an inventory answers no, whatever is made beside it. -/
def NoInv (w : World) (p : Value) : Prop := ∀ W, Below w.heap.size w W → Gives 44 #[p] W (.bool false)
theorem NoInv.below {w w' : World} {p : Value} (h : NoInv w p) (hb : Below w.heap.size w w') : NoInv w' p := fun W hW => h W (hb.trans (hW.mono hb.size))
theorem noInv_nil (w : World) : NoInv w (.pointer none) := fun W _ => valid_nil W
theorem noInv_zero {w : World} {B : Nat} (hB : B < w.heap.size) (h : w.cell? ⟨B, 0, none⟩ = some (.pointer none)) : NoInv w (.pointer (some ⟨B, 0, none⟩)) := fun W hW => valid_zero B W ((hW.cell (p := ⟨B, 0, none⟩) hB).trans h)
theorem no_len {w : World} {p : Value} (h : NoInv w p) : Gives 22 #[p] w (.int .i64 0) := by
  unfold Gives
  have H := Lib.hid h; clear h
  go_enter Try.func22, Try.ntmps22
  go_wp2_with (go_at_call 44; refine Gives.then (H.out _ (by go_grown)) ?_; intro w1 hb)
  go_returns
  exact ⟨rfl, hb⟩
theorem no_feats {w : World} {p : Value} (h : NoInv w p) : Gives 20 #[p] w (.slice none 0 0) := by
  unfold Gives
  have H := Lib.hid h; clear h
  go_enter Try.func20, Try.ntmps20
  go_wp2_with (go_at_call 44; refine Gives.then (H.out _ (by go_grown)) ?_; intro w1 hb)
  go_returns
  exact ⟨rfl, hb⟩
theorem no_sounds {w : World} {p : Value} (h : NoInv w p) : Gives 27 #[p] w (.slice none 0 0) := by
  unfold Gives
  have H := Lib.hid h; clear h
  go_enter Try.func27, Try.ntmps27
  go_wp2_with (go_at_call 44; refine Gives.then (H.out _ (by go_grown)) ?_; intro w1 hb)
  go_returns
  exact ⟨rfl, hb⟩
theorem no_copy {w : World} {p : Value} (h : NoInv w p) : Gives 36 #[p] w (.pointer none) := by
  unfold Gives
  have H := Lib.hid h; clear h
  go_enter Try.func36, Try.ntmps36
  go_wp2_with (go_at_call 44; refine Gives.then (H.out _ (by go_grown)) ?_; intro w1 hb)
  go_returns
  exact ⟨rfl, hb⟩
theorem no_feat {w : World} {p : Value} (h : NoInv w p) (k : ByteArray) : Gives 18 #[p, .string k] w (.tuple #[.int .i64 0, .bool false]) := by
  unfold Gives
  have H := Lib.hid h; clear h
  go_enter Try.func18, Try.ntmps18
  go_wp2_with (go_at_call 44; refine Gives.then (H.out _ (by go_grown)) ?_; intro w1 hb)
  go_ret2
  exact ⟨rfl, hb⟩
theorem no_symbol {w : World} {p : Value} (h : NoInv w p) (s : Snd) : Gives 34 #[p, snv s] w (.tuple #[.string ⟨#[]⟩, .bool false]) := by
  unfold Gives snv
  have H := Lib.hid h; clear h
  go_enter Try.func34, Try.ntmps34
  go_wp2_with (go_at_call 44; refine Gives.then (H.out _ (by go_grown)) ?_; intro w1 hb)
  go_ret2
  exact ⟨rfl, by have hq := (Below.refl w.heap.size w).alloc (Nat.le_refl _) (.cells #[.int .u32 (s.1.toNat : Int), .int .u32 (s.2.toNat : Int)] 39); exact hq.trans (hb.mono hq.size)⟩
theorem no_longest {w : World} {p : Value} (h : NoInv w p) (k : ByteArray) : Gives 35 #[p, .string k] w (.tuple #[.string ⟨#[]⟩, .bool false]) := by
  unfold Gives
  have H := Lib.hid h; clear h
  go_enter Try.func35, Try.ntmps35
  go_wp2_with (go_at_call 44; refine Gives.then (H.out _ (by go_grown)) ?_; intro w1 hb)
  go_ret2
  exact ⟨rfl, hb⟩
theorem no_text {w : World} {p : Value} (h : NoInv w p) (s : Snd) : Gives 31 #[p, snv s] w (.tuple #[.string ⟨#[]⟩, .int .i64 1]) := by
  unfold Gives snv
  have H := Lib.hid h; clear h
  go_enter Try.func31, Try.ntmps31
  go_wp2_with (go_at_call 44; refine Gives.then (H.out _ (by go_grown)) ?_; intro w1 hb)
  go_ret2
  exact ⟨rfl, by have hq := (Below.refl w.heap.size w).alloc (Nat.le_refl _) (.cells #[.int .u32 (s.1.toNat : Int), .int .u32 (s.2.toNat : Int)] 39); exact hq.trans (hb.mono hq.size)⟩
theorem no_add {w : World} {p : Value} (h : NoInv w p) (k : ByteArray) (s : Snd) : Gives 23 #[p, .string k, snv s] w (.int .i64 1) := by
  unfold Gives snv
  have H := Lib.hid h; clear h
  go_enter Try.func23, Try.ntmps23
  go_wp2_with (go_at_call 44; refine Gives.then (H.out _ (by go_grown)) ?_; intro w1 hb)
  go_returns
  exact ⟨rfl, by have hq := (Below.refl w.heap.size w).alloc (Nat.le_refl _) (.cells #[.int .u32 (s.1.toNat : Int), .int .u32 (s.2.toNat : Int)] 39); exact hq.trans (hb.mono hq.size)⟩
theorem no_sound {w : World} {p : Value} (h : NoInv w p) (k : ByteArray) : Gives 33 #[p, .string k] w (.tuple #[.agg #[.int .u32 0, .int .u32 0], .bool false]) := by
  unfold Gives
  have H := Lib.hid h; clear h
  go_enter Try.func33, Try.ntmps33
  go_wp2_with fail
  go_at_call 44
  refine Gives.then (H.out _ (by go_grown)) ?_
  intro w1 hb
  have hw1 := ((Below.refl w.heap.size w).alloc (Nat.le_refl _) (.cells #[.int .u32 0, .int .u32 0] 39)).trans (hb.mono (by simp))
  have r0 := (hb.cell (p := ⟨w.heap.size, 0, none⟩) (by simp)).trans (cell_block (World.alloc_heap_new w _) rfl)
  have r1 := (hb.cell (p := ⟨w.heap.size, 1, none⟩) (by simp)).trans (cell_block (World.alloc_heap_new w _) rfl)
  have f0 := (hb.frozen (p := ⟨w.heap.size, 0, none⟩) (by simp)).trans (frozen_block (World.alloc_heap_new w _))
  have f1 := (hb.frozen (p := ⟨w.heap.size, 1, none⟩) (by simp)).trans (frozen_block (World.alloc_heap_new w _))
  clear hb
  go_wp2_with fail
  refine bodyPost_ret (v := .tuple #[.agg #[.int .u32 0, .int .u32 0], .bool false]) ?_ rfl ⟨rfl, by go_grown⟩
  have e0 : ((w1.setCell ⟨w.heap.size, 0, none⟩ (.int .u32 0)).setCell ⟨w.heap.size, 1, none⟩ (.int .u32 0)).cell? ⟨w.heap.size, 0, none⟩ = some (.int .u32 0) := by go_cell
  have e1 : ((w1.setCell ⟨w.heap.size, 0, none⟩ (.int .u32 0)).setCell ⟨w.heap.size, 1, none⟩ (.int .u32 0)).cell? ⟨w.heap.size, 1, none⟩ = some (.int .u32 0) := by go_cell
  simp [results, Try.results33, go_sem, e0, e1]
end Go.Proofs.Ytmgikhldkebjbaa

/-
  Bundle of an inventory that is nil, or was not made by New.
-/
namespace Go.Proofs.Ytmgikhldkebjbaa
open Go.RowKit Go.Shelf Go.Sort
attribute [local go_sem] Oper.semAt_some
set_option maxHeartbeats 16000000 in
set_option maxRecDepth 100000 in
theorem no_bundle {w : World} {q : Option Addr} (h : NoInv w (.pointer q)) (t : ByteArray) : Gives 29 #[.pointer q, .string t] w (.tuple #[.agg #[.int .u32 0, .int .u32 0], .int .i64 1]) := by
  unfold Gives
  have H := Lib.hid h; clear h
  obtain ⟨V, hV⟩ : ∃ V, V = Value.tuple #[.agg #[.int .u32 0, .int .u32 0], .int .i64 1] := ⟨_, rfl⟩
  rw [← hV]
  have HV := Lib.hid hV; clear hV
  refine (callsIn_wide (n := 5)).1 ?_
  refine callsIn_of_wp_marks Try.func29 rfl trivial ?_ rfl
  simp only [Try.ntmps29, List.size_toArray, List.length_cons, List.length_nil, Nat.reduceAdd, Nat.reduceSub, Array.replicate_succ, Array.replicate_zero, List.push_toArray, List.append_toArray, List.nil_append, List.cons_append]
  gi_wp2_with (refine ⟨trivial, ?_⟩; gi_at_call 44; refine (callsIn_wide.2 (H.out _ (by go_grown))).mono ?_; rintro e wa ⟨rfl, hwa⟩; obtain ⟨hc, hf, hz⟩ := bcell hwa; (try simp only [World.size_alloc] at hc hf hz))
  have hq := (((Below.refl w.heap.size w).alloc (Nat.le_refl _) (.cells #[.pointer q] 26)).alloc (by rw [World.size_alloc]; omega) (.cells #[.int .u32 0, .int .u32 0] 39)).alloc (by simp only [World.size_alloc]; omega) (.cells #[.int .i64 0] 42)
  have hb4 := (((hq.trans (hwa.mono hq.size)).setCell (p := ⟨w.heap.size + 1, 0, none⟩) (by simp only []; omega) (.int .u32 0)).setCell (p := ⟨w.heap.size + 1, 1, none⟩) (by simp only []; omega) (.int .u32 0)).setCell (p := ⟨w.heap.size + 1 + 1, 0, none⟩) (by simp only []; omega) (.int .i64 1)
  have k0 : wa.cell? ⟨w.heap.size + 1, 0, none⟩ = some (.int .u32 0) := by rw [hc _ _ (by omega)]; go_cell
  have k1 : wa.cell? ⟨w.heap.size + 1, 1, none⟩ = some (.int .u32 0) := by rw [hc _ _ (by omega)]; go_cell
  have k2 : wa.cell? ⟨w.heap.size + 1 + 1, 0, none⟩ = some (.int .i64 0) := by rw [hc _ _ (by omega)]; go_cell
  have c1 : (((wa.setCell ⟨w.heap.size + 1, 0, none⟩ (.int .u32 0)).setCell ⟨w.heap.size + 1, 1, none⟩ (.int .u32 0)).setCell ⟨w.heap.size + 1 + 1, 0, none⟩ (.int .i64 1)).cell? ⟨w.heap.size + 1, 0, none⟩ = some (.int .u32 0) := by go_cell
  have c2 : (((wa.setCell ⟨w.heap.size + 1, 0, none⟩ (.int .u32 0)).setCell ⟨w.heap.size + 1, 1, none⟩ (.int .u32 0)).setCell ⟨w.heap.size + 1 + 1, 0, none⟩ (.int .i64 1)).cell? ⟨w.heap.size + 1, 1, none⟩ = some (.int .u32 0) := by go_cell
  have c3 : (((wa.setCell ⟨w.heap.size + 1, 0, none⟩ (.int .u32 0)).setCell ⟨w.heap.size + 1, 1, none⟩ (.int .u32 0)).setCell ⟨w.heap.size + 1 + 1, 0, none⟩ (.int .i64 1)).cell? ⟨w.heap.size + 1 + 1, 0, none⟩ = some (.int .i64 1) := by go_cell
  refine ⟨.tuple #[.agg #[.int .u32 0, .int .u32 0], .int .i64 1], ?_, ?_, hb4⟩
  · simp [results, Try.results29, go_sem, c1, c2, c3]
  · rw [HV.out]
end Go.Proofs.Ytmgikhldkebjbaa

/-
  The specification's names of features and symbols: the same texts as the program's.
-/
namespace Go.Proofs.Ytmgikhldkebjbaa
open Go.RowKit Go.Sort
def lowB (c : UInt8) : Bool := decide (97 ≤ c.toNat) && decide (c.toNat ≤ 122)
def letB (c : UInt8) : Bool := (decide (97 ≤ c.toNat) && decide (c.toNat ≤ 122)) || (decide (48 ≤ c.toNat) && decide (c.toNat ≤ 57))
def bigB (c : UInt8) : Bool := (decide (65 ≤ c.toNat) && decide (c.toNat ≤ 90)) || c.toNat == 64 || c.toNat == 63 || c.toNat == 33 || c.toNat == 38 || c.toNat == 42 || c.toNat == 36 || c.toNat == 37
theorem byte_all (p q : UInt8 → Bool) (h : ∀ n : Fin 256, p (UInt8.ofNat n.val) = q (UInt8.ofNat n.val)) (c : UInt8) : p c = q c := by
  have := h ⟨c.toNat, c.toNat_lt⟩
  simpa using this
theorem low_in (c : UInt8) : isIn sSmall c = lowB c := byte_all _ _ (of_decide_eq_true (by kernel_rfl)) c
theorem let_in (c : UInt8) : isIn sSmallDigits c = letB c := byte_all _ _ (of_decide_eq_true (by kernel_rfl)) c
theorem all_in (c : UInt8) : isIn sAll c = (letB c || bigB c) := byte_all (isIn sAll) (fun c => letB c || bigB c) (of_decide_eq_true (by kernel_rfl)) c
theorem dec_u8 (c : UInt8) (n : Nat) : (decide ((n : Int) ≤ (c.toNat : Int)) = decide (n ≤ c.toNat)) ∧ (decide ((c.toNat : Int) ≤ (n : Int)) = decide (c.toNat ≤ n)) := by
  constructor <;> (rw [Bool.eq_iff_iff, decide_eq_true_iff, decide_eq_true_iff]; omega)
set_option maxHeartbeats 1000000 in
theorem letter_any (c : UInt8) (w : World) : Calls Try.prog 72 #[.int .u8 c.toNat] w fun e w' => e = .returned (.bool (letB c)) ∧ w = w' := by
  unfold letB
  generalize c.toNat = n
  by_cases h1 : 97 ≤ n <;> by_cases h2 : n ≤ 122 <;> by_cases h3 : 48 ≤ n <;> by_cases h4 : n ≤ 57
  all_goals try omega
  all_goals (
    have d1 : decide ((97 : Int) ≤ (n : Int)) = decide (97 ≤ n) := by rw [Bool.eq_iff_iff, decide_eq_true_iff, decide_eq_true_iff]; omega
    have d2 : decide ((n : Int) ≤ 122) = decide (n ≤ 122) := by rw [Bool.eq_iff_iff, decide_eq_true_iff, decide_eq_true_iff]; omega
    have d3 : decide ((48 : Int) ≤ (n : Int)) = decide (48 ≤ n) := by rw [Bool.eq_iff_iff, decide_eq_true_iff, decide_eq_true_iff]; omega
    have d4 : decide ((n : Int) ≤ 57) = decide (n ≤ 57) := by rw [Bool.eq_iff_iff, decide_eq_true_iff, decide_eq_true_iff]; omega
    go_enter Try.func72, Try.ntmps72
    go_wp2
    go_returns
    exact ⟨by first | rfl | (simp [h1, h2, h3, h4]; done) | (simp; omega), rfl⟩)
end Go.Proofs.Ytmgikhldkebjbaa

/-
  The specification's IsFeat and IsSymbol.
-/
namespace Go.Proofs.Ytmgikhldkebjbaa
open Go.RowKit Go.Sort
theorem big_num (n : Nat) (hn : n = 64 ∨ n = 63 ∨ n = 33 ∨ n = 38 ∨ n = 42 ∨ n = 36 ∨ n = 37) (w : World) : Calls Try.prog 73 #[.int .u8 (n : Int)] w fun e w' => e = .returned (.bool true) ∧ w = w' := by
  rcases hn with rfl | rfl | rfl | rfl | rfl | rfl | rfl
  all_goals (
    go_enter Try.func73, Try.ntmps73
    go_wp2
    go_returns
    exact ⟨rfl, rfl⟩)
theorem big_cap (n : Nat) (h1 : 65 ≤ n) (h2 : n ≤ 90) (w : World) : Calls Try.prog 73 #[.int .u8 (n : Int)] w fun e w' => e = .returned (.bool true) ∧ w = w' := by
  have d1 : decide ((65 : Int) ≤ (n : Int)) = true := decide_eq_true (by omega)
  have d2 : decide ((n : Int) ≤ 90) = true := decide_eq_true (by omega)
  have d3 : decide (65 ≤ n) = true := decide_eq_true (by omega)
  have d4 : decide (n ≤ 90) = true := decide_eq_true (by omega)
  clear h1 h2
  go_enter Try.func73, Try.ntmps73
  go_wp2
  go_returns
  exact ⟨rfl, rfl⟩
theorem int_ne {n k : Nat} (h : n ≠ k) : ((n : Int) == (k : Int)) = false := by rw [Bool.eq_false_iff]; intro e; exact h (by have := beq_iff_eq.1 e; omega)
theorem big_none (n : Nat) (h : ¬ (65 ≤ n ∧ n ≤ 90)) (hn : ¬ (n = 64 ∨ n = 63 ∨ n = 33 ∨ n = 38 ∨ n = 42 ∨ n = 36 ∨ n = 37)) (w : World) : Calls Try.prog 73 #[.int .u8 (n : Int)] w fun e w' => e = .returned (.bool false) ∧ w = w' := by
  have e1 : ((n : Int) == 64) = false := int_ne (k := 64) (by omega)
  have e2 : ((n : Int) == 63) = false := int_ne (k := 63) (by omega)
  have e3 : ((n : Int) == 33) = false := int_ne (k := 33) (by omega)
  have e4 : ((n : Int) == 38) = false := int_ne (k := 38) (by omega)
  have e5 : ((n : Int) == 42) = false := int_ne (k := 42) (by omega)
  have e6 : ((n : Int) == 36) = false := int_ne (k := 36) (by omega)
  have e7 : ((n : Int) == 37) = false := int_ne (k := 37) (by omega)
  by_cases h1 : 65 ≤ n
  · have d1 : decide ((65 : Int) ≤ (n : Int)) = true := decide_eq_true (by omega)
    have d2 : decide ((n : Int) ≤ 90) = false := decide_eq_false (by omega)
    have d3 : decide (65 ≤ n) = true := decide_eq_true (by omega)
    have d4 : decide (n ≤ 90) = false := decide_eq_false (by omega)
    clear h1 h hn
    go_enter Try.func73, Try.ntmps73
    go_wp2
    go_returns
    exact ⟨rfl, rfl⟩
  · have d1 : decide ((65 : Int) ≤ (n : Int)) = false := decide_eq_false (by omega)
    have d3 : decide (65 ≤ n) = false := decide_eq_false (by omega)
    clear h1 h hn
    go_enter Try.func73, Try.ntmps73
    go_wp2
    go_returns
    exact ⟨rfl, rfl⟩
theorem big_any (c : UInt8) (w : World) : Calls Try.prog 73 #[.int .u8 c.toNat] w fun e w' => e = .returned (.bool (bigB c)) ∧ w = w' := by
  unfold bigB
  generalize c.toNat = n
  by_cases h : 65 ≤ n ∧ n ≤ 90
  · have e : ((decide (65 ≤ n) && decide (n ≤ 90)) || n == 64 || n == 63 || n == 33 || n == 38 || n == 42 || n == 36 || n == 37) = true := by simp [h.1, h.2]
    rw [e]; exact big_cap n h.1 h.2 w
  · by_cases hn : n = 64 ∨ n = 63 ∨ n = 33 ∨ n = 38 ∨ n = 42 ∨ n = 36 ∨ n = 37
    · have e : ((decide (65 ≤ n) && decide (n ≤ 90)) || n == 64 || n == 63 || n == 33 || n == 38 || n == 42 || n == 36 || n == 37) = true := by rcases hn with rfl | rfl | rfl | rfl | rfl | rfl | rfl <;> rfl
      rw [e]; exact big_num n hn w
    · have e : ((decide (65 ≤ n) && decide (n ≤ 90)) || n == 64 || n == 63 || n == 33 || n == 38 || n == 42 || n == 36 || n == 37) = false := by
        rw [Bool.eq_false_iff]
        intro e
        simp only [Bool.or_eq_true, Bool.and_eq_true, decide_eq_true_eq, beq_iff_eq] at e
        omega
      rw [e]; exact big_none n h hn w
theorem isFeat_short {t : ByteArray} (h : t.size = 0) : isFeat t = false := by unfold isFeat; rw [cons_none h]; rfl
theorem isFeat_long {t : ByteArray} (h : ¬ t.size ≤ 16) : isFeat t = false := by unfold isFeat; rw [cons_long h]; rfl
theorem isFeat_first {t : ByteArray} {c : UInt8} (hc : t.data.toList.getD 0 0 = c) (h : lowB c = false) : isFeat t = false := by unfold isFeat; rw [hc, low_in, h, Bool.and_false]
theorem isFeat_of {t : ByteArray} {c : UInt8} (h0 : 0 < t.size) (h1 : t.size ≤ 16) (hc : t.data.toList.getD 0 0 = c) (h : lowB c = true) : isFeat t = t.data.toList.all letB := by
  have e : isIn sSmallDigits = letB := funext let_in
  unfold isFeat cons; rw [hc, low_in, h, decide_eq_true h0, decide_eq_true h1, e, Bool.and_true, Bool.true_and, Bool.true_and]
theorem isSym_of {t : ByteArray} (h0 : 0 < t.size) (h1 : t.size ≤ 4) : isSym t = t.data.toList.all fun c => letB c || bigB c := by
  have e : isIn sAll = fun c => letB c || bigB c := funext all_in
  unfold isSym cons; rw [decide_eq_true h0, decide_eq_true h1, e, Bool.true_and, Bool.true_and]
set_option maxRecDepth 100000 in
set_option maxHeartbeats 4000000 in
theorem rIsFeat_any (t : ByteArray) (ht : t.size ≤ 9223372036854775807) (w : World) : Gives 69 #[.string t] w (.bool (isFeat t)) := by
  unfold Gives
  have hw := Below.refl w.heap.size w
  by_cases h0 : t.size = 0
  · rw [isFeat_short h0]
    have g1 : decide ((t.size : Int) < 1) = true := decide_eq_true (by omega)
    have g2 : decide (t.size < 1) = true := decide_eq_true (by omega)
    clear h0
    go_enter Try.func69, Try.ntmps69
    go_wp2
    go_returns
    exact ⟨rfl, hw⟩
  · have g1 : decide ((t.size : Int) < 1) = false := decide_eq_false (by omega)
    have g2 : decide (t.size < 1) = false := decide_eq_false (by omega)
    have h0' : 0 < t.size := by omega
    by_cases h1 : t.size ≤ 16
    · have g3 : decide ((16 : Int) < (t.size : Int)) = false := decide_eq_false (by omega)
      have g4 : decide (16 < t.size) = false := decide_eq_false (by omega)
      have hl : 0 < t.data.toList.length := by rw [Array.length_toList]; exact h0'
      obtain ⟨c, hcc⟩ : ∃ c, t.data.toList[0] = c := ⟨_, rfl⟩
      have hb : ∀ h, t[0]'h = c := by intro h; exact hcc
      have hh : t.data.toList.getD 0 0 = c := by
        rw [List.getD_eq_getElem?_getD, List.getElem?_eq_getElem hl, hcc]; rfl
      by_cases hlow : lowB c = true
      · have hF := isFeat_of h0' h1 hh hlow
        rw [hF]
        have hc1 : 97 ≤ c.toNat ∧ c.toNat ≤ 122 := by
          unfold lowB at hlow
          rw [Bool.and_eq_true, decide_eq_true_iff, decide_eq_true_iff] at hlow
          exact hlow
        have g5 : decide ((c.toNat : Int) < 97) = false := decide_eq_false (by omega)
        have g6 : decide (c.toNat < 97) = false := decide_eq_false (by omega)
        have g7 : decide ((122 : Int) < (c.toNat : Int)) = false := decide_eq_false (by omega)
        have g8 : decide (122 < c.toNat) = false := decide_eq_false (by omega)
        generalize hC : t.data.toList.all letB = C
        have hno : ∀ k (hk : k < t.data.toList.length), letB (t.data.toList[k]) = false → false = C := fun k hk h => by
          rw [← hC]; symm
          rw [List.all_eq_false]
          exact ⟨_, List.getElem_mem hk, by rw [h]; decide⟩
        have hL : t.data.toList.length = t.size := by rw [Array.length_toList]; rfl
        have HNO := Lib.hid hno; have HL := Lib.hid hL; have HC := Lib.hid hC
        clear hno hL hC hF hlow hc1 hcc hh hl
        go_enter Try.func69, Try.ntmps69
        go_wp2_with fail
        go_loopw [3] (fun i wr => ∃ k : Nat, k ≤ t.size ∧ i = .int .i64 (k : Int) ∧ ((t.data.toList).take k).all letB = true ∧ w = wr) (fun i _ => t.size - (intOf i).toNat)
        case atStart => exact ⟨0, by omega, rfl, by simp, rfl⟩
        case round =>
          obtain ⟨k, hk, rfl, hall, rfl⟩ := hrel
          have HALL := Lib.hid hall
          clear hall hb
          by_cases hlt : k < t.size
          · have hkl : k < t.data.toList.length := by rw [HL.out]; exact hlt
            obtain ⟨d, hd⟩ : ∃ d, t.data.toList[k] = d := ⟨_, rfl⟩
            have hb : ∀ h, t[k]'h = d := by intro h; exact hd
            have hlet := letter_any d w
            rcases hx : letB d with _ | _
            · have HN := Lib.hid (HNO.out k hkl (by rw [hd]; exact hx))
              rw [hx] at hlet
              have HM := Lib.hid hlet
              clear hlet hx hd hkl
              go_wp2_with (go_at_call 72; (with_reducible refine HM.out.mono ?_); rintro e w1 ⟨rfl, rfl⟩)
              go_returns
              exact ⟨by rw [← HN.out]; rfl, hw⟩
            · have HN := Lib.hid (all_take hkl HALL.out (by rw [hd]; exact hx))
              rw [hx] at hlet
              have HM := Lib.hid hlet
              clear hlet hx hd hkl
              go_wp2_with (go_at_call 72; (with_reducible refine HM.out.mono ?_); rintro e w1 ⟨rfl, rfl⟩)
              go_roundw
              case rel => exact ⟨k + 1, by omega, by go_num, HN.out, by trivial⟩
              case measure => simp [intOf]; omega
          · obtain rfl : k = t.size := by omega
            have HN := Lib.hid (show true = C from by have := HALL.out; rw [List.take_of_length_le (by rw [HL.out]; exact Nat.le_refl _), HC.out] at this; exact this.symm)
            go_wp2_with fail
            go_returns
            exact ⟨by rw [← HN.out]; rfl, hw⟩
      · have hlow : lowB c = false := by simpa using hlow
        rw [isFeat_first hh hlow]
        unfold lowB at hlow
        by_cases h97 : 97 ≤ c.toNat
        · have h122 : ¬ c.toNat ≤ 122 := fun h => by rw [decide_eq_true h97, decide_eq_true h] at hlow; cases hlow
          have g5 : decide ((c.toNat : Int) < 97) = false := decide_eq_false (by omega)
          have g6 : decide (c.toNat < 97) = false := decide_eq_false (by omega)
          have g7 : decide ((122 : Int) < (c.toNat : Int)) = true := decide_eq_true (by omega)
          have g8 : decide (122 < c.toNat) = true := decide_eq_true (by omega)
          clear hlow hcc hh hl h97 h122
          go_enter Try.func69, Try.ntmps69
          go_wp2
          go_returns
          exact ⟨rfl, hw⟩
        · have g5 : decide ((c.toNat : Int) < 97) = true := decide_eq_true (by omega)
          have g6 : decide (c.toNat < 97) = true := decide_eq_true (by omega)
          clear hlow hcc hh hl h97
          go_enter Try.func69, Try.ntmps69
          go_wp2
          go_returns
          exact ⟨rfl, hw⟩
    · rw [isFeat_long h1]
      have g3 : decide ((16 : Int) < (t.size : Int)) = true := decide_eq_true (by omega)
      have g4 : decide (16 < t.size) = true := decide_eq_true (by omega)
      clear h1 h0 h0'
      go_enter Try.func69, Try.ntmps69
      go_wp2
      go_returns
      exact ⟨rfl, hw⟩
theorem isSym_short {t : ByteArray} (h : t.size = 0) : isSym t = false := by unfold isSym; rw [cons_none h]
theorem isSym_long {t : ByteArray} (h : ¬ t.size ≤ 4) : isSym t = false := by unfold isSym; rw [cons_long h]
set_option maxRecDepth 100000 in
set_option maxHeartbeats 4000000 in
theorem rIsSym_any (t : ByteArray) (ht : t.size ≤ 9223372036854775807) (w : World) : Gives 48 #[.string t] w (.bool (isSym t)) := by
  unfold Gives
  have hw := Below.refl w.heap.size w
  by_cases h0 : t.size = 0
  · rw [isSym_short h0]
    have g1 : decide ((t.size : Int) < 1) = true := decide_eq_true (by omega)
    have g2 : decide (t.size < 1) = true := decide_eq_true (by omega)
    clear h0
    go_enter Try.func48, Try.ntmps48
    go_wp2
    go_returns
    exact ⟨rfl, hw⟩
  · have g1 : decide ((t.size : Int) < 1) = false := decide_eq_false (by omega)
    have g2 : decide (t.size < 1) = false := decide_eq_false (by omega)
    have h0' : 0 < t.size := by omega
    by_cases h1 : t.size ≤ 4
    · have g3 : decide ((4 : Int) < (t.size : Int)) = false := decide_eq_false (by omega)
      have g4 : decide (4 < t.size) = false := decide_eq_false (by omega)
      have hF := isSym_of h0' h1
      rw [hF]
      generalize hC : t.data.toList.all (fun c => letB c || bigB c) = C
      have hno : ∀ k (hk : k < t.data.toList.length), (letB (t.data.toList[k]) || bigB (t.data.toList[k])) = false → false = C := fun k hk h => by
        rw [← hC]; symm
        rw [List.all_eq_false]
        exact ⟨_, List.getElem_mem hk, by rw [h]; decide⟩
      have hL : t.data.toList.length = t.size := by rw [Array.length_toList]; rfl
      have HNO := Lib.hid hno; have HL := Lib.hid hL; have HC := Lib.hid hC
      clear hno hL hC hF
      go_enter Try.func48, Try.ntmps48
      go_wp2_with fail
      go_loopw [3] (fun i wr => ∃ k : Nat, k ≤ t.size ∧ i = .int .i64 (k : Int) ∧ ((t.data.toList).take k).all (fun c => letB c || bigB c) = true ∧ w = wr) (fun i _ => t.size - (intOf i).toNat)
      case atStart => exact ⟨0, by omega, rfl, by simp, rfl⟩
      case round =>
        obtain ⟨k, hk, rfl, hall, rfl⟩ := hrel
        have HALL := Lib.hid hall
        clear hall
        by_cases hlt : k < t.size
        · have hkl : k < t.data.toList.length := by rw [HL.out]; exact hlt
          obtain ⟨d, hd⟩ : ∃ d, t.data.toList[k] = d := ⟨_, rfl⟩
          have hb : ∀ h, t[k]'h = d := by intro h; exact hd
          have hlet := letter_any d w
          have hbig := big_any d w
          have hnn := fun h => HNO.out k hkl h
          have hyy := fun h => all_take (p := fun c => letB c || bigB c) hkl HALL.out h
          rw [hd] at hnn hyy
          generalize letB d = x1 at *
          generalize bigB d = x2 at *
          have HM := Lib.hid hlet; have HG := Lib.hid hbig; have HN := Lib.hid hnn; have HY := Lib.hid hyy
          clear hlet hbig hd hkl hnn hyy
          cases x1
          · cases x2
            · go_wp2_with (first | (go_at_call 72; (with_reducible refine HM.out.mono ?_); rintro e w1 ⟨rfl, rfl⟩) | (go_at_call 73; (with_reducible refine HG.out.mono ?_); rintro e w1 ⟨rfl, rfl⟩))
              go_returns
              exact ⟨by rw [← HN.out rfl]; rfl, hw⟩
            · go_wp2_with (first | (go_at_call 72; (with_reducible refine HM.out.mono ?_); rintro e w1 ⟨rfl, rfl⟩) | (go_at_call 73; (with_reducible refine HG.out.mono ?_); rintro e w1 ⟨rfl, rfl⟩))
              go_roundw
              case rel => exact ⟨k + 1, by omega, by go_num, HY.out rfl, by trivial⟩
              case measure => simp [intOf]; omega
          · go_wp2_with (first | (go_at_call 72; (with_reducible refine HM.out.mono ?_); rintro e w1 ⟨rfl, rfl⟩) | (go_at_call 73; (with_reducible refine HG.out.mono ?_); rintro e w1 ⟨rfl, rfl⟩))
            go_roundw
            case rel => exact ⟨k + 1, by omega, by go_num, HY.out rfl, by trivial⟩
            case measure => simp [intOf]; omega
        · obtain rfl : k = t.size := by omega
          have HN := Lib.hid (show true = C from by have := HALL.out; rw [List.take_of_length_le (by rw [HL.out]; exact Nat.le_refl _), HC.out] at this; exact this.symm)
          go_wp2_with fail
          go_returns
          exact ⟨by rw [← HN.out]; rfl, hw⟩
    · rw [isSym_long h1]
      have g3 : decide ((4 : Int) < (t.size : Int)) = true := decide_eq_true (by omega)
      have g4 : decide (4 < t.size) = true := decide_eq_true (by omega)
      clear h1 h0 h0'
      go_enter Try.func48, Try.ntmps48
      go_wp2
      go_returns
      exact ⟨rfl, hw⟩
end Go.Proofs.Ytmgikhldkebjbaa

/-
  The specification's New: the inventory, or the same error.
-/
namespace Go.Proofs.Ytmgikhldkebjbaa
open Go.RowKit Go.Sort
theorem below_drewN {B : Nat} {a w : World} (h : Below B a w) (q : Nat) : Below B a (w.drewN q) := ⟨h.os, h.tape, h.output, h.size, h.block⟩
theorem toList_beq (x y : ByteArray) : (x.toList == y.toList) = decide (x = y) := by
  rw [Bool.eq_iff_iff, beq_iff_eq, decide_eq_true_iff, Lib.toList_data, Lib.toList_data]
  constructor
  · intro h
    cases x; cases y
    simp only at h
    rw [Array.toList_inj.1 h]
  · rintro rfl; rfl
/-- Two of the first n names are equal. -/
def Dup (l : List ByteArray) (n : Nat) : Prop := ∃ i j, j < i ∧ i < n ∧ ∃ x, l[i]? = some x ∧ l[j]? = some x
open Classical in
theorem put_len {k : ByteArray} {v : Value} : ∀ (l : List (ByteArray × Value)), (put k v l).length = if (∃ u, (k, u) ∈ l) then l.length else l.length + 1
  | [] => by simp [put]
  | y :: l => by
    have ih := put_len (k := k) (v := v) l
    unfold put
    by_cases h : k = y.1
    · rw [if_pos h, if_pos ⟨y.2, by rw [h]; simp⟩]; rfl
    · rw [if_neg h, List.length_cons, ih]
      have e : (∃ u, (k, u) ∈ y :: l) ↔ ∃ u, (k, u) ∈ l := by
        constructor
        · rintro ⟨u, hu⟩
          rcases List.mem_cons.1 hu with hu | hu
          · exact absurd (by rw [← hu]) h
          · exact ⟨u, hu⟩
        · rintro ⟨u, hu⟩
          exact ⟨u, List.mem_cons_of_mem _ hu⟩
      by_cases h2 : ∃ u, (k, u) ∈ l
      · rw [if_pos h2, if_pos (e.2 h2)]; rfl
      · rw [if_neg h2, if_neg (fun h3 => h2 (e.1 h3))]; rfl
theorem put_keys {k x : ByteArray} {v : Value} : ∀ (l : List (ByteArray × Value)), (∃ u, (x, u) ∈ put k v l) ↔ x = k ∨ ∃ u, (x, u) ∈ l
  | [] => by simp [put]
  | y :: l => by
    have ih := put_keys (k := k) (x := x) (v := v) l
    unfold put
    by_cases h : k = y.1
    · rw [if_pos h]
      constructor
      · rintro ⟨u, hu⟩
        rcases List.mem_cons.1 hu with hu | hu
        · cases hu; exact .inl rfl
        · exact .inr ⟨u, List.mem_cons_of_mem _ hu⟩
      · rintro (rfl | ⟨u, hu⟩)
        · exact ⟨v, by simp⟩
        · rcases List.mem_cons.1 hu with hu | hu
          · exact ⟨v, by rw [h, ← hu]; simp⟩
          · exact ⟨u, List.mem_cons_of_mem _ hu⟩
    · rw [if_neg h]
      constructor
      · rintro ⟨u, hu⟩
        rcases List.mem_cons.1 hu with hu | hu
        · exact .inr ⟨u, by rw [hu]; simp⟩
        · rcases ih.1 ⟨u, hu⟩ with h2 | ⟨u2, h2⟩
          · exact .inl h2
          · exact .inr ⟨u2, List.mem_cons_of_mem _ h2⟩
      · rintro (h2 | ⟨u, hu⟩)
        · obtain ⟨u2, h3⟩ := ih.2 (.inl h2)
          exact ⟨u2, List.mem_cons_of_mem _ h3⟩
        · rcases List.mem_cons.1 hu with hu | hu
          · exact ⟨u, by rw [← hu]; simp⟩
          · obtain ⟨u2, h3⟩ := ih.2 (.inr ⟨u, hu⟩)
            exact ⟨u2, List.mem_cons_of_mem _ h3⟩
theorem numT_keys {l : List ByteArray} {x : ByteArray} : ∀ n, n ≤ l.length → ((∃ u, (x, u) ∈ numT l n) ↔ ∃ j, j < n ∧ l[j]? = some x)
  | 0, _ => by simp [numT]
  | n + 1, h => by
    have ih := numT_keys (l := l) (x := x) n (by omega)
    rw [numT_succ (by omega), put_keys, ih]
    constructor
    · rintro (h2 | ⟨j, hj, e⟩)
      · exact ⟨n, by omega, by rw [List.getElem?_eq_getElem (by omega), h2]⟩
      · exact ⟨j, by omega, e⟩
    · rintro ⟨j, hj, e⟩
      by_cases h3 : j = n
      · subst h3
        rw [List.getElem?_eq_getElem (by omega), Option.some.injEq] at e
        exact .inl e.symm
      · exact .inr ⟨j, by omega, e⟩
theorem numT_le {l : List ByteArray} : ∀ n, n ≤ l.length → (numT l n).length ≤ n
  | 0, _ => by simp [numT]
  | n + 1, h => by
    have ih := numT_le (l := l) n (by omega)
    rw [numT_succ (by omega), put_len]
    split <;> omega
theorem numT_dup {l : List ByteArray} : ∀ n, n ≤ l.length → ((numT l n).length < n ↔ Dup l n)
  | 0, _ => by
    constructor
    · intro h; omega
    · rintro ⟨i, j, h1, h2, _⟩; omega
  | n + 1, h => by
    have ih := numT_dup (l := l) n (by omega)
    have hle := numT_le (l := l) n (by omega)
    have hk := numT_keys (l := l) (x := l[n]) n (by omega)
    rw [numT_succ (by omega), put_len]
    constructor
    · intro h1
      split at h1
      · rename_i h2
        obtain ⟨j, hj, e⟩ := hk.1 h2
        exact ⟨n, j, hj, by omega, l[n], List.getElem?_eq_getElem (by omega), e⟩
      · obtain ⟨i, j, a, b, c⟩ := ih.1 (by omega)
        exact ⟨i, j, a, by omega, c⟩
    · rintro ⟨i, j, a, b, x, c, d⟩
      by_cases e : i = n
      · subst e
        rw [List.getElem?_eq_getElem (by omega), Option.some.injEq] at c
        rw [if_pos (hk.2 ⟨j, a, by rw [d, c]⟩)]
        omega
      · have := ih.2 ⟨i, j, a, by omega, x, c, d⟩
        split <;> omega
theorem newE_dup {l : List ByteArray} (h24 : l.length ≤ 24) (h : l.all isFeat = true) (hd : Dup l l.length) : newE l = 6 := by
  unfold newE
  rw [if_neg (by omega), if_pos h, if_pos ((numT_dup l.length (Nat.le_refl _)).2 hd)]
theorem newE_ok {l : List ByteArray} (h24 : l.length ≤ 24) (h : l.all isFeat = true) (hd : ¬ Dup l l.length) : newE l = 0 := by
  unfold newE
  rw [if_neg (by omega), if_pos h, if_neg (fun e => hd ((numT_dup l.length (Nat.le_refl _)).1 e))]
theorem newE_name {l : List ByteArray} (h24 : l.length ≤ 24) (h : l.all isFeat = false) : newE l = 15 := by
  unfold newE
  rw [if_neg (by omega), if_neg (by simp [h])]
/-- The specification's inventory to which nothing was added. -/
def RNew (w : World) (base R : Nat) (l : List ByteArray) : Prop := ∃ nv, w.heap[R]? = some (.cells #[.bool true, nv, .slice none 0 0] 85 (0, 0)) ∧ OwnS w base nv l ∧ base ≤ R
end Go.Proofs.Ytmgikhldkebjbaa

/-
  The specification's New: the walk.
-/
namespace Go.Proofs.Ytmgikhldkebjbaa
open Go.RowKit Go.Sort
theorem rnew_made {w2 : World} {base : Nat} {v : Value} {l : List ByteArray} (ho : OwnS w2 base v l) (h2 : base ≤ w2.heap.size) :
    RNew (w2.alloc (.cells #[.bool true, v, .slice none 0 0] 85)) base w2.heap.size l :=
  ⟨v, World.alloc_heap_new w2 _, ho.below ((Below.refl _ w2).alloc (Nat.le_refl _) _), h2⟩
set_option maxRecDepth 100000 in
set_option maxHeartbeats 8000000 in
theorem rnew_any (l : List ByteArray) (v : Value) (w : World) (hx : ∀ x ∈ l, x.size ≤ 9223372036854775807) (h : Ss w v l) : Calls Try.prog 43 #[v] w fun e w' => Below w.heap.size w w' ∧ ((newE l ≠ 0 ∧ e = .returned (.tuple #[.pointer none, .int .i64 (newE l)])) ∨ (newE l = 0 ∧ ∃ R, e = .returned (.tuple #[.pointer (some ⟨R, 0, none⟩), .int .i64 0]) ∧ RNew w' w.heap.size R l)) := by
  have DL := Lib.hid h
  obtain ⟨ao, cap, rfl, c1, m1, H1⟩ := h.open
  have HX := Lib.hid hx
  clear h hx
  have H1 := Lib.hid H1
  have l1 : l.length ≤ 9223372036854775807 := Nat.le_trans c1 m1
  clear c1 m1
  obtain ⟨n, hn⟩ : ∃ n, l.length = n := ⟨_, rfl⟩
  have HN := Lib.hid hn
  have DL : Hid (Ss w (.slice ao n cap) l) := Lib.hid (by rw [← hn]; exact DL.out)
  have hE12 : 24 < n → newE l = 12 := fun h => by rw [newE, hn, if_pos h]
  have hE15 : n ≤ 24 → l.all isFeat = false → newE l = 15 := fun h1 h2 => newE_name (by omega) h2
  have hE6 : n ≤ 24 → l.all isFeat = true → Dup l n → newE l = 6 := fun h1 h2 h3 => newE_dup (by omega) h2 (by rw [hn]; exact h3)
  have hE0 : n ≤ 24 → l.all isFeat = true → ¬ Dup l n → newE l = 0 := fun h1 h2 h3 => newE_ok (by omega) h2 (by rw [hn]; exact h3)
  rw [hn] at l1 ⊢
  generalize newE l = E at *
  have HE12 := Lib.hid hE12; have HE15 := Lib.hid hE15; have HE6 := Lib.hid hE6; have HE0 := Lib.hid hE0
  clear hn hE12 hE15 hE6 hE0
  by_cases h24 : n ≤ 24
  · go_enter Try.func43, Try.ntmps43
    go_wp2_with fail
    go_loopw [4] (fun i wr => ∃ k : Nat, k ≤ n ∧ i = .int .i64 (k : Int) ∧ (∀ j (hj : j < l.length), j < k → isFeat l[j] = true) ∧ Below w.heap.size w wr) (fun i _ => n - (intOf i).toNat)
    case atStart => exact ⟨0, by omega, rfl, fun j _ hj => by omega, Below.refl _ _⟩
    case round =>
      obtain ⟨k, hk, rfl, hall, hw⟩ := hrel
      have HALL := Lib.hid hall
      clear hall
      by_cases hlt : k < n
      · have hkl : k < l.length := by rw [HN.out]; exact hlt
        obtain ⟨b, off, rfl, lb, d0⟩ := H1.out k hkl
        have d0 := (hw.cell (p := ⟨b, off + k, none⟩) lb).trans d0
        have hF := rIsFeat_any l[k] (HX.out _ (List.getElem_mem hkl)) wr
        have hmore : isFeat l[k] = true → ∀ j (hj : j < l.length), j < k + 1 → isFeat l[j] = true := fun h j hj hjk => by
          by_cases e : j = k
          · subst e; exact h
          · exact HALL.out j hj (by omega)
        have hno := fun h => all_no (p := isFeat) hkl h
        have HM := Lib.hid hmore; have HNO := Lib.hid hno
        clear hmore hno H1
        generalize l[k] = x at *
        rcases hf : isFeat x with _ | _
        · rw [hf] at hF
          have HF := Lib.hid hF
          have he := HE15.out h24 (HNO.out hf)
          have HE := Lib.hid he
          clear hF hf he HM HNO
          go_wp2_with (go_at_call 69; (with_reducible refine Gives.then HF.out ?_); intro w1 hb; have hw := hw.trans (hb.mono hw.size); clear hb)
          go_ret2
          exact ⟨hw, .inl ⟨by rw [HE.out]; decide, by rw [HE.out]; rfl⟩⟩
        · rw [hf] at hF
          have HF := Lib.hid hF
          have HM := Lib.hid (HM.out hf)
          clear hF hf HNO
          go_wp2_with (go_at_call 69; (with_reducible refine Gives.then HF.out ?_); intro w1 hb; have hw := hw.trans (hb.mono hw.size); clear hb)
          go_roundw
          case rel => exact ⟨k + 1, by omega, by go_num, HM.out, hw⟩
          case measure => simp [intOf]; omega
      · obtain rfl : k = n := by omega
        have hA : l.all isFeat = true := all_upto fun j hj hj2 => HALL.out j hj (by rw [← HN.out]; exact hj)
        have HA := Lib.hid hA
        have HW := Lib.hid hw
        clear hA HALL hw hlt
        go_wp2_with fail
        go_loopw [5] (fun i w2 => ∃ k2 : Nat, k2 ≤ k ∧ i = .int .i64 (k2 : Int) ∧ (∀ i j, j < i → i < k2 → ¬ ∃ x, l[i]? = some x ∧ l[j]? = some x) ∧ Below w.heap.size w w2) (fun i _ => k - (intOf i).toNat)
        case atStart => exact ⟨0, by omega, rfl, fun i j _ hi => by omega, HW.out⟩
        case round =>
          obtain ⟨q, hq, rfl, hnd, hw⟩ := hrel
          have HND := Lib.hid hnd
          clear hnd
          by_cases hlt : q < k
          · go_wp2_with fail
            go_loopw [6] (fun i w3 => ∃ k3 : Nat, k3 ≤ q ∧ i = .int .i64 (k3 : Int) ∧ (∀ j, j < k3 → ¬ ∃ x, l[q]? = some x ∧ l[j]? = some x) ∧ Below w.heap.size w w3) (fun i _ => q - (intOf i).toNat)
            case atStart => exact ⟨0, by omega, rfl, fun j hj => by omega, hw⟩
            case round =>
              obtain ⟨r, hr, rfl, hnd2, hw⟩ := hrel
              have HND2 := Lib.hid hnd2
              clear hnd2
              by_cases hlt2 : r < q
              · have hql : q < l.length := by rw [HN.out]; exact hlt
                have hrl : r < l.length := by omega
                obtain ⟨b, off, hao, lb, d0⟩ := H1.out q hql
                obtain ⟨b', off', hao', lb', d1⟩ := H1.out r hrl
                subst hao
                cases hao'
                have d0 := (hw.cell (p := ⟨b, off + q, none⟩) lb).trans d0
                have d1 := (hw.cell (p := ⟨b, off + r, none⟩) lb).trans d1
                have hsame : l[q] = l[r] → Dup l k := fun e => ⟨q, r, hlt2, hlt, l[q], List.getElem?_eq_getElem hql, by rw [e]; exact List.getElem?_eq_getElem hrl⟩
                have hdiff : ¬ l[q] = l[r] → ∀ j, j < r + 1 → ¬ ∃ x, l[q]? = some x ∧ l[j]? = some x := fun e j hj => by
                  by_cases h2 : j = r
                  · subst h2
                    rintro ⟨x, e1, e2⟩
                    rw [List.getElem?_eq_getElem hql, Option.some.injEq] at e1
                    rw [List.getElem?_eq_getElem hrl, Option.some.injEq] at e2
                    exact e (e1.trans e2.symm)
                  · exact HND2.out j (by omega)
                have HSM := Lib.hid hsame; have HDF := Lib.hid hdiff
                have HW3 := Lib.hid hw
                clear hsame hdiff H1 DL HND2 hw
                generalize l[q] = x at *
                generalize l[r] = y at *
                by_cases hxy : x = y
                · have HE := Lib.hid (HE6.out h24 HA.out (HSM.out hxy))
                  subst hxy
                  clear HSM HDF
                  go_wp2_with fail
                  go_quiet (fail)
                  have HW4 := Lib.hid (below_drewN HW3.out nq)
                  clear HW3 d0 d1
                  generalize wr.drewN nq = wd at *
                  go_wp2_with fail
                  go_ret2
                  exact ⟨HW4.out, .inl ⟨by rw [HE.out]; decide, by rw [HE.out]; rfl⟩⟩
                · have HD := Lib.hid (HDF.out hxy)
                  have e1 : (x == y) = false := by rw [beq_bytes]; exact decide_eq_false hxy
                  have e2 : (x.toList == y.toList) = false := by rw [toList_beq]; exact decide_eq_false hxy
                  clear HSM HDF hxy
                  go_wp2_with fail
                  go_quiet (fail)
                  have HW4 := Lib.hid (below_drewN HW3.out nq)
                  clear HW3 d0 d1
                  generalize wr.drewN nq = wd at *
                  go_wp2_with fail
                  go_roundw
                  case rel => exact ⟨r + 1, by omega, by go_num, HD.out, HW4.out⟩
                  case measure => simp [intOf]; omega
              · obtain rfl : r = q := by omega
                go_wp2_with fail
                go_roundw
                case rel => exact ⟨r + 1, by omega, by go_num, fun i j hj hi => by
                  by_cases e : i = r
                  · subst e; exact HND2.out j hj
                  · exact HND.out i j hj (by omega), hw⟩
                case measure => simp [intOf]; omega
          · obtain rfl : q = k := by omega
            have HE := Lib.hid (HE0.out h24 HA.out (fun ⟨i, j, h1, h2, h3⟩ => HND.out i j h1 h2 h3))
            have HW5 := Lib.hid hw
            have hsz := hw.size
            have HO := Lib.hid ((OwnS.empty wr).mono hsz)
            have HD5 := Lib.hid (DL.out.below (hw.alloc hsz (.cells #[] 9)))
            have hlq : l.length ≤ 24 := by have := HN.out; omega
            clear HND hlt hw DL H1
            go_wp2_with (at_builtin; refine wpList_appS rfl (.tmp 42) (.tmp 43) rfl w.heap.size _ _ [] l rfl rfl HO.out HD5.out (by simp; omega) (by go_size) ?_; intro v' w2 ho2 hk2 hz2; have ho2 : OwnS w2 w.heap.size v' l := ho2; obtain ⟨a2, c2, hv2, -, -, -⟩ := ho2.ss.open; subst hv2; have HO2 := Lib.hid ho2; have HK2 := Lib.hid hk2; have hzz := hz2; clear ho2 hk2 hz2)
            go_ret2
            have hw6 := HK2.out _ _ (Nat.le_refl _) (HW5.out.alloc hsz (.cells #[] 9))
            exact ⟨hw6.alloc hw6.size _, .inr ⟨HE.out, w2.heap.size, rfl, rnew_made HO2.out hw6.size⟩⟩
  · have HE := Lib.hid (HE12.out (by omega))
    have hw := Below.refl w.heap.size w
    go_enter Try.func43, Try.ntmps43
    go_wp2_with fail
    go_ret2
    exact ⟨hw, .inl ⟨by rw [HE.out]; decide, by rw [HE.out]; rfl⟩⟩
end Go.Proofs.Ytmgikhldkebjbaa

/-
  few: whether names and texts are looked at.
-/
namespace Go.Proofs.Ytmgikhldkebjbaa
open Go.RowKit Go.Sort
def sumZ (l : List ByteArray) : Nat := (l.map ByteArray.size).sum
theorem sumZ_take {l : List ByteArray} {k : Nat} (h : k < l.length) : sumZ (l.take (k + 1)) = sumZ (l.take k) + l[k].size := by
  unfold sumZ
  rw [List.take_succ_eq_append_getElem h, List.map_append, List.sum_append]
  simp
theorem sumZ_le {l : List ByteArray} {M : Nat} (h : ∀ x ∈ l, x.size ≤ M) : sumZ l ≤ l.length * M := by
  induction l with
  | nil => simp [sumZ]
  | cons x l ih =>
    have h1 := ih (fun y hy => h y (by simp [hy]))
    have h2 := h x (by simp)
    unfold sumZ at *
    simp only [List.map_cons, List.sum_cons, List.length_cons, Nat.add_mul, Nat.one_mul]
    omega
/-- Whether names and texts are looked at. -/
def fewB (l m : List ByteArray) : Bool := decide (l.length ≤ 100) && decide (sumZ l + sumZ m ≤ 4000)
/-- A sum that counts while there are few of them. -/
def Sum (b : Bool) (n : Nat) (v : Value) : Prop := ∃ z : Int, v = .int .i64 z ∧ (b = true → z = (n : Int))
theorem wrap64_in {n : Int} (h : -9223372036854775808 ≤ n ∧ n ≤ 9223372036854775807) : wrap64 n = n := by unfold wrap64; omega
theorem Sum.step {b : Bool} {n k : Nat} {z : Int} (h : b = true → z = (n : Int)) (hb : b = true → n + k ≤ 9223372036854775807) : Sum b (n + k) (.int .i64 (wrap64 (z + (k : Int)))) :=
  ⟨_, rfl, fun hh => by rw [h hh, wrap64_in (by have := hb hh; omega)]; omega⟩
set_option maxRecDepth 100000 in
set_option maxHeartbeats 4000000 in
theorem few_any (l m : List ByteArray) (v u : Value) (w : World) (hv : Ss w v l) (hu : Ss w u m) (hl : ∀ x ∈ l, x.size ≤ 140737488355328) (hm : ∀ x ∈ m, x.size ≤ 140737488355328) (hm1 : m.length ≤ 10) : Gives 13 #[v, u] w (.bool (fewB l m)) := by
  unfold Gives
  obtain ⟨ao, cap, rfl, c1, m1, H1⟩ := hv.open
  obtain ⟨bo, cap', rfl, c1', m1', H1'⟩ := hu.open
  unfold maxLen at m1 m1'
  have hB : decide (l.length ≤ 100) = true → sumZ l ≤ 14073748835532800 := fun h => by
    have := sumZ_le hl
    have h2 : l.length ≤ 100 := of_decide_eq_true h
    have h3 : l.length * 140737488355328 ≤ 100 * 140737488355328 := Nat.mul_le_mul_right _ h2
    omega
  have hBk : ∀ k, k < l.length → decide (l.length ≤ 100) = true → sumZ (l.take k) + (l[k]?.getD ⟨#[]⟩).size ≤ 9223372036854775807 := fun k hk h => by
    have e := sumZ_take hk
    have h4 := sumZ_le (l := l.take (k + 1)) (fun x hx => hl x (List.mem_of_mem_take hx))
    rw [List.length_take] at h4
    have h2 : l.length ≤ 100 := of_decide_eq_true h
    have h3 : min (k + 1) l.length * 140737488355328 ≤ 100 * 140737488355328 := Nat.mul_le_mul_right _ (by omega)
    rw [List.getElem?_eq_getElem hk, Option.getD_some]
    omega
  have hBm : ∀ k, k < m.length → decide (l.length ≤ 100) = true → sumZ l + sumZ (m.take k) + (m[k]?.getD ⟨#[]⟩).size ≤ 9223372036854775807 := fun k hk h => by
    have e := sumZ_take hk
    have h4 := sumZ_le (l := m.take (k + 1)) (fun x hx => hm x (List.mem_of_mem_take hx))
    rw [List.length_take] at h4
    have h3 : min (k + 1) m.length * 140737488355328 ≤ 10 * 140737488355328 := Nat.mul_le_mul_right _ (by omega)
    have := hB h
    rw [List.getElem?_eq_getElem hk, Option.getD_some]
    omega
  have HL := Lib.hid H1; have HM := Lib.hid H1'; have HBK := Lib.hid hBk; have HBM := Lib.hid hBm
  have hBf := hB
  have HBF := Lib.hid hBf
  clear H1 H1' hBk hBm hB hBf hl hm hm1 hv hu
  generalize hbb : decide (l.length ≤ 100) = b at *
  have HBB := Lib.hid hbb
  obtain ⟨F, hF⟩ : ∃ F, fewB l m = F := ⟨_, rfl⟩
  rw [hF]
  have HF := Lib.hid hF
  clear hF
  have l1 : l.length ≤ 9223372036854775807 := by omega
  have l2 : m.length ≤ 9223372036854775807 := by omega
  clear hbb
  go_enter Try.func13, Try.ntmps13
  go_wp2_with fail
  go_loop [5, 12] (fun n i => ∃ k : Nat, k ≤ l.length ∧ i = .int .i64 (k : Int) ∧ Sum b (sumZ (l.take k)) n) (fun _ i => l.length - (intOf i).toNat)
  case atStart => exact ⟨0, Nat.zero_le _, rfl, 0, rfl, fun _ => rfl⟩
  case round =>
    obtain ⟨k, hk, rfl, z, rfl, hz⟩ := hrel
    have HZ := Lib.hid hz
    clear hz
    by_cases hlt : k < l.length
    · obtain ⟨B, off, rfl, lb, d0⟩ := HL.out k hlt
      have hstep := Sum.step (k := (l[k]?.getD ⟨#[]⟩).size) HZ.out (HBK.out k hlt)
      have htk := sumZ_take hlt
      rw [List.getElem?_eq_getElem hlt, Option.getD_some] at hstep
      rw [← htk] at hstep
      have HS := Lib.hid hstep
      clear hstep htk HL
      generalize l[k] = x at *
      go_wp2_with fail
      go_round
      case rel => exact ⟨k + 1, by omega, by go_num, HS.out⟩
      case measure => simp [intOf]; omega
    · obtain rfl : k = l.length := by omega
      rw [List.take_length] at HZ
      go_wp2_with fail
      go_loop [5, 23] (fun n i => ∃ k : Nat, k ≤ m.length ∧ i = .int .i64 (k : Int) ∧ Sum b (sumZ l + sumZ (m.take k)) n) (fun _ i => m.length - (intOf i).toNat)
      case atStart => exact ⟨0, Nat.zero_le _, rfl, z, rfl, fun h => by rw [HZ.out h]; simp [sumZ]⟩
      case round =>
        obtain ⟨k, hk, rfl, z, rfl, hz⟩ := hrel
        have HZ := Lib.hid hz
        clear hz
        by_cases hlt : k < m.length
        · obtain ⟨B, off, rfl, lb, d0⟩ := HM.out k hlt
          have hstep := Sum.step (k := (m[k]?.getD ⟨#[]⟩).size) HZ.out (HBM.out k hlt)
          have htk := sumZ_take hlt
          rw [List.getElem?_eq_getElem hlt, Option.getD_some] at hstep
          rw [Nat.add_assoc, ← htk] at hstep
          have HS := Lib.hid hstep
          clear hstep htk HM
          generalize m[k] = x at *
          go_wp2_with fail
          go_round
          case rel => exact ⟨k + 1, by omega, by go_num, HS.out⟩
          case measure => simp [intOf]; omega
        · obtain rfl : k = m.length := by omega
          rw [List.take_length] at HZ
          have hres : fewB l m = (b && decide (z ≤ 4000)) := by
            unfold fewB
            rw [HBB.out]
            cases hb : b
            · rfl
            · rw [HZ.out hb, Bool.true_and, Bool.true_and, Bool.eq_iff_iff, decide_eq_true_iff, decide_eq_true_iff]; omega
          rw [HF.out] at hres
          have HR := Lib.hid hres
          have g1 : decide ((l.length : Int) ≤ 100) = b := by rw [← HBB.out, Bool.eq_iff_iff, decide_eq_true_iff, decide_eq_true_iff]; omega
          have g2 : decide (l.length ≤ 100) = b := HBB.out
          clear hres
          cases b
          · go_wp2_with fail
            go_returns
            exact ⟨by rw [HR.out]; rfl, Below.refl _ _⟩
          · go_wp2_with fail
            go_returns
            exact ⟨by rw [HR.out]; simp, Below.refl _ _⟩
/-- A call that answers yes or no and changes nothing; yes only if n is at most 100. -/
def SomeB (n : Nat) (w : World) (e : Ending) (w' : World) : Prop := ∃ b : Bool, e = .returned (.bool b) ∧ (b = true → n ≤ 100) ∧ Below w.heap.size w w'
set_option maxRecDepth 100000 in
set_option maxHeartbeats 4000000 in
/-- few, whatever the sizes are (their sum may pass over the edge of int): it answers yes or no. -/
theorem few_some (l m : List ByteArray) (v u : Value) (w : World) (hv : Ss w v l) (hu : Ss w u m) (hl : ∀ x ∈ l, x.size ≤ maxLen) (hm : ∀ x ∈ m, x.size ≤ maxLen) : Calls Try.prog 13 #[v, u] w (SomeB l.length w) := by
  obtain ⟨ao, cap, rfl, c1, m1, H1⟩ := hv.open
  obtain ⟨bo, cap', rfl, c1', m1', H1'⟩ := hu.open
  unfold maxLen at m1 m1' hl hm
  have HL := Lib.hid H1; have HM := Lib.hid H1'; have HA := Lib.hid hl; have HB := Lib.hid hm
  have l1 : l.length ≤ 9223372036854775807 := by omega
  have l2 : m.length ≤ 9223372036854775807 := by omega
  clear H1 H1' hl hm hv hu
  go_enter Try.func13, Try.ntmps13
  go_wp2_with fail
  go_loop [5, 12] (fun n i => ∃ k : Nat, k ≤ l.length ∧ i = .int .i64 (k : Int) ∧ ∃ z : Int, n = .int .i64 z) (fun _ i => l.length - (intOf i).toNat)
  case atStart => exact ⟨0, Nat.zero_le _, rfl, 0, rfl⟩
  case round =>
    obtain ⟨k, hk, rfl, z, rfl⟩ := hrel
    by_cases hlt : k < l.length
    · obtain ⟨B, off, rfl, lb, d0⟩ := HL.out k hlt
      have hsz := HA.out l[k] (List.getElem_mem hlt)
      clear HL
      generalize l[k] = x at *
      go_wp2_with fail
      go_round
      case rel => exact ⟨k + 1, by omega, by go_num, _, rfl⟩
      case measure => simp [intOf]; omega
    · obtain rfl : k = l.length := by omega
      go_wp2_with fail
      go_loop [5, 23] (fun n i => ∃ k : Nat, k ≤ m.length ∧ i = .int .i64 (k : Int) ∧ ∃ z : Int, n = .int .i64 z) (fun _ i => m.length - (intOf i).toNat)
      case atStart => exact ⟨0, Nat.zero_le _, rfl, z, rfl⟩
      case round =>
        obtain ⟨k, hk, rfl, z, rfl⟩ := hrel
        by_cases hlt : k < m.length
        · obtain ⟨B, off, rfl, lb, d0⟩ := HM.out k hlt
          have hsz := HB.out m[k] (List.getElem_mem hlt)
          clear HM
          generalize m[k] = x at *
          go_wp2_with fail
          go_round
          case rel => exact ⟨k + 1, by omega, by go_num, _, rfl⟩
          case measure => simp [intOf]; omega
        · obtain rfl : k = m.length := by omega
          by_cases h1 : l.length ≤ 100
          · have g1 : decide ((l.length : Int) ≤ 100) = true := decide_eq_true (by omega)
            have g2 : decide (l.length ≤ 100) = true := decide_eq_true h1
            by_cases h2 : z ≤ 4000
            · have g3 : decide (z ≤ 4000) = true := decide_eq_true h2
              clear h2
              go_wp2_with fail
              go_returns
              exact ⟨_, rfl, fun _ => h1, Below.refl _ _⟩
            · have g3 : decide (z ≤ 4000) = false := decide_eq_false h2
              clear h2
              go_wp2_with fail
              go_returns
              exact ⟨_, rfl, fun _ => h1, Below.refl _ _⟩
          · have g1 : decide ((l.length : Int) ≤ 100) = false := decide_eq_false (by omega)
            have g2 : decide (l.length ≤ 100) = false := decide_eq_false h1
            go_wp2_with fail
            go_returns
            exact ⟨_, rfl, (fun h => absurd h (by decide)), Below.refl _ _⟩
end Go.Proofs.Ytmgikhldkebjbaa

/-
  The specification's inventory in memory; both: an inventory of the program and one of the specification.
-/
namespace Go.Proofs.Ytmgikhldkebjbaa
open Go.RowKit Go.Sort
/-- The specification's inventory with these features, and these sounds. -/
structure RInv (w : World) (base R : Nat) (l : List ByteArray) (a : List (ByteArray × Snd)) (nv av : Value) : Prop where
  blk : w.heap[R]? = some (.cells #[.bool true, nv, av] 85 (0, 0))
  names : OwnS w base nv l
  added : OwnN w base av a
  hR : base ≤ R
theorem RNew.inv {w : World} {base R : Nat} {l : List ByteArray} (h : RNew w base R l) : ∃ nv, RInv w base R l [] nv (.slice none 0 0) := by
  obtain ⟨nv, h1, h2, h3⟩ := h
  exact ⟨nv, ⟨h1, h2, ⟨rfl, .inl ⟨rfl, rfl⟩⟩, h3⟩⟩
theorem RInv.below {w w' : World} {base R : Nat} {l : List ByteArray} {a : List (ByteArray × Snd)} {nv av : Value} (h : RInv w base R l a nv av) (hb : Below w.heap.size w w') : RInv w' base R l a nv av :=
  ⟨(hb.block R (Array.getElem?_eq_some_iff.1 h.blk).1).trans h.blk, h.names.below hb, h.added.below hb, h.hR⟩
theorem OwnN.mono {w : World} {base base' : Nat} {v : Value} {l : List (ByteArray × Snd)} (h : OwnN w base v l) (hb : base' ≤ base) : OwnN w base' v l := by
  obtain ⟨hl, h0 | ⟨g, cap, cur, hv, hg, hh, hr⟩⟩ := h
  · exact ⟨hl, .inl h0⟩
  · exact ⟨hl, .inr ⟨g, cap, cur, hv, by omega, hh, hr⟩⟩
theorem RInv.mono {w : World} {base base' R : Nat} {l : List ByteArray} {a : List (ByteArray × Snd)} {nv av : Value} (h : RInv w base R l a nv av) (hb : base' ≤ base) : RInv w base' R l a nv av :=
  ⟨h.blk, h.names.mono hb, h.added.mono hb, Nat.le_trans hb h.hR⟩
theorem RInv.lt {w : World} {base R : Nat} {l : List ByteArray} {a : List (ByteArray × Snd)} {nv av : Value} (h : RInv w base R l a nv av) : R < w.heap.size := (Array.getElem?_eq_some_iff.1 h.blk).1
theorem RInv.cells {w : World} {base R : Nat} {l : List ByteArray} {a : List (ByteArray × Snd)} {nv av : Value} (h : RInv w base R l a nv av) :
    w.cell? ⟨R, 0, none⟩ = some (.bool true) ∧ w.cell? ⟨R, 1, none⟩ = some nv ∧ w.cell? ⟨R, 2, none⟩ = some av :=
  ⟨cell_block h.blk rfl, cell_block h.blk rfl, cell_block h.blk rfl⟩
theorem rmade_yes (R : Nat) (w : World) (h : w.cell? ⟨R, 0, none⟩ = some (.bool true)) : Gives 45 #[.pointer (some ⟨R, 0, none⟩)] w (.bool true) := by
  unfold Gives
  go_enter Try.func45, Try.ntmps45
  go_wp2
  go_returns
  exact ⟨rfl, Below.refl _ _⟩
theorem rmade_nil (w : World) : Gives 45 #[.pointer none] w (.bool false) := by
  unfold Gives
  go_enter Try.func45, Try.ntmps45
  go_wp2
  go_returns
  exact ⟨rfl, Below.refl _ _⟩
/-- What both returns: no inventory, or two inventories without sounds. -/
def Both (w : World) (base : Nat) (l : List ByteArray) (pv pr : Value) : Prop := (newE l ≠ 0 ∧ pv = .pointer none ∧ pr = .pointer none) ∨
  (newE l = 0 ∧ ∃ B R nv bf bs by_ rv, pv = .pointer (some ⟨B, 0, none⟩) ∧ pr = .pointer (some ⟨R, 0, none⟩) ∧ Inv w base B l [] nv (.slice none 0 0) bf bs by_ ∧ RInv w base R l [] rv (.slice none 0 0))
theorem newE_len {l : List ByteArray} (h : newE l = 0) : l.length ≤ 24 := by
  unfold newE at h
  by_cases h24 : 24 < l.length
  · rw [if_pos h24] at h; cases h
  · omega
theorem newE_all {l : List ByteArray} (h : newE l = 0) : l.all isFeat = true := by
  have h24 := newE_len h
  unfold newE at h
  rw [if_neg (by omega)] at h
  by_cases hA : l.all isFeat = true
  · exact hA
  · rw [if_neg hA] at h; cases h
theorem newE_size {l : List ByteArray} (h : newE l = 0) : ∀ x ∈ l, x.size ≤ 16 := fun x hx => by
  have := List.all_eq_true.1 (newE_all h) x hx
  unfold isFeat cons at this
  simp only [Bool.and_eq_true, decide_eq_true_eq] at this
  exact this.1.1.2
set_option maxRecDepth 100000 in
set_option maxHeartbeats 4000000 in
theorem both_any (l : List ByteArray) (v : Value) (w : World) (hx : ∀ x ∈ l, x.size ≤ maxLen) (h : Ss w v l) : Calls Try.prog 16 #[v] w fun e w' => Below w.heap.size w w' ∧ ∃ pv pr, e = .returned (.tuple #[pv, pr, .bool true]) ∧ Both w' w.heap.size l pv pr := by
  have hx2 : ∀ x ∈ l, x.size ≤ 9223372036854775807 := fun x hh => by have := hx x hh; unfold maxLen at this; omega
  have hN := new_any l v w hx2 h
  have hR := fun (W : World) (hb : Below w.heap.size w W) => rnew_any l v W hx2 (h.below hb)
  obtain ⟨ao, cap, rfl, -, -, -⟩ := h.open
  have HN := Lib.hid hN; have HR := Lib.hid hR
  clear hN hR h hx hx2
  go_enter Try.func16, Try.ntmps16
  go_wp2_with fail
  go_at_call 42
  refine HN.out.mono ?_
  rintro e w1 ⟨hb1, ⟨hne, rfl⟩ | ⟨h0, B, rfl, hI⟩⟩
  · have HB1 := Lib.hid hb1
    have HNE := Lib.hid hne
    clear HN hb1 hne
    go_wp2_with fail
    go_at_call 43
    refine (HR.out _ HB1.out).mono ?_
    rintro e w2 ⟨hb2, ⟨_, rfl⟩ | ⟨h0, _⟩⟩
    · have hw := HB1.out.trans (hb2.mono HB1.out.size)
      have HW := Lib.hid hw
      have HD : Hid (Both w2 w.heap.size l (.pointer none) (.pointer none)) := Lib.hid (.inl ⟨HNE.out, rfl, rfl⟩)
      clear hb2 hw HB1 HR HNE
      generalize newE l = E at *
      go_wp2_with fail
      refine bodyPost_ret (v := .tuple #[.pointer none, .pointer none, .bool true]) (by simp [results, Try.results16, go_sem]) rfl ⟨HW.out, _, _, rfl, HD.out⟩
    · exact absurd h0 HNE.out
  · have HB1 := Lib.hid hb1
    have H0 := Lib.hid h0
    obtain ⟨nv, bf, bs, by_, hJ⟩ := hI.inv
    have HJ := Lib.hid hJ
    clear HN hb1 h0 hI hJ
    go_wp2_with fail
    go_at_call 43
    refine (HR.out _ HB1.out).mono ?_
    rintro e w2 ⟨hb2, ⟨hne, _⟩ | ⟨_, R, rfl, hR⟩⟩
    · exact absurd H0.out hne
    · obtain ⟨rv, hQ⟩ := hR.inv
      have hw := HB1.out.trans (hb2.mono HB1.out.size)
      have HW := Lib.hid hw
      have HD : Hid (Both w2 w.heap.size l (.pointer (some ⟨B, 0, none⟩)) (.pointer (some ⟨R, 0, none⟩))) := Lib.hid (.inr ⟨H0.out, B, R, nv, bf, bs, by_, rv, rfl, rfl, HJ.out.below hb2, hQ.mono HB1.out.size⟩)
      clear hb2 hw HB1 HR H0 hR hQ HJ
      go_wp2_with fail
      refine bodyPost_ret (v := .tuple #[.pointer (some ⟨B, 0, none⟩), .pointer (some ⟨R, 0, none⟩), .bool true]) (by simp [results, Try.results16, go_sem]) rfl ⟨HW.out, _, _, rfl, HD.out⟩
end Go.Proofs.Ytmgikhldkebjbaa

/-
  The specification of features: Valid, Get, put and With: what they return.
-/
namespace Go.Proofs.Ytmgikhldkebjbaa
open Go.RowKit Go.Sort
theorem vld_bv {p m : BitVec 32} : vld p m = true ↔ p &&& m = 0#32 ∧ (p ||| m) &&& ~~~16777215#32 = 0#32 := by simp [vld]
theorem bv_ext {x y : BitVec 32} (h : ∀ i, i < 32 → x.getLsbD i = y.getLsbD i) : x = y := BitVec.eq_of_getLsbD_eq h
def gI (p m : BitVec 32) (g : Int) : Int := if 0 ≤ g ∧ g < 24 then getV p m g.toNat else 0
theorem gI_nat (p m : BitVec 32) (k : Nat) (h : k < 24) : gI p m (k : Int) = getV p m k := by unfold gI; rw [if_pos (by omega)]; rfl
theorem withP_get (p : BitVec 32) (k : Nat) (v : Int) (j : Nat) (hk : k < 32) (hj : j < 32) : (withP p k v).getLsbD j = if j = k then decide (v = 1) else p.getLsbD j := by
  unfold withP
  have hd : decide (j < 32) = true := decide_eq_true hj
  by_cases hv : v = 1
  · rw [if_pos hv]
    simp only [BitVec.getLsbD_or, BitVec.getLsbD_and, BitVec.getLsbD_not, bit_get k j hk, hd, Bool.true_and]
    by_cases e : j = k <;> simp [e, hv]
  · rw [if_neg hv]
    simp only [BitVec.getLsbD_and, BitVec.getLsbD_not, bit_get k j hk, hd, Bool.true_and]
    by_cases e : j = k <;> simp [e, hv]
theorem withM_get (p : BitVec 32) (k : Nat) (v : Int) (j : Nat) (hk : k < 32) (hj : j < 32) : (withM p k v).getLsbD j = if j = k then decide (v = -1) else p.getLsbD j := by
  unfold withM
  have hd : decide (j < 32) = true := decide_eq_true hj
  by_cases hv : v = -1
  · rw [if_pos hv]
    simp only [BitVec.getLsbD_or, BitVec.getLsbD_and, BitVec.getLsbD_not, bit_get k j hk, hd, Bool.true_and]
    by_cases e : j = k <;> simp [e, hv]
  · rw [if_neg hv]
    simp only [BitVec.getLsbD_and, BitVec.getLsbD_not, bit_get k j hk, hd, Bool.true_and]
    by_cases e : j = k <;> simp [e, hv]
theorem all_get (k : Nat) (h : k < 24) : (16777215#32).getLsbD k = true := (by decide : ∀ k : Fin 24, (16777215#32).getLsbD k.val = true) ⟨k, h⟩
theorem vld_bits {p m : BitVec 32} : vld p m = true ↔ ∀ j, j < 32 → (p.getLsbD j && m.getLsbD j) = false ∧ ((p.getLsbD j || m.getLsbD j) && !(16777215#32).getLsbD j) = false := by
  rw [vld_bv]
  constructor
  · rintro ⟨h1, h2⟩ j hj
    have a1 := congrArg (fun z => z.getLsbD j) h1
    have a2 := congrArg (fun z => z.getLsbD j) h2
    simp only [BitVec.getLsbD_and, BitVec.getLsbD_or, BitVec.getLsbD_not, BitVec.getLsbD_zero, decide_eq_true hj, Bool.true_and] at a1 a2
    exact ⟨a1, a2⟩
  · intro h
    constructor
    · apply bv_ext; intro j hj; simp only [BitVec.getLsbD_and, BitVec.getLsbD_zero]; exact (h j hj).1
    · apply bv_ext; intro j hj; simp only [BitVec.getLsbD_and, BitVec.getLsbD_or, BitVec.getLsbD_not, BitVec.getLsbD_zero, decide_eq_true hj, Bool.true_and]; exact (h j hj).2
theorem getV_of_vld {p m : BitVec 32} (h : vld p m = true) (k : Nat) (hk : k < 32) : decide (getV p m k = 1) = p.getLsbD k ∧ decide (getV p m k = -1) = m.getLsbD k := by
  have := (vld_bits.1 h k hk).1
  unfold getV
  revert this
  cases p.getLsbD k <;> cases m.getLsbD k <;> simp
theorem getV_three (p m : BitVec 32) (k : Nat) : getV p m k = 1 ∨ getV p m k = 0 ∨ getV p m k = -1 := by
  unfold getV; cases p.getLsbD k <;> cases m.getLsbD k <;> simp
theorem vld_with {p m : BitVec 32} (h : vld p m = true) (k : Nat) (v : Int) (hk : k < 24) : vld (withP p k v) (withM m k v) = true := by
  rw [vld_bits] at *
  intro j hj
  rw [withP_get p k v j (by omega) hj, withM_get m k v j (by omega) hj]
  by_cases e : j = k
  · subst e
    rw [if_pos rfl, if_pos rfl, all_get j hk]
    by_cases h1 : v = 1
    · subst h1; simp
    · simp [h1]
  · rw [if_neg e, if_neg e]; exact h j hj
theorem getV_with {p m : BitVec 32} (k : Nat) (v : Int) (j : Nat) (hk : k < 24) (hj : j < 32) (hv : v = 1 ∨ v = 0 ∨ v = -1) : getV (withP p k v) (withM m k v) j = if j = k then v else getV p m j := by
  unfold getV
  rw [withP_get p k v j (by omega) hj, withM_get m k v j (by omega) hj]
  by_cases e : j = k
  · subst e
    rw [if_pos rfl, if_pos rfl, if_pos rfl]
    rcases hv with rfl | rfl | rfl <;> simp
  · rw [if_neg e, if_neg e, if_neg e]
def withV (p m : BitVec 32) (k : Nat) (v : Int) : Value :=
  if v = 1 ∨ v = 0 ∨ v = -1 then .tuple #[sv (withP p k v) (withM m k v), .int .i64 0] else .tuple #[sv 0 0, .int .i64 2]
theorem shr_bit (p : BitVec 32) (k : Nat) : bits .and .u32 ((p.toNat : Int) / 2 ^ k) 1 = if p.getLsbD k then 1 else 0 := by
  have h : (p.toNat : Int) / 2 ^ k = ((p.toNat / 2 ^ k : Nat) : Int) := by rw [Int.natCast_ediv, Int.natCast_pow]; rfl
  have hlt : p.toNat / 2 ^ k < 2 ^ 32 := Nat.lt_of_le_of_lt (Nat.div_le_self _ _) p.isLt
  rw [bv_and, h, BitVec.ofInt_natCast, BitVec.toNat_and, BitVec.toNat_ofNat, Nat.mod_eq_of_lt hlt]
  have e : (BitVec.ofInt 32 1).toNat = 1 := by decide
  rw [e, Nat.and_one_is_mod, ← Nat.toNat_testBit]
  show _ = if p.toNat.testBit k then 1 else 0
  cases p.toNat.testBit k <;> rfl
theorem vld_no {p m : BitVec 32} {k : Nat} (hk : k < 32) (h : ((p.getLsbD k && m.getLsbD k) || ((p.getLsbD k || m.getLsbD k) && !decide (k < 24))) = true) : vld p m = false := by
  rw [Bool.eq_false_iff]
  intro hv
  obtain ⟨h1, h2⟩ := vld_bits.1 hv k hk
  have ha : (16777215#32).getLsbD k = decide (k < 24) := (by decide : ∀ k : Fin 32, (16777215#32).getLsbD k.val = decide (k.val < 24)) ⟨k, hk⟩
  rw [ha] at h2
  rw [h1, h2] at h
  cases h
theorem vld_yes {p m : BitVec 32} (h : ∀ k, k < 32 → ((p.getLsbD k && m.getLsbD k) || ((p.getLsbD k || m.getLsbD k) && !decide (k < 24))) = false) : vld p m = true := by
  rw [vld_bits]
  intro k hk
  have ha : (16777215#32).getLsbD k = decide (k < 24) := (by decide : ∀ k : Fin 32, (16777215#32).getLsbD k.val = decide (k.val < 24)) ⟨k, hk⟩
  rw [ha]
  simpa using h k hk
def okBit (p m : BitVec 32) (k : Nat) : Prop := ((p.getLsbD k && m.getLsbD k) || ((p.getLsbD k || m.getLsbD k) && !decide (k < 24))) = false
theorem okBit_more {p m : BitVec 32} {k : Nat} (h : ∀ j, j < k → okBit p m j) (hk : okBit p m k) : ∀ j, j < k + 1 → okBit p m j := fun j hj => by
  rcases Nat.lt_or_ge j k with h1 | h1
  · exact h j h1
  · obtain rfl : j = k := by omega
    exact hk
set_option maxHeartbeats 1000000 in
theorem rvalid_any (p m : BitVec 32) (w : World) : Gives 74 #[sn p.toNat m.toNat] w (.bool (vld p m)) := by
  unfold Gives
  generalize hv : vld p m = v
  have HV := Lib.hid hv; clear hv
  go_enter Try.func74, Try.ntmps74
  go_wp2_with fail
  go_loop [3] (fun i => ∃ k : Nat, k ≤ 32 ∧ i = .int .i64 (k : Int) ∧ ∀ j, j < k → okBit p m j) (fun i => 32 - (intOf i).toNat)
  case atStart => exact ⟨0, by omega, rfl, fun j hj => absurd hj (by omega)⟩
  case round =>
    obtain ⟨k, hk, rfl, hall⟩ := hrel
    have HA := Lib.hid hall; clear hall
    by_cases hlt : k < 32
    · have e1 := shr_bit p k
      have e2 := shr_bit m k
      have hno := fun h => vld_no (p := p) (m := m) hlt h
      have hyes := fun h => okBit_more (p := p) (m := m) HA.out h
      unfold okBit at hyes
      have HNO := Lib.hid hno; have HY := Lib.hid hyes; clear hno hyes
      by_cases h24 : k < 24
      all_goals rcases hp : p.getLsbD k with _ | _
      all_goals rcases hm : m.getLsbD k with _ | _
      all_goals (
        rw [hp] at e1; rw [hm] at e2
        simp only [if_true, Bool.false_eq_true, if_false] at e1 e2
        have HNO := HNO.out; have HY := HY.out
        rw [hp, hm] at HNO HY
        have HN := Lib.hid HNO; have HY2 := Lib.hid HY; clear HNO HY hp hm
        go_wp2_with fail
        first
          | (go_round
             case rel => exact ⟨k + 1, by omega, by go_num, HY2.out (by simp [h24])⟩
             case measure => simp [intOf]; omega)
          | (go_returns; exact ⟨by (rw [← HV.out, HN.out (by simp [h24])]; try rfl), by go_grown⟩))
    · go_wp2_with fail
      go_returns
      exact ⟨by (rw [← HV.out, vld_yes (fun j hj => HA.out j (by omega))]; try rfl), by go_grown⟩
theorem feature_any (k : Int) (b : Bool) (hb : (decide (0 ≤ k) && decide (k < 24)) = b) (w : World) : Calls Try.prog 77 #[.int .i64 k] w fun e w' => e = .returned (.bool b) ∧ w = w' := by
  subst hb
  by_cases h1 : 0 ≤ k
  · by_cases h2 : k < 24
    · go_enter Try.func77, Try.ntmps77
      go_wp2
      go_returns
      exact ⟨by first | (simp [h1, h2]; done) | rfl, rfl⟩
    · go_enter Try.func77, Try.ntmps77
      go_wp2
      go_returns
      exact ⟨by first | (simp [h1, h2]; done) | (simp; omega), rfl⟩
  · go_enter Try.func77, Try.ntmps77
    go_wp2
    go_returns
    exact ⟨by first | (simp [h1]; done) | (simp; omega), rfl⟩
set_option maxHeartbeats 1000000 in
theorem rget_bad (p m : BitVec 32) (g : Int) (h : vld p m = false ∨ ¬ (0 ≤ g ∧ g < 24)) (w : World) : Gives 59 #[sn p.toNat m.toNat, .int .i64 g] w (.int .i64 0) := by
  unfold Gives
  rcases hv : vld p m with _ | _
  · have HV := Lib.hid hv; clear hv h
    go_enter Try.func59, Try.ntmps59
    go_wp2_with (go_at_call 74; with_reducible refine Gives.then (Gives.eq (rvalid_any p m _) rfl (by rw [HV.out])) ?_; intro w1 hb; have hw := chain (B := w.heap.size) (a := w) (by go_grown) (by go_size) hb; obtain ⟨hc, hf, hz⟩ := bcell hb; clear hb; (try simp only [World.size_alloc, World.size_setCell, World.size_drew] at hc hf hz))
    go_returns
    exact ⟨rfl, hw⟩
  · have hg : (decide (0 ≤ g) && decide (g < 24)) = false := by
      rcases h with h | h
      · rw [hv] at h; cases h
      · simp only [Bool.and_eq_false_iff, decide_eq_false_iff_not]; omega
    have HG := Lib.hid hg; have HV := Lib.hid hv; clear hv h hg
    go_enter Try.func59, Try.ntmps59
    go_wp2_with (first | (go_at_call 74; with_reducible refine Gives.then (Gives.eq (rvalid_any p m _) rfl (by rw [HV.out])) ?_; intro w1 hb; have hw := chain (B := w.heap.size) (a := w) (by go_grown) (by go_size) hb; obtain ⟨hc, hf, hz⟩ := bcell hb; clear hb; (try simp only [World.size_alloc, World.size_setCell, World.size_drew] at hc hf hz)) | (go_at_call 77; refine (feature_any _ _ HG.out _).mono ?_; rintro e w2 ⟨rfl, rfl⟩))
    go_returns
    exact ⟨rfl, hw⟩
set_option maxHeartbeats 1000000 in
theorem rget_ok (p m : BitVec 32) (k : Nat) (hv : vld p m = true) (hk : k < 24) (w : World) : Gives 59 #[sn p.toNat m.toNat, .int .i64 (k : Int)] w (.int .i64 (getV p m k)) := by
  unfold Gives
  have hg : (decide (0 ≤ (k : Int)) && decide ((k : Int) < 24)) = true := by simp; omega
  have e1 := shr_bit p k
  have e2 := shr_bit m k
  have HG := Lib.hid hg; have HV := Lib.hid hv; clear hv hg
  unfold getV
  rcases hp : p.getLsbD k with _ | _
  all_goals rcases hm : m.getLsbD k with _ | _
  all_goals (
    rw [hp] at e1; rw [hm] at e2
    simp only [if_true, Bool.false_eq_true, if_false] at e1 e2
    clear hp hm
    go_enter Try.func59, Try.ntmps59
    go_wp2_with (first | (go_at_call 74; with_reducible refine Gives.then (Gives.eq (rvalid_any p m _) rfl (by rw [HV.out])) ?_; intro w1 hb; have hw := chain (B := w.heap.size) (a := w) (by go_grown) (by go_size) hb; obtain ⟨hc, hf, hz⟩ := bcell hb; clear hb; (try simp only [World.size_alloc, World.size_setCell, World.size_drew] at hc hf hz)) | (go_at_call 77; refine (feature_any _ _ HG.out _).mono ?_; rintro e w2 ⟨rfl, rfl⟩))
    go_returns
    exact ⟨by simp, hw⟩)
theorem rgv_get (p m : BitVec 32) (g : Int) (w : World) : Gives 59 #[sn p.toNat m.toNat, .int .i64 g] w (.int .i64 (if vld p m then gI p m g else 0)) := by
  rcases hv : vld p m with _ | _
  · exact rget_bad p m g (.inl hv) w
  · by_cases hg : 0 ≤ g ∧ g < 24
    · obtain ⟨k, rfl⟩ := Int.eq_ofNat_of_zero_le hg.1
      rw [if_pos rfl, gI_nat p m k (by omega)]
      exact rget_ok p m k hv (by omega) w
    · have e : gI p m g = 0 := by unfold gI; rw [if_neg hg]
      rw [if_pos rfl, e]
      exact rget_bad p m g (.inr hg) w
theorem b_andNot (x y : BitVec 32) : bits .andNot .u32 x.toNat y.toNat = ((x &&& ~~~y).toNat : Int) := by rw [bv_andNot, ofInt32_nat, ofInt32_nat]
theorem b_or (x y : BitVec 32) : bits .or .u32 x.toNat y.toNat = ((x ||| y).toNat : Int) := by rw [bv_or, ofInt32_nat, ofInt32_nat]
theorem b_and (x y : BitVec 32) : bits .and .u32 x.toNat y.toNat = ((x &&& y).toNat : Int) := by rw [bv_and, ofInt32_nat, ofInt32_nat]
set_option maxHeartbeats 1000000 in
theorem rput_any (p m : BitVec 32) (k : Nat) (v : Int) (hk : k < 24) (w : World) : Gives 78 #[sn p.toNat m.toNat, .int .i64 (k : Int), .int .i64 v] w (sn (withP p k v).toNat (withM m k v).toNat) := by
  unfold Gives
  have hb := pow_bit k (by omega)
  unfold withP withM
  generalize bit k = B at *
  have e1 := b_andNot p B
  have e2 := b_andNot m B
  generalize p &&& ~~~B = P at *
  generalize m &&& ~~~B = M at *
  have e3 := b_or P B
  have e4 := b_or M B
  generalize P ||| B = P1 at *
  generalize M ||| B = M1 at *
  by_cases v1 : v = 1
  · subst v1
    rw [if_pos rfl, if_neg (by decide)]
    go_enter Try.func78, Try.ntmps78
    go_wp2
    refine bodyPost_ret (v := sn P1.toNat M.toNat) (by simp [results, Try.results78, go_sem, *]) rfl ⟨rfl, by go_grown⟩
  · rw [if_neg v1]
    by_cases v2 : v = -1
    · subst v2
      rw [if_pos rfl]
      go_enter Try.func78, Try.ntmps78
      go_wp2
      refine bodyPost_ret (v := sn P.toNat M1.toNat) (by simp [results, Try.results78, go_sem, *]) rfl ⟨rfl, by go_grown⟩
    · rw [if_neg v2]
      have f1 : (v == 1) = false := by simpa using v1
      have f2 : (v == -1) = false := by simpa using v2
      go_enter Try.func78, Try.ntmps78
      go_wp2
      refine bodyPost_ret (v := sn P.toNat M.toNat) (by simp [results, Try.results78, go_sem, *]) rfl ⟨rfl, by go_grown⟩
set_option maxHeartbeats 1000000 in
theorem rwith_any (p m : BitVec 32) (g v : Int) (w : World) : Gives 60 #[sn p.toNat m.toNat, .int .i64 g, .int .i64 v] w
    (if vld p m then (if 0 ≤ g ∧ g < 24 then withV p m g.toNat v else .tuple #[sn 0 0, .int .i64 3]) else .tuple #[sn 0 0, .int .i64 14]) := by
  unfold Gives
  rcases hv : vld p m with _ | _
  · have HV := Lib.hid hv; clear hv
    simp only [Bool.false_eq_true, if_false]
    go_enter Try.func60, Try.ntmps60
    go_wp2_with (go_at_call 74; with_reducible refine Gives.then (Gives.eq (rvalid_any p m _) rfl (by rw [HV.out])) ?_; intro w1 hb; have hw := chain (B := w.heap.size) (a := w) (by go_grown) (by go_size) hb; (first | have h0 := chain (h0.trans (by go_grown)) (by go_size) hb | have h0 := hb); obtain ⟨hc, hf, hz⟩ := bcell hb; obtain ⟨hc0, hf0, hz0⟩ := bcell h0; clear hb; (try simp only [World.size_alloc, World.size_setCell, World.size_drew] at hc hf hz hc0 hf0 hz0))
    refine bodyPost_ret (v := .tuple #[sn 0 0, .int .i64 14]) (by simp [results, Try.results60, go_sem, hc, hz]) rfl ⟨rfl, by go_grown⟩
  · rw [if_pos rfl]
    have HV := Lib.hid hv; clear hv
    by_cases hg : 0 ≤ g ∧ g < 24
    · rw [if_pos hg]
      obtain ⟨k, rfl⟩ := Int.eq_ofNat_of_zero_le hg.1
      have hk : k < 24 := by omega
      have hgb : (decide (0 ≤ (k : Int)) && decide ((k : Int) < 24)) = true := by simp; omega
      have HG := Lib.hid hgb; clear hgb hg
      rw [Int.toNat_natCast]
      unfold withV
      by_cases h3 : v = 1 ∨ v = 0 ∨ v = -1
      · rw [if_pos h3]
        have g1 : -1 ≤ v := by omega
        have g2 : v ≤ 1 := by omega
        clear h3
        go_enter Try.func60, Try.ntmps60
        go_wp2_with (first | (go_at_call 74; with_reducible refine Gives.then (Gives.eq (rvalid_any p m _) rfl (by rw [HV.out])) ?_; intro w1 hb; have hw := chain (B := w.heap.size) (a := w) (by go_grown) (by go_size) hb; (first | have h0 := chain (h0.trans (by go_grown)) (by go_size) hb | have h0 := hb); obtain ⟨hc, hf, hz⟩ := bcell hb; obtain ⟨hc0, hf0, hz0⟩ := bcell h0; clear hb; (try simp only [World.size_alloc, World.size_setCell, World.size_drew] at hc hf hz hc0 hf0 hz0)) | (go_at_call 77; refine (feature_any _ _ HG.out _).mono ?_; rintro e w2 ⟨rfl, rfl⟩) | (go_at_call 78; with_reducible refine Gives.then (rput_any p m k v hk _) ?_; intro w1 hb; have hw := chain (B := w.heap.size) (a := w) (by go_grown) (by go_size) hb; (first | have h0 := chain (h0.trans (by go_grown)) (by go_size) hb | have h0 := hb); obtain ⟨hc, hf, hz⟩ := bcell hb; obtain ⟨hc0, hf0, hz0⟩ := bcell h0; clear hb; (try simp only [World.size_alloc, World.size_setCell, World.size_drew] at hc hf hz hc0 hf0 hz0)))
        refine bodyPost_ret (v := .tuple #[sn (withP p k v).toNat (withM m k v).toNat, .int .i64 0]) (by simp [results, Try.results60, go_sem, hc, hz, hc0, hz0]) rfl ⟨rfl, by go_grown⟩
      · rw [if_neg h3]
        have g1 : v < -1 ∨ 1 < v := by omega
        clear h3
        rcases g1 with g1 | g1
        all_goals (
          go_enter Try.func60, Try.ntmps60
          go_wp2_with (first | (go_at_call 74; with_reducible refine Gives.then (Gives.eq (rvalid_any p m _) rfl (by rw [HV.out])) ?_; intro w1 hb; have hw := chain (B := w.heap.size) (a := w) (by go_grown) (by go_size) hb; (first | have h0 := chain (h0.trans (by go_grown)) (by go_size) hb | have h0 := hb); obtain ⟨hc, hf, hz⟩ := bcell hb; obtain ⟨hc0, hf0, hz0⟩ := bcell h0; clear hb; (try simp only [World.size_alloc, World.size_setCell, World.size_drew] at hc hf hz hc0 hf0 hz0)) | (go_at_call 77; refine (feature_any _ _ HG.out _).mono ?_; rintro e w2 ⟨rfl, rfl⟩))
          refine bodyPost_ret (v := .tuple #[sn 0 0, .int .i64 2]) (by simp [results, Try.results60, go_sem, hc, hz]) rfl ⟨rfl, by go_grown⟩)
    · rw [if_neg hg]
      have hgb : (decide (0 ≤ g) && decide (g < 24)) = false := by simp only [Bool.and_eq_false_iff, decide_eq_false_iff_not]; omega
      have HG := Lib.hid hgb; clear hgb hg
      go_enter Try.func60, Try.ntmps60
      go_wp2_with (first | (go_at_call 74; with_reducible refine Gives.then (Gives.eq (rvalid_any p m _) rfl (by rw [HV.out])) ?_; intro w1 hb; have hw := chain (B := w.heap.size) (a := w) (by go_grown) (by go_size) hb; (first | have h0 := chain (h0.trans (by go_grown)) (by go_size) hb | have h0 := hb); obtain ⟨hc, hf, hz⟩ := bcell hb; obtain ⟨hc0, hf0, hz0⟩ := bcell h0; clear hb; (try simp only [World.size_alloc, World.size_setCell, World.size_drew] at hc hf hz hc0 hf0 hz0)) | (go_at_call 77; refine (feature_any _ _ HG.out _).mono ?_; rintro e w2 ⟨rfl, rfl⟩))
      refine bodyPost_ret (v := .tuple #[sn 0 0, .int .i64 3]) (by simp [results, Try.results60, go_sem, hc, hz]) rfl ⟨rfl, by go_grown⟩
end Go.Proofs.Ytmgikhldkebjbaa

/-
  Which sounds belong to an inventory: the specification's answer is the program's.
-/
namespace Go.Proofs.Ytmgikhldkebjbaa
open Go.RowKit Go.Sort
theorem hasB_bits (n : Nat) (p m : BitVec 32) : hasB n (p, m) = true ↔ (∀ j, j < 32 → (p.getLsbD j && m.getLsbD j) = false) ∧ ∀ j, n ≤ j → j < 32 → p.getLsbD j = false ∧ m.getLsbD j = false := by
  have h1 : (p.toNat &&& m.toNat = 0) ↔ ∀ j, j < 32 → (p.getLsbD j && m.getLsbD j) = false := by
    constructor
    · intro h j _
      have := congrArg (fun x => x.testBit j) h
      simp only [Nat.testBit_and, Nat.zero_testBit] at this
      exact this
    · intro h
      apply Nat.eq_of_testBit_eq
      intro j
      rw [Nat.testBit_and, Nat.zero_testBit]
      by_cases hj : j < 32
      · exact h j hj
      · have : p.toNat.testBit j = false := Nat.testBit_lt_two_pow (Nat.lt_of_lt_of_le p.isLt (Nat.pow_le_pow_right (by omega) (by omega)))
        rw [this, Bool.false_and]
  have h2 : (valN (p, m) / 2 ^ n = 0) ↔ ∀ j, n ≤ j → j < 32 → p.getLsbD j = false ∧ m.getLsbD j = false := by
    unfold valN
    rw [← Nat.shiftRight_eq_div_pow]
    constructor
    · intro h j hj _
      have := congrArg (fun x => x.testBit (j - n)) h
      simp only [Nat.testBit_shiftRight, Nat.testBit_or, Nat.zero_testBit, Bool.or_eq_false_iff] at this
      rw [show n + (j - n) = j from by omega] at this
      exact this
    · intro h
      apply Nat.eq_of_testBit_eq
      intro j
      rw [Nat.testBit_shiftRight, Nat.testBit_or, Nat.zero_testBit, Bool.or_eq_false_iff]
      by_cases hj : n + j < 32
      · exact h (n + j) (by omega) hj
      · have e : 2 ^ 32 ≤ 2 ^ (n + j) := Nat.pow_le_pow_right (by omega) (by omega)
        exact ⟨Nat.testBit_lt_two_pow (Nat.lt_of_lt_of_le p.isLt e), Nat.testBit_lt_two_pow (Nat.lt_of_lt_of_le m.isLt e)⟩
  unfold hasB
  rw [Bool.and_eq_true, decide_eq_true_iff, decide_eq_true_iff, h1, h2]
theorem hasB_vld {n : Nat} {p m : BitVec 32} (hn : n ≤ 24) (h : hasB n (p, m) = true) : vld p m = true := by
  obtain ⟨h1, h2⟩ := (hasB_bits n p m).1 h
  refine vld_yes fun k hk => ?_
  rw [h1 k hk, Bool.false_or]
  by_cases h24 : k < 24
  · simp [h24]
  · obtain ⟨a, b⟩ := h2 k (by omega) hk
    rw [a, b]; rfl
theorem hasB_not {n : Nat} {p m : BitVec 32} (hn : n ≤ 24) (h : vld p m = false) : hasB n (p, m) = false := by
  rw [Bool.eq_false_iff]; intro e; rw [hasB_vld hn e] at h; cases h
theorem hasB_get {n k : Nat} {p m : BitVec 32} (hk : n ≤ k) (hk2 : k < 32) (h : getV p m k ≠ 0) : hasB n (p, m) = false := by
  rw [Bool.eq_false_iff]; intro e
  obtain ⟨a, b⟩ := ((hasB_bits n p m).1 e).2 k hk hk2
  exact h (by unfold getV; rw [a, b]; rfl)
theorem hasB_yes {n : Nat} {p m : BitVec 32} (hv : vld p m = true) (h : ∀ k, n ≤ k → k < 24 → getV p m k = 0) : hasB n (p, m) = true := by
  refine (hasB_bits n p m).2 ⟨fun j hj => (vld_bits.1 hv j hj).1, fun j hj hj2 => ?_⟩
  by_cases h24 : j < 24
  · have := h j hj h24
    unfold getV at this
    cases hp : p.getLsbD j <;> cases hm : m.getLsbD j <;> simp [hp, hm] at this <;> exact ⟨rfl, rfl⟩
  · have := (vld_bits.1 hv j hj2).2
    have ha : (16777215#32).getLsbD j = false := (by decide : ∀ k : Fin 32, 24 ≤ k.val → (16777215#32).getLsbD k.val = false) ⟨j, hj2⟩ (by show 24 ≤ j; omega)
    rw [ha] at this
    cases hp : p.getLsbD j <;> cases hm : m.getLsbD j <;> simp [hp, hm] at this <;> exact ⟨rfl, rfl⟩
set_option maxRecDepth 100000 in
set_option maxHeartbeats 4000000 in
theorem rbel_any {w : World} {base R : Nat} {l : List ByteArray} {a : List (ByteArray × Snd)} {nv av : Value} (h : RInv w base R l a nv av) (hl : l.length ≤ 24) (s : Snd) : Gives 49 #[.pointer (some ⟨R, 0, none⟩), snv s] w (.bool (hasB l.length s)) := by
  unfold Gives
  obtain ⟨p, m⟩ := s
  unfold snv
  have HI := Lib.hid h
  have hR := h.lt
  obtain ⟨ao, ac, hnv, -, -, -⟩ := h.names.ss.open
  subst hnv
  have hlen := Lib.hid (show ∃ n, l.length = n from ⟨_, rfl⟩)
  have q1 := h.cells.2.1
  clear h
  have hno := fun hv => hasB_not (p := p) (m := m) hl hv
  have hgt := fun k h1 h2 h3 => hasB_get (n := l.length) (k := k) (p := p) (m := m) h1 h2 h3
  have hys := fun h1 h2 => hasB_yes (n := l.length) (p := p) (m := m) h1 h2
  generalize hasB l.length (p, m) = H at *
  have HNO := Lib.hid hno; have HGT := Lib.hid hgt; have HYS := Lib.hid hys
  clear hno hgt hys hlen
  generalize l.length = n at *
  have hb0 := (Below.refl w.heap.size w).alloc (Nat.le_refl _) (.cells #[.int .u32 (p.toNat : Int), .int .u32 (m.toNat : Int)] 39)
  rcases hv : vld p m with _ | _
  · have hE := HNO.out hv
    have hVa := fun W => rvalid_any p m W
    rw [hv] at hVa
    have HVA := Lib.hid hVa; have HE := Lib.hid hE
    clear hVa hE hv
    go_enter Try.func49, Try.ntmps49
    go_wp2_with (go_at_call 74; refine Gives.then (HVA.out _) ?_; intro w1 hb)
    go_returns
    exact ⟨by rw [HE.out]; rfl, hb0.trans (hb.mono hb0.size)⟩
  · have hVa := fun W => rvalid_any p m W
    rw [hv] at hVa
    have HVA := Lib.hid hVa; have HV := Lib.hid hv
    clear hVa hv
    go_enter Try.func49, Try.ntmps49
    go_wp2_with fail
    go_at_call 74
    refine Gives.then (HVA.out _) ?_
    intro w1 hb
    have hw := hb0.trans (hb.mono hb0.size)
    have r0 := (hb.cell (p := ⟨w.heap.size, 0, none⟩) (by simp)).trans (cell_block (World.alloc_heap_new w _) rfl)
    have r1 := (hb.cell (p := ⟨w.heap.size, 1, none⟩) (by simp)).trans (cell_block (World.alloc_heap_new w _) rfl)
    have r2 := (hw.cell (p := ⟨R, 1, none⟩) hR).trans q1
    have lw : w.heap.size < w1.heap.size := by have := hb.size; rw [World.size_alloc] at this; omega
    clear hb hb0
    go_wp2_with fail
    go_loopw [5] (fun i wr => ∃ k : Nat, n ≤ k ∧ k ≤ 24 ∧ i = .int .i64 (k : Int) ∧ (∀ j, n ≤ j → j < k → getV p m j = 0) ∧ Below w1.heap.size w1 wr) (fun i _ => 24 - (intOf i).toNat)
    case atStart => exact ⟨n, Nat.le_refl _, hl, rfl, fun j h1 h2 => by omega, Below.refl _ _⟩
    case round =>
      obtain ⟨k, hk0, hk, rfl, hall, hwr⟩ := hrel
      have c0 := (hwr.cell (p := ⟨w.heap.size, 0, none⟩) lw).trans r0
      have c1 := (hwr.cell (p := ⟨w.heap.size, 1, none⟩) lw).trans r1
      have HALL := Lib.hid hall; have HWR := Lib.hid hwr
      clear r0 r1 r2 q1 hall hwr
      by_cases hlt : k < 24
      · have hget := fun W => rget_ok p m k HV.out hlt W
        by_cases hz : getV p m k = 0
        · have hmore : ∀ j, n ≤ j → j < k + 1 → getV p m j = 0 := fun j h1 h2 => by
            by_cases e : j = k
            · rw [e]; exact hz
            · exact HALL.out j h1 (by omega)
          rw [hz] at hget
          have HG := Lib.hid hget; have HM := Lib.hid hmore
          clear hget hmore hz
          go_wp2_with (go_at_call 59; refine Gives.then (HG.out _) ?_; intro w2 hb2; have HW2 := Lib.hid (HWR.out.trans (hb2.mono HWR.out.size)); clear hb2)
          go_roundw
          case rel => exact ⟨k + 1, by omega, by omega, by go_num, HM.out, HW2.out⟩
          case measure => simp [intOf]; omega
        · have hE := HGT.out k hk0 (by omega) hz
          have hz1 : (getV p m k == 0) = false := by rw [Bool.eq_false_iff]; intro e; exact hz (beq_iff_eq.1 e)
          have HE := Lib.hid hE
          have HG := Lib.hid hget
          clear hget hE hz
          generalize getV p m k = g at *
          go_wp2_with (go_at_call 59; refine Gives.then (HG.out _) ?_; intro w2 hb2; have HW2 := Lib.hid (HWR.out.trans (hb2.mono HWR.out.size)); clear hb2)
          go_returns
          exact ⟨by rw [HE.out]; rfl, hw.trans (HW2.out.mono hw.size)⟩
      · obtain rfl : k = 24 := by omega
        have HE := Lib.hid (HYS.out HV.out HALL.out)
        go_wp2_with fail
        go_returns
        exact ⟨by rw [HE.out]; rfl, hw.trans (HWR.out.mono hw.size)⟩
end Go.Proofs.Ytmgikhldkebjbaa

/-
  The specification's Text: the same text as the program's.
-/
namespace Go.Proofs.Ytmgikhldkebjbaa
open Go.RowKit Go.Shelf Go.Sort
theorem ljoin_snoc (x sep : List UInt8) : ∀ (l : List (List UInt8)), l ≠ [] → Lib.join (l ++ [x]) sep = Lib.join l sep ++ sep ++ x
  | [], h => absurd rfl h
  | y :: r, _ => by
    rw [List.cons_append, Lib.join_cons, Lib.join_cons]
    simp [Lib.joinTail]
theorem bytes_ext {a b : ByteArray} (h : a.data.toList = b.data.toList) : a = b := by
  cases a; cases b
  simp only at h
  rw [Array.toList_inj.1 h]
theorem append_list (a b : ByteArray) : (a ++ b).data.toList = a.data.toList ++ b.data.toList := by
  rw [ByteArray.data_append, Array.toList_append]
theorem joinS_list (l : List ByteArray) (sep : ByteArray) : (joinS l sep).data.toList = Lib.join (l.map (·.data.toList)) sep.data.toList := by unfold joinS; simp
theorem joinS_nil (sep : ByteArray) : joinS [] sep = ⟨#[]⟩ := rfl
theorem joinS_one (x sep : ByteArray) : joinS [x] sep = x := bytes_ext (by rw [joinS_list]; simp [Lib.join_one])
theorem joinS_snoc (l : List ByteArray) (x sep : ByteArray) (h : l ≠ []) : joinS (l ++ [x]) sep = joinS l sep ++ sep ++ x := bytes_ext (by
  rw [joinS_list, append_list, append_list, joinS_list, List.map_append]
  exact ljoin_snoc _ _ _ (by simpa using h))
theorem joinTail_len (sep : List UInt8) (hs : sep.length ≤ 1) : ∀ (r : List (List UInt8)), (∀ x ∈ r, x.length ≤ 17) → (Lib.joinTail sep r).length ≤ 18 * r.length
  | [], _ => by simp [Lib.joinTail]
  | y :: r, h => by
    have ih := joinTail_len sep hs r (fun x hx => h x (by simp [hx]))
    have h1 := h y (by simp)
    unfold Lib.joinTail at *
    simp only [List.map_cons, List.flatten_cons, List.length_append, List.length_cons]
    omega
theorem joinS_size (l : List ByteArray) (sep : ByteArray) (hs : sep.size ≤ 1) (h : ∀ x ∈ l, x.size ≤ 17) : (joinS l sep).size ≤ 18 * l.length := by
  have e : (joinS l sep).size = (joinS l sep).data.toList.length := by rw [Array.length_toList]; rfl
  rw [e, joinS_list]
  cases l with
  | nil => simp [Lib.join_nil]
  | cons y r =>
    rw [List.map_cons, Lib.join_cons]
    have h1 := h y (by simp)
    have h2 := joinTail_len sep.data.toList (by rw [Array.length_toList]; exact hs) (r.map (·.data.toList)) (fun x hx => by
      obtain ⟨z, hz, rfl⟩ := List.mem_map.1 hx
      rw [Array.length_toList]; exact h z (by simp [hz]))
    rw [List.length_map] at h2
    rw [List.length_append, List.length_cons]
    have e1 : y.data.toList.length = y.size := by rw [Array.length_toList]; rfl
    omega
theorem txtL_items (s : Snd) : ∀ (l : List ByteArray) (f : Nat), (∀ x ∈ l, x.size ≤ 16) → ∀ x ∈ txtL s f l, 0 < x.size ∧ x.size ≤ 17
  | [], _, _, x, hx => by cases hx
  | y :: l, f, h, x, hx => by
    have h1 := h y (by simp)
    have hp : (plusS y).size = 1 + y.size := by unfold plusS; rw [ByteArray.size_append]; rfl
    have hm : (minusS y).size = 1 + y.size := by unfold minusS; rw [ByteArray.size_append]; rfl
    have ih := txtL_items s l (f + 1) (fun z hz => h z (by simp [hz])) x
    simp only [txtL] at hx
    split at hx
    · rcases List.mem_cons.1 hx with rfl | hx
      · omega
      · exact ih hx
    · split at hx
      · rcases List.mem_cons.1 hx with rfl | hx
        · omega
        · exact ih hx
      · exact ih hx
theorem joinS_pos {l : List ByteArray} {sep : ByteArray} (h : ∀ x ∈ l, 0 < x.size) (hl : l ≠ []) : 0 < (joinS l sep).size := by
  have e : (joinS l sep).size = (joinS l sep).data.toList.length := by rw [Array.length_toList]; rfl
  rw [e, joinS_list]
  cases l with
  | nil => exact absurd rfl hl
  | cons y r =>
    rw [List.map_cons, Lib.join_cons, List.length_append]
    have h1 := h y (by simp)
    have e1 : y.data.toList.length = y.size := by rw [Array.length_toList]; rfl
    omega
theorem bit_and (p : BitVec 32) (k : Nat) (hk : k < 32) : (p.toNat &&& 2 ^ k ≠ 0) ↔ p.getLsbD k = true := by
  have := and_bit p k hk
  rw [bit_toNat k hk] at this
  rw [ne_eq, this]
  simp
/-- One feature more in the text of a valid sound. -/
theorem txtS_step {p m : BitVec 32} (hv : vld p m = true) (l : List ByteArray) (k : Nat) (h : k < l.length) (hk : k < 24) :
    (getV p m k = 0 ∧ txtL (p, m) 0 (l.take (k + 1)) = txtL (p, m) 0 (l.take k)) ∨ (getV p m k = 1 ∧ txtL (p, m) 0 (l.take (k + 1)) = txtL (p, m) 0 (l.take k) ++ [plusS l[k]]) ∨
    (getV p m k = -1 ∧ txtL (p, m) 0 (l.take (k + 1)) = txtL (p, m) 0 (l.take k) ++ [minusS l[k]]) := by
  have ht := txtL_take (p, m) l k h
  have b1 := bit_and p k (by omega)
  have b2 := bit_and m k (by omega)
  have hb := (vld_bits.1 hv k (by omega)).1
  simp only at ht
  unfold getV
  cases hp : p.getLsbD k
  · cases hm : m.getLsbD k
    · left
      rw [if_neg (by rw [b1, hp]; simp), if_neg (by rw [b2, hm]; simp), List.append_nil] at ht
      exact ⟨by simp, ht⟩
    · right; right
      rw [if_neg (by rw [b1, hp]; simp), if_pos (by rw [b2, hm])] at ht
      exact ⟨by simp, ht⟩
  · right; left
    rw [if_pos (by rw [b1, hp])] at ht
    exact ⟨by simp, ht⟩
end Go.Proofs.Ytmgikhldkebjbaa

/-
  The specification's Text: the walk.
-/
namespace Go.Proofs.Ytmgikhldkebjbaa
open Go.RowKit Go.Shelf Go.Sort
/-- What Text returns. -/
def txtV (l : List ByteArray) (s : Snd) : Value := if hasB l.length s = true then .tuple #[.string (txtS l s), .int .i64 0] else .tuple #[.string ⟨#[]⟩, .int .i64 14]
theorem empty_toList {t : ByteArray} : t.toList.isEmpty = decide (t.size = 0) := by
  rw [Bool.eq_iff_iff, decide_eq_true_iff, Lib.toList_data, List.isEmpty_iff]
  constructor
  · intro h
    have h2 : t.data.toList.length = 0 := by rw [h]; rfl
    rwa [Array.length_toList] at h2
  · intro h; rw [bytes_empty h]
set_option maxRecDepth 100000 in
set_option maxHeartbeats 8000000 in
theorem rtext_any {w : World} {base R : Nat} {l : List ByteArray} {a : List (ByteArray × Snd)} {nv av : Value} (h : RInv w base R l a nv av) (hl : l.length ≤ 24) (hx : ∀ x ∈ l, x.size ≤ 16) (s : Snd) : Gives 32 #[.pointer (some ⟨R, 0, none⟩), snv s] w (txtV l s) := by
  unfold Gives txtV
  have hbel := fun (W : World) (hb : Below w.heap.size w W) => rbel_any (h.below hb) hl s
  have hmd := fun (W : World) (hb : Below w.heap.size w W) => rmade_yes R W (h.below hb).cells.1
  have hR := h.lt
  have HI := Lib.hid h
  have HMD := Lib.hid hmd
  obtain ⟨ao, ac, hnv, c1, m1, hcells⟩ := h.names.ss.open
  subst hnv
  have q1 := h.cells.2.1
  obtain ⟨p, m⟩ := s
  have hvld := fun hh => hasB_vld (n := l.length) (p := p) (m := m) hl hh
  have hb0 := (Below.refl w.heap.size w).alloc (Nat.le_refl _) (.cells #[.int .u32 (p.toNat : Int), .int .u32 (m.toNat : Int)] 39)
  unfold snv at *
  have HC := Lib.hid hcells
  clear h hmd hcells
  rcases hB : hasB l.length (p, m) with _ | _
  · rw [hB] at hbel
    have HBL := Lib.hid hbel
    clear hbel hB hvld
    rw [if_neg (by decide)]
    go_enter Try.func32, Try.ntmps32
    go_wp2_with fail
    go_at_call 45
    refine Gives.then (HMD.out _ hb0) ?_
    intro w1 hb
    have hw := hb0.trans (hb.mono hb0.size)
    have r0 := (hb.cell (p := ⟨w.heap.size, 0, none⟩) (by simp)).trans (cell_block (World.alloc_heap_new w _) rfl)
    have r1 := (hb.cell (p := ⟨w.heap.size, 1, none⟩) (by simp)).trans (cell_block (World.alloc_heap_new w _) rfl)
    clear hb hb0
    go_wp2_with fail
    go_at_call 49
    refine Gives.then (HBL.out _ hw) ?_
    intro w2 hb2
    have hw2 := hw.trans (hb2.mono hw.size)
    clear hb2
    go_wp2_with fail
    go_ret2
    exact ⟨rfl, hw2⟩
  · rw [hB] at hbel
    have HBL := Lib.hid hbel
    have HV := Lib.hid (hvld hB)
    clear hbel hB hvld
    rw [if_pos rfl]
    have hST := fun k h h2 => txtS_step HV.out l k h h2
    have hIt := fun k => txtL_items (p, m) (l.take k) 0 (fun x hh => hx x (List.mem_of_mem_take hh))
    have hSz : ∀ k, (joinS (txtL (p, m) 0 (l.take k)) ⟨#[32]⟩).size ≤ 432 := fun k => by
      have h1 := joinS_size (txtL (p, m) 0 (l.take k)) ⟨#[32]⟩ (by decide) (fun x hh => (hIt k x hh).2)
      have h2 := txtL_le (p, m) (l.take k) 0
      rw [List.length_take] at h2
      omega
    have HST := Lib.hid hST; have HIT := Lib.hid hIt; have HSZ := Lib.hid hSz; have HX := Lib.hid hx
    clear hST hIt hSz hx
    go_enter Try.func32, Try.ntmps32
    go_wp2_with fail
    go_at_call 45
    refine Gives.then (HMD.out _ hb0) ?_
    intro w1 hb
    have hw := hb0.trans (hb.mono hb0.size)
    have r0 := (hb.cell (p := ⟨w.heap.size, 0, none⟩) (by simp)).trans (cell_block (World.alloc_heap_new w _) rfl)
    have r1 := (hb.cell (p := ⟨w.heap.size, 1, none⟩) (by simp)).trans (cell_block (World.alloc_heap_new w _) rfl)
    have lw : w.heap.size < w1.heap.size := by have := hb.size; rw [World.size_alloc] at this; omega
    clear hb hb0
    go_wp2_with fail
    go_at_call 49
    refine Gives.then (HBL.out _ hw) ?_
    intro w2 hb2
    have hw2 := hw.trans (hb2.mono hw.size)
    have r0 := (hb2.cell (p := ⟨w.heap.size, 0, none⟩) lw).trans r0
    have r1 := (hb2.cell (p := ⟨w.heap.size, 1, none⟩) lw).trans r1
    have lw2 := Nat.lt_of_lt_of_le lw hb2.size
    have HW2 := Lib.hid hw2
    clear hb2 HBL HMD hw
    go_wp2_with fail
    go_loopw [6, 7] (fun v i wr => ∃ k : Nat, k ≤ l.length ∧ i = .int .i64 (k : Int) ∧ v = .string (joinS (txtL (p, m) 0 (l.take k)) ⟨#[32]⟩) ∧ Below w2.heap.size w2 wr) (fun _ i _ => l.length - (intOf i).toNat)
    case atStart => exact ⟨0, Nat.zero_le _, rfl, rfl, Below.refl _ _⟩
    case round =>
      obtain ⟨k, hk, rfl, rfl, hwr⟩ := hrel
      have hwq := HW2.out.trans (hwr.mono HW2.out.size)
      have c0 := (hwr.cell (p := ⟨w.heap.size, 0, none⟩) lw2).trans r0
      have c1 := (hwr.cell (p := ⟨w.heap.size, 1, none⟩) lw2).trans r1
      have c2 := (hwq.cell (p := ⟨R, 1, none⟩) hR).trans q1
      have HWR := Lib.hid hwr; have HWQ := Lib.hid hwq
      clear r0 r1 q1 hwr hw2
      by_cases hlt : k < l.length
      · obtain ⟨b, off, hao, lb, d0⟩ := HC.out k hlt
        have d0 := (hwq.cell (p := ⟨b, off + k, none⟩) lb).trans d0
        have hsz := HSZ.out k
        have hxk := HX.out l[k] (List.getElem_mem hlt)
        have hget := fun W => rget_ok p m k HV.out (by omega) W
        have lR : R < wr.heap.size := Nat.lt_of_lt_of_le hR HWQ.out.size
        have lbb : b < wr.heap.size := Nat.lt_of_lt_of_le lb HWQ.out.size
        subst hao
        have hne : txtL (p, m) 0 (l.take k) = [] ∨ (txtL (p, m) 0 (l.take k) ≠ [] ∧ 0 < (joinS (txtL (p, m) 0 (l.take k)) ⟨#[32]⟩).size) := by
          by_cases e : txtL (p, m) 0 (l.take k) = []
          · exact .inl e
          · exact .inr ⟨e, joinS_pos (fun x hh => (HIT.out k x hh).1) e⟩
        clear hwq HC
        rcases HST.out k hlt (by omega) with ⟨hg, ht⟩ | ⟨hg, ht⟩ | ⟨hg, ht⟩
        · rw [hg] at hget
          have HG := Lib.hid hget; have HT := Lib.hid ht
          clear hget ht hg hne
          go_wp2_with (go_at_call 59; refine Gives.then (HG.out _) ?_; intro w3 hb3; have HW3 := Lib.hid (HWR.out.trans (hb3.mono HWR.out.size)); clear hb3)
          go_roundw
          case rel => exact ⟨k + 1, by omega, by go_num, by rw [HT.out], HW3.out⟩
          case measure => simp [intOf]; omega
        all_goals (
          rw [hg] at hget
          have HG := Lib.hid hget
          clear hget hg
          rcases hne with hne | ⟨hne, hpos⟩
          · rw [hne, List.nil_append] at ht
            rw [hne]
            have HT := Lib.hid ((congrArg (fun z => joinS z ⟨#[32]⟩) ht).trans (joinS_one _ _))
            rw [joinS_nil]
            clear ht hne hsz
            generalize l[k] = x at *
            have z1 : ¬ (9223372036854775807 < 1 + x.size) := by omega
            have z2 : 1 + x.size ≤ 9223372036854775807 := by omega
            go_wp2_with (go_at_call 59; refine Gives.then (HG.out _) ?_; intro w3 hb3; have HW3 := Lib.hid (HWR.out.trans (hb3.mono HWR.out.size)); have e2 := (hb3.cell (p := ⟨R, 1, none⟩) lR).trans c2; have e3 := (hb3.cell (p := ⟨b, off + k, none⟩) lbb).trans d0; clear hb3)
            go_roundw
            case rel => exact ⟨k + 1, by omega, by go_num, by rw [HT.out]; first | rfl | exact congrArg Value.string (bytes_ext (by simp [append_list, plusS, minusS])), HW3.out⟩
            case measure => simp [intOf]; omega
          · have HT := Lib.hid ((congrArg (fun z => joinS z ⟨#[32]⟩) ht).trans (joinS_snoc _ _ _ hne))
            have e0 : (joinS (txtL (p, m) 0 (l.take k)) ⟨#[32]⟩).toList.isEmpty = false := by rw [empty_toList]; exact decide_eq_false (by omega)
            clear ht hne
            generalize joinS (txtL (p, m) 0 (l.take k)) ⟨#[32]⟩ = o at *
            generalize l[k] = x at *
            have z1 : ¬ (9223372036854775807 < o.size + 1) := by omega
            have z2 : o.size + 1 ≤ 9223372036854775807 := by omega
            have z3 : ¬ (9223372036854775807 < o.size + 1 + 1) := by omega
            have z4 : o.size + 1 + 1 ≤ 9223372036854775807 := by omega
            have z5 : ¬ (9223372036854775807 < o.size + 1 + 1 + x.size) := by omega
            have z6 : o.size + 1 + 1 + x.size ≤ 9223372036854775807 := by omega
            go_wp2_with (go_at_call 59; refine Gives.then (HG.out _) ?_; intro w3 hb3; have HW3 := Lib.hid (HWR.out.trans (hb3.mono HWR.out.size)); have e2 := (hb3.cell (p := ⟨R, 1, none⟩) lR).trans c2; have e3 := (hb3.cell (p := ⟨b, off + k, none⟩) lbb).trans d0; clear hb3)
            go_roundw
            case rel => exact ⟨k + 1, by omega, by go_num, by rw [HT.out]; first | rfl | exact congrArg Value.string (bytes_ext (by simp [append_list, plusS, minusS])), HW3.out⟩
            case measure => simp [intOf]; omega)
      · obtain rfl : k = l.length := by omega
        have HF := Lib.hid (show joinS (txtL (p, m) 0 (l.take l.length)) ⟨#[32]⟩ = txtS l (p, m) from by rw [List.take_length]; rfl)
        go_wp2_with fail
        go_ret2
        exact ⟨by rw [← HF.out]; rfl, HWQ.out⟩
end Go.Proofs.Ytmgikhldkebjbaa

/-
  InventoryTexts: the walk.
-/
namespace Go.Proofs.Ytmgikhldkebjbaa
open Go.RowKit Go.Shelf Go.Sort
attribute [local go_sem] bv_and bv_or ofInt32_nat
set_option maxHeartbeats 1000000 in
theorem text_bad {w : World} {base B : Nat} {l : List ByteArray} {a : List (ByteArray × Snd)} {nv av : Value} {bf bs by_ : Nat} (h : Inv w base B l a nv av bf bs by_) (hl : l.length ≤ 24) (s : Snd) (hs : hasB l.length s = false) : Gives 31 #[.pointer (some ⟨B, 0, none⟩), snv s] w (.tuple #[.string ⟨#[]⟩, .int .i64 14]) := by
  unfold Gives
  have hv := fun (W : World) (hb : Below w.heap.size w W) => valid_yes B W (h.below hb).cells.1
  have hh := fun (W : World) (hb : Below w.heap.size w W) => has_any (h.below hb) s hl
  rw [hs] at hh
  unfold snv at *
  have HV := Lib.hid hv; have HH := Lib.hid hh
  have hb0 := (Below.refl w.heap.size w).alloc (Nat.le_refl _) (.cells #[.int .u32 (s.1.toNat : Int), .int .u32 (s.2.toNat : Int)] 39)
  clear h hv hh hs
  go_enter Try.func31, Try.ntmps31
  go_wp2_with fail
  go_at_call 44
  refine Gives.then (HV.out _ hb0) ?_
  intro w1 hb
  have hw := hb0.trans (hb.mono hb0.size)
  have r0 := (hb.cell (p := ⟨w.heap.size, 0, none⟩) (by simp)).trans (cell_block (World.alloc_heap_new w _) rfl)
  have r1 := (hb.cell (p := ⟨w.heap.size, 1, none⟩) (by simp)).trans (cell_block (World.alloc_heap_new w _) rfl)
  clear hb hb0
  go_wp2_with fail
  go_at_call 47
  refine Gives.then (HH.out _ hw) ?_
  intro w2 hb2
  have hw2 := hw.trans (hb2.mono hw.size)
  clear hb2 hw
  go_wp2_with fail
  go_ret2
  exact ⟨rfl, hw2⟩
theorem text_all {w : World} {base B : Nat} {l : List ByteArray} {a : List (ByteArray × Snd)} {nv av : Value} {bf bs by_ : Nat} (h : Inv w base B l a nv av bf bs by_) (hl : l.length ≤ 24) (hx : ∀ x ∈ l, x.size ≤ 16) (s : Snd) : Gives 31 #[.pointer (some ⟨B, 0, none⟩), snv s] w (txtV l s) := by
  unfold txtV
  by_cases hs : hasB l.length s = true
  · rw [if_pos hs]
    refine text_any h hl s hs (fun x hh => Nat.le_trans (hx x hh) (by decide)) ?_
    have h1 := joinS_size (txtL s 0 l) ⟨#[32]⟩ (by decide) (fun x hh => (txtL_items s l 0 hx x hh).2)
    have h2 := txtL_le s l 0
    unfold txtS
    omega
  · rw [if_neg hs]
    exact text_bad h hl s (by simpa using hs)
theorem rtext_nil (s : Snd) (w : World) : Gives 32 #[.pointer none, snv s] w (.tuple #[.string ⟨#[]⟩, .int .i64 1]) := by
  unfold Gives snv
  go_enter Try.func32, Try.ntmps32
  go_wp2_with (go_at_call 45; refine Gives.then (rmade_nil _) ?_; intro w1 hb)
  have hb0 := (Below.refl w.heap.size w).alloc (Nat.le_refl _) (.cells #[.int .u32 (s.1.toNat : Int), .int .u32 (s.2.toNat : Int)] 39)
  go_ret2
  exact ⟨rfl, hb0.trans (hb.mono hb0.size)⟩
/-- What Text returns of what both returned. -/
theorem both_text {w : World} {base : Nat} {l : List ByteArray} {pv pr : Value} (h : Both w base l pv pr) (s : Snd) : ∃ (t : ByteArray) (e : Int), ∀ W, Below w.heap.size w W →
    Gives 31 #[pv, snv s] W (.tuple #[.string t, .int .i64 e]) ∧ Gives 32 #[pr, snv s] W (.tuple #[.string t, .int .i64 e]) := by
  rcases h with ⟨_, rfl, rfl⟩ | ⟨h0, B, R, nv, bf, bs, by_, rv, rfl, rfl, hI, hR⟩
  · exact ⟨⟨#[]⟩, 1, fun W hb => ⟨no_text (noInv_nil W) s, rtext_nil s W⟩⟩
  · have hl := newE_len h0
    have hx := newE_size h0
    by_cases hs : hasB l.length s = true
    · refine ⟨txtS l s, 0, fun W hb => ?_⟩
      have h1 := text_all (hI.below hb) hl hx s
      have h2 := rtext_any (hR.below hb) hl hx s
      unfold txtV at h1 h2
      rw [if_pos hs] at h1 h2
      exact ⟨h1, h2⟩
    · refine ⟨⟨#[]⟩, 14, fun W hb => ?_⟩
      have h1 := text_all (hI.below hb) hl hx s
      have h2 := rtext_any (hR.below hb) hl hx s
      unfold txtV at h1 h2
      rw [if_neg hs] at h1 h2
      exact ⟨h1, h2⟩
theorem Both.ptrs {w : World} {base : Nat} {l : List ByteArray} {pv pr : Value} (h : Both w base l pv pr) : (∃ q, pv = .pointer q) ∧ ∃ q, pr = .pointer q := by
  rcases h with ⟨_, rfl, rfl⟩ | ⟨h0, B, R, nv, bf, bs, by_, rv, rfl, rfl, hI, hR⟩
  · exact ⟨⟨_, rfl⟩, ⟨_, rfl⟩⟩
  · exact ⟨⟨_, rfl⟩, ⟨_, rfl⟩⟩
theorem ss_nil (w : World) : Ss w (.slice none 0 0) [] := .inl ⟨rfl, rfl⟩
set_option maxRecDepth 100000 in
set_option maxHeartbeats 4000000 in
theorem texts_any (l : List ByteArray) (v : Value) (s : Snd) (w : World) (hx : ∀ x ∈ l, x.size ≤ maxLen) (h : Ss w v l) : Gives 6 #[v, snv s] w (.bool true) := by
  unfold Gives snv
  have hb0 := (Below.refl w.heap.size w).alloc (Nat.le_refl _) (.cells #[.int .u32 (s.1.toNat : Int), .int .u32 (s.2.toNat : Int)] 39)
  have hfew := fun (W : World) (hb : Below w.heap.size w W) => few_some l [] v (.slice none 0 0) W (h.below hb) (ss_nil W) hx (fun x hh => by cases hh)
  have hboth := fun (W : World) (hb : Below w.heap.size w W) => both_any l v W hx (h.below hb)
  obtain ⟨ao, cap, rfl, -, -, -⟩ := h.open
  have HF := Lib.hid hfew; have HBo := Lib.hid hboth
  clear hfew hboth h hx
  go_enter Try.func6, Try.ntmps6
  go_wp2_with fail
  go_at_call 13
  refine (HF.out _ hb0).mono ?_
  rintro e w1 ⟨F, rfl, -, hb⟩
  have hw := hb0.trans (hb.mono hb0.size)
  have r0 := (hb.cell (p := ⟨w.heap.size, 0, none⟩) (by simp)).trans (cell_block (World.alloc_heap_new w _) rfl)
  have r1 := (hb.cell (p := ⟨w.heap.size, 1, none⟩) (by simp)).trans (cell_block (World.alloc_heap_new w _) rfl)
  have lw : w.heap.size < w1.heap.size := by have := hb.size; rw [World.size_alloc] at this; omega
  clear hb hb0 HF
  cases F
  · go_wp2_with (go_at_call 14; refine Gives.then (works_any _) ?_; intro w2 hb2)
    go_returns
    exact ⟨rfl, hw.trans (hb2.mono hw.size)⟩
  · go_wp2_with fail
    go_at_call 16
    refine (HBo.out _ hw).mono ?_
    rintro e w2 ⟨hb2, pv, pr, rfl, hBB⟩
    have hw2 := hw.trans (hb2.mono hw.size)
    have r0 := (hb2.cell (p := ⟨w.heap.size, 0, none⟩) lw).trans r0
    have r1 := (hb2.cell (p := ⟨w.heap.size, 1, none⟩) lw).trans r1
    have lw := Nat.lt_of_lt_of_le lw hb2.size
    obtain ⟨t, e, hT⟩ := both_text hBB s
    obtain ⟨⟨qv, rfl⟩, ⟨qr, rfl⟩⟩ := hBB.ptrs
    unfold snv at hT
    have HT := Lib.hid hT
    clear hb2 hBB hT hw HBo
    go_wp2_with fail
    go_at_call 31
    refine Gives.then (HT.out w2 (Below.refl _ _)).1 ?_
    intro w3 hb3
    have hw3 := hw2.trans (hb3.mono hw2.size)
    have r0 := (hb3.cell (p := ⟨w.heap.size, 0, none⟩) lw).trans r0
    have r1 := (hb3.cell (p := ⟨w.heap.size, 1, none⟩) lw).trans r1
    have HB3 := Lib.hid hb3
    clear hb3
    go_wp2_with fail
    go_at_call 32
    refine Gives.then (HT.out w3 HB3.out).2 ?_
    intro w4 hb4
    have hw4 := hw3.trans (hb4.mono hw3.size)
    have HW4 := Lib.hid hw4
    clear hb4 hw4 hw3 hw2 HT HB3 r0 r1
    go_wp2_with (go_at_call 14; refine Gives.then (works_any _) ?_; intro w5 hb5)
    go_returns
    exact ⟨rfl, HW4.out.trans (hb5.mono HW4.out.size)⟩
end Go.Proofs.Ytmgikhldkebjbaa
