/-
  Bundle: reading values of features.
-/
import Derived.Test.YtmgikhldkebjbaaIo
import Derived.Test.YtmgikhldkebjbaaIp
namespace Go.Proofs.Ytmgikhldkebjbaa
open Go.RowKit Go.Shelf Go.Sort
attribute [local go_sem] Oper.semAt_some
attribute [local go_sem] bv_and bv_or ofInt32_nat
/-- One item more. -/
def stepB (l : List ByteArray) (s : Snd) (x : ByteArray) : Option Snd := match valS l x with
  | none => none
  | some o => if valN s &&& valN o = 0 then some (s.1 ||| o.1, s.2 ||| o.2) else none
def bunL (l : List ByteArray) : Snd → List ByteArray → Option Snd
  | s, [] => some s
  | s, x :: xs => match stepB l s x with
    | none => none
    | some r => bunL l r xs
/-- The sound that a bundle's text gives. -/
def bunS (l : List ByteArray) (t : ByteArray) : Option Snd := bunL l (0#32, 0#32) (itemsS t)
theorem bunL_snoc {l : List ByteArray} {x : ByteArray} : ∀ (pre : List ByteArray) (s r : Snd), bunL l s pre = some r → bunL l s (pre ++ [x]) = stepB l r x
  | [], s, r, h => by
    have h : some s = some r := h
    cases h
    show (match stepB l s x with | none => none | some r => some r) = _
    cases stepB l s x <;> rfl
  | y :: ys, s, r, h => by
    simp only [List.cons_append, bunL] at h ⊢
    cases hy : stepB l s y with
    | none => rw [hy] at h; cases h
    | some q => rw [hy] at h; exact bunL_snoc ys q r h
theorem bunL_stop {l : List ByteArray} : ∀ (pre post : List ByteArray) (s : Snd), bunL l s pre = none → bunL l s (pre ++ post) = none
  | [], _, _, h => by cases h
  | y :: ys, post, s, h => by
    simp only [List.cons_append, bunL] at h ⊢
    cases hy : stepB l s y with
    | none => rfl
    | some q => rw [hy] at h; exact bunL_stop ys post q h
/-- What Bundle returns. -/
def bunV : Option Snd → Value
  | some r => .tuple #[snv r, .int .i64 0]
  | none => .tuple #[snv (0#32, 0#32), .int .i64 10]
theorem wpIn_gen {F : Fence} {k : Nat} {P : Program} {c : Code} {Q : Exit → Act → World → Prop} {a : Act} {W : World} (h : ∀ W1, W1 = W → c.wpIn F k P Q a W1) : c.wpIn F k P Q a W := h W rfl
theorem ko_of_below {W W' : World} (h : Below W.heap.size W W') : KeepsOthers W W' := ⟨h.size, fun k o hk _ => (h.block k (Array.getElem?_eq_some_iff.1 hk).1).trans hk⟩
set_option maxHeartbeats 400000 in
theorem itemsSeq_any (t : ByteArray) (w : World) :
    Calls Try.prog 55 #[.string t] w fun e w' => e = .returned (.func (.func 75) #[] #[.pointer (some ⟨w.heap.size, 0, none⟩)]) ∧ w.alloc (.cells #[.string t] 9) = w' := by
  go_enter Try.func55, Try.ntmps55
  go_wp2
  go_returns
  exact ⟨rfl, rfl⟩
theorem valuedX (s : Snd) (w : World) : Calls Try.prog 57 #[snv s] w fun e w' => e = .returned (.int .u32 (valN s : Nat)) ∧ w.alloc (.cells #[.int .u32 (s.1.toNat : Int), .int .u32 (s.2.toNat : Int)] 39) = w' := by
  unfold snv valN
  obtain ⟨p, m⟩ := s
  go_enter Try.func57, Try.ntmps57
  go_wp2
  go_returns
  exact ⟨by simp, rfl⟩
/-- The cells that Bundle's call has made and not yet written. -/
def Fix (n B : Nat) (W : World) : Prop := W.cell? ⟨n, 0, none⟩ = some (.pointer (some ⟨B, 0, none⟩)) ∧ (W.cell? ⟨n + 1, 0, none⟩ = some (.int .u32 0) ∧ W.cell? ⟨n + 1, 1, none⟩ = some (.int .u32 0) ∧ W.frozen? ⟨n + 1, 0, none⟩ = false ∧ W.frozen? ⟨n + 1, 1, none⟩ = false) ∧ W.cell? ⟨n + 2, 0, none⟩ = some (.int .i64 0) ∧ W.frozen? ⟨n + 2, 0, none⟩ = false
def Acc (l : List ByteArray) (b6 : Nat) (pre : List Tx) (W : World) : Prop := ∃ r : Snd, bunL l (0#32, 0#32) (raw pre) = some r ∧ W.cell? ⟨b6, 0, none⟩ = some (.int .u32 (r.1.toNat : Int)) ∧ W.cell? ⟨b6, 1, none⟩ = some (.int .u32 (r.2.toNat : Int)) ∧ W.frozen? ⟨b6, 0, none⟩ = false ∧ W.frozen? ⟨b6, 1, none⟩ = false
def Bad (l : List ByteArray) (n : Nat) (c : Code) (pre : List Tx) (W : World) : Prop := c = .ret ∧ bunL l (0#32, 0#32) (raw pre) = none ∧ W.cell? ⟨n + 1, 0, none⟩ = some (.int .u32 0) ∧ W.cell? ⟨n + 1, 1, none⟩ = some (.int .u32 0) ∧ W.cell? ⟨n + 2, 0, none⟩ = some (.int .i64 10)
theorem Fix.own (n B : Nat) : Own (fun (_ : List Tx) W => Fix n B W) := by
  rintro s W W' row ⟨h1, ⟨h2, h3, h4, h5⟩, h6, h7⟩ hg hr
  exact ⟨cell_kept h1 hg hr, ⟨cell_kept h2 hg hr, cell_kept h3 hg hr, (frozen_kept h2 hg hr).trans h4, (frozen_kept h3 hg hr).trans h5⟩, cell_kept h6 hg hr, (frozen_kept h6 hg hr).trans h7⟩
theorem Acc.own (l : List ByteArray) (b6 : Nat) : Own (Acc l b6) := by
  rintro s W W' row ⟨r, h0, h2, h3, h4, h5⟩ hg hr
  exact ⟨r, h0, cell_kept h2 hg hr, cell_kept h3 hg hr, (frozen_kept h2 hg hr).trans h4, (frozen_kept h3 hg hr).trans h5⟩
theorem Bad.own (l : List ByteArray) (n : Nat) (c : Code) : Own (Bad l n c) := by
  rintro s W W' row ⟨h0, h1, h2, h3, h4⟩ hg hr
  exact ⟨h0, h1, cell_kept h2 hg hr, cell_kept h3 hg hr, cell_kept h4 hg hr⟩
theorem valuedA (p m : BitVec 32) (w : World) : Gives 57 #[.agg #[.int .u32 (p.toNat : Int), .int .u32 (m.toNat : Int)]] w (.int .u32 ((p ||| m).toNat : Int)) := by
  have h := valued_any (p, m) w
  have e : valN (p, m) = (p ||| m).toNat := by simp [valN]
  rw [e] at h
  exact h
theorem ko_drew {A B : World} (h : KeepsOthers A B) : KeepsOthers A B.drew := ⟨h.1, h.2⟩
theorem chain6 {W6 X w7 : World} (hX : Below W6.heap.size W6 X) (hbv : Below X.heap.size X w7) : Below W6.heap.size W6 w7 := hX.trans (hbv.mono hX.size)
set_option maxHeartbeats 4000000 in
set_option maxRecDepth 100000 in
theorem bundle_any {w : World} {base B : Nat} {l : List ByteArray} {a : List (ByteArray × Snd)} {nv av : Value} {bf bs by_ : Nat} (h : Inv w base B l a nv av bf bs by_) (hl : l.length ≤ 24) (t : ByteArray) (ht : t.size ≤ 9223372036854775807) : Gives 29 #[.pointer (some ⟨B, 0, none⟩), .string t] w (bunV (bunS l t)) := by
  unfold Gives
  have hB := h.lt
  have hv := fun (W : World) (hb : Below w.heap.size w W) => valid_yes B W (h.below hb).cells.1
  have HI := Lib.hid h; have HV := Lib.hid hv
  clear h hv
  refine (callsIn_wide (n := 5)).1 ?_
  refine callsIn_of_wp_marks Try.func29 rfl trivial ?_ rfl
  simp only [Try.ntmps29, List.size_toArray, List.length_cons, List.length_nil, Nat.reduceAdd, Nat.reduceSub, Array.replicate_succ, Array.replicate_zero, List.push_toArray, List.append_toArray, List.nil_append, List.cons_append]
  gi_wp2_with (first | (refine ⟨trivial, ?_⟩; gi_at_call 44; refine (callsIn_wide.2 (HV.out _ (by go_grown))).mono ?_; rintro e wa ⟨rfl, hwa⟩) | (refine ⟨trivial, ?_⟩; gi_at_call 55; refine (callsIn_wide.2 (itemsSeq_any _ _)).mono ?_; rintro e w2 ⟨rfl, rfl⟩))
  refine wpIn_gen ?_
  intro W1 hW1
  have hb0 : Below w.heap.size w wa := by
    have hq : Below w.heap.size w (((w.alloc (.cells #[.pointer (some ⟨B, 0, none⟩)] 26)).alloc (.cells #[.int .u32 0, .int .u32 0] 39)).alloc (.cells #[.int .i64 0] 42)) := by go_grown
    exact hq.trans (hwa.mono hq.size)
  have hza : w.heap.size + 3 ≤ wa.heap.size := by have := hwa.size; simp only [World.size_alloc] at this; omega
  have hB1 : Below w.heap.size w W1 := by
    rw [hW1]; exact hb0.trans (((Below.refl _ wa).alloc (by have := hb0.size; omega) _).alloc (by rw [World.size_alloc]; have := hb0.size; omega) _)
  have hz1 : W1.heap.size = wa.heap.size + 2 := by rw [hW1, World.size_alloc, World.size_alloc]
  obtain ⟨hc, hf, -⟩ := bcell hwa
  have hF1 : Fix w.heap.size B W1 := by
    rw [hW1]
    have k := (alloc_lt (X := wa.heap.size) (w1 := wa) (Nat.le_refl _)).2
    have kf : ∀ O O' b o, b < wa.heap.size → ((wa.alloc O).alloc O').frozen? ⟨b, o, none⟩ = wa.frozen? ⟨b, o, none⟩ := fun O O' b o hb => (((Below.refl wa.heap.size wa).alloc (Nat.le_refl _) O).alloc (by rw [World.size_alloc]; omega) O').frozen (p := ⟨b, o, none⟩) hb
    refine ⟨?_, ⟨?_, ?_, ?_, ?_⟩, ?_, ?_⟩
    · rw [k _ _ _ _ (by omega), hc _ _ (by simp only [World.size_alloc]; omega)]; go_cell
    · rw [k _ _ _ _ (by omega), hc _ _ (by simp only [World.size_alloc]; omega)]; go_cell
    · rw [k _ _ _ _ (by omega), hc _ _ (by simp only [World.size_alloc]; omega)]; go_cell
    · rw [kf _ _ _ _ (by omega), hf _ _ (by simp only [World.size_alloc]; omega)]; go_simp
    · rw [kf _ _ _ _ (by omega), hf _ _ (by simp only [World.size_alloc]; omega)]; go_simp
    · rw [k _ _ _ _ (by omega), hc _ _ (by simp only [World.size_alloc]; omega)]; go_cell
    · rw [kf _ _ _ _ (by omega), hf _ _ (by simp only [World.size_alloc]; omega)]; go_simp
  have hA1 : Acc l wa.heap.size [] W1 := by
    rw [hW1]
    exact ⟨(0#32, 0#32), rfl, by go_cell, by go_cell, by go_simp, by go_simp⟩
  have hT1 : W1.cell? ⟨wa.heap.size + 1, 0, none⟩ = some (.string t) := by rw [hW1]; go_cell
  have HIB := Lib.hid (fun (W : World) (hb : Below w.heap.size w W) => HI.out.below hb)
  clear hc hf hW1 hwa HI HV
  generalize hn6 : wa.heap.size = b6 at *
  refine wpIn_rangeFunc_ownF (α := Tx) rfl (by decide) (gf := 75) (lb := #[.pointer (some ⟨b6 + 1, 0, none⟩)]) rfl trivial (enters_of Try.func75 (by kernel_rfl) rfl)
    (encs := encT) (S := fun ys => raw ys = itemsS t) (Sp := fun pre => raw pre <+: itemsS t) (N := (itemsS t).length) (w0 := W1) (Kp := Below w.heap.size)
    (fun lid J Jx W hW hab _ hY h0 => items_in _ (by decide) lid (b6 + 1) w.heap.size t ht J Jx W hab hY ((hW.cell (p := ⟨b6 + 1, 0, none⟩) (by simp only []; omega)).trans hT1) h0)
    belowK_t (belowK_b (by have := hB1.size; omega)) (Below.refl _ _) (fun _ => rfl)
    (fun pre W => (Acc l b6 pre W ∧ Fix w.heap.size B W) ∧ Below w.heap.size w W)
    (fun c pre W => Bad l w.heap.size c pre W ∧ Below w.heap.size w W)
    (OwnFrom.and (OwnFrom.and ((Acc.own l b6).from _) ((Fix.own w.heap.size B).from _)) (ownFrom_below (Nat.le_refl _) (by have := hB1.size; omega)))
    (fun c => OwnFrom.and ((Bad.own l w.heap.size c).from _) (ownFrom_below (Nat.le_refl _) (by have := hB1.size; omega)))
    ⟨⟨hA1, hF1⟩, hB1⟩
    ?a1 ?assign ?body ?done ?stop
  case assign =>
    intro lid x W K hK
    gi_wp2
    exact hK
  case body =>
    rintro lid pre x W ⟨⟨⟨r, hr, a0, a1, a2, a3⟩, f0, ⟨f1, f2, f3, f4⟩, f5, f6⟩, hB⟩ hlen
    have hval := value_any (HIB.out W hB) hl x.1 x.2
    have hrs := raw_snoc pre x
    have hsn := bunL_snoc (x := x.1) (raw pre) _ r hr
    rw [← hrs] at hsn
    have HB := Lib.hid hB
    have sz6 : b6 < W.heap.size := World.block_lt_of_cell? _ _ a0
    clear hr hrs hlen hF1 hA1 hT1
    obtain ⟨x, hx⟩ := x
    simp only at hval hsn
    rcases hvx : valS l x with _ | o
    · have hst : stepB l r x = none := by unfold stepB; rw [hvx]
      rw [hst] at hsn
      have hval2 : Gives 56 #[.pointer (some ⟨B, 0, none⟩), .string x] W (.tuple #[.agg #[.int .u32 0, .int .u32 0], .bool false]) := by rw [hvx] at hval; exact hval
      have HVAL := Lib.hid hval2; have HSN := Lib.hid hsn
      clear hval hval2 hsn hst hvx hB
      gi_wp2_with (refine ⟨trivial, ?_⟩; gi_at_call 56; refine (CallsIn.inRound lid (callsIn_wide.2 HVAL.out)).mono ?_; rintro e w5 ⟨rfl, hb5⟩; obtain ⟨kc, kf, kz⟩ := bcell hb5)
      refine wpIn_gen ?_
      intro W6 hW6
      have lb : w.heap.size + 2 < W.heap.size := World.block_lt_of_cell? _ _ f5
      have hb6 : Below W.heap.size W W6 := by rw [hW6]; exact hb5.alloc kz _
      have g0 : W6.cell? ⟨w.heap.size, 0, none⟩ = some (.pointer (some ⟨B, 0, none⟩)) := (hb6.cell (p := ⟨w.heap.size, 0, none⟩) (by simp only []; omega)).trans f0
      have g1 : W6.cell? ⟨w.heap.size + 1, 0, none⟩ = some (.int .u32 0) := (hb6.cell (p := ⟨w.heap.size + 1, 0, none⟩) (by simp only []; omega)).trans f1
      have g2 : W6.cell? ⟨w.heap.size + 1, 1, none⟩ = some (.int .u32 0) := (hb6.cell (p := ⟨w.heap.size + 1, 1, none⟩) (by simp only []; omega)).trans f2
      have g3 : W6.frozen? ⟨w.heap.size + 1, 0, none⟩ = false := (hb6.frozen (p := ⟨w.heap.size + 1, 0, none⟩) (by simp only []; omega)).trans f3
      have g4 : W6.frozen? ⟨w.heap.size + 1, 1, none⟩ = false := (hb6.frozen (p := ⟨w.heap.size + 1, 1, none⟩) (by simp only []; omega)).trans f4
      have g5 : W6.cell? ⟨w.heap.size + 1 + 1, 0, none⟩ = some (.int .i64 0) := (hb6.cell (p := ⟨w.heap.size + 2, 0, none⟩) (by simp only []; omega)).trans f5
      have g6 : W6.frozen? ⟨w.heap.size + 1 + 1, 0, none⟩ = false := (hb6.frozen (p := ⟨w.heap.size + 2, 0, none⟩) (by simp only []; omega)).trans f6
      have e0 : W6.cell? ⟨b6, 0, none⟩ = some (.int .u32 (r.1.toNat : Int)) := (hb6.cell (p := ⟨b6, 0, none⟩) sz6).trans a0
      have e1 : W6.cell? ⟨b6, 1, none⟩ = some (.int .u32 (r.2.toNat : Int)) := (hb6.cell (p := ⟨b6, 1, none⟩) sz6).trans a1
      have e2 : W6.frozen? ⟨b6, 0, none⟩ = false := (hb6.frozen (p := ⟨b6, 0, none⟩) sz6).trans a2
      have e3 : W6.frozen? ⟨b6, 1, none⟩ = false := (hb6.frozen (p := ⟨b6, 1, none⟩) sz6).trans a3
      have HB6 := Lib.hid hb6
      clear hb6 hW6 kc kf hb5
      have hmx : Try.prog.follows .mixedOrders = true := by kernel_rfl
      gi_region_with_o (refine ⟨trivial, ?_⟩)
      all_goals (gi_wp2_with fail)
      all_goals (
        have ko := (ko_of_below HB6.out).trans (((KeepsOthers.setCell W6 ⟨w.heap.size + 1, 0, none⟩ (.int .u32 0)).trans (KeepsOthers.setCell _ ⟨w.heap.size + 1, 1, none⟩ (.int .u32 0))).trans (KeepsOthers.setCell _ ⟨w.heap.size + 1 + 1, 0, none⟩ (.int .i64 10)))
        have hb4 := ((((HB.out.trans (HB6.out.mono (by omega))).setCell (p := ⟨w.heap.size + 1, 0, none⟩) (by simp only []; omega) (.int .u32 0)).setCell (p := ⟨w.heap.size + 1, 1, none⟩) (by simp only []; omega) (.int .u32 0)).setCell (p := ⟨w.heap.size + 1 + 1, 0, none⟩) (by simp only []; omega) (.int .i64 10)).drew
        exact ⟨ko_drew ko, ⟨rfl, HSN.out, by go_cell, by go_cell, by go_cell⟩, hb4⟩)
    · have hst : stepB l r x = if valN r &&& valN o = 0 then some (r.1 ||| o.1, r.2 ||| o.2) else none := by unfold stepB; rw [hvx]
      rw [hst] at hsn
      have hval2 : Gives 56 #[.pointer (some ⟨B, 0, none⟩), .string x] W (.tuple #[.agg #[.int .u32 (o.1.toNat : Int), .int .u32 (o.2.toNat : Int)], .bool true]) := by rw [hvx] at hval; exact hval
      have HVAL := Lib.hid hval2; have HSN := Lib.hid hsn
      clear hval hval2 hsn hst hvx hB
      gi_wp2_with (refine ⟨trivial, ?_⟩; gi_at_call 56; refine (CallsIn.inRound lid (callsIn_wide.2 HVAL.out)).mono ?_; rintro e w5 ⟨rfl, hb5⟩; obtain ⟨kc, kf, kz⟩ := bcell hb5)
      have n0 : (w5.alloc (.cells #[.int .u32 (o.1.toNat : Int), .int .u32 (o.2.toNat : Int)] 39)).cell? ⟨w5.heap.size, 0, none⟩ = some (.int .u32 (o.1.toNat : Int)) := by go_cell
      have n1 : (w5.alloc (.cells #[.int .u32 (o.1.toNat : Int), .int .u32 (o.2.toNat : Int)] 39)).cell? ⟨w5.heap.size, 1, none⟩ = some (.int .u32 (o.2.toNat : Int)) := by go_cell
      refine wpIn_gen ?_
      intro W6 hW6
      have lb : w.heap.size + 2 < W.heap.size := World.block_lt_of_cell? _ _ f5
      have hb6 : Below W.heap.size W W6 := by rw [hW6]; exact hb5.alloc kz _
      have g0 : W6.cell? ⟨w.heap.size, 0, none⟩ = some (.pointer (some ⟨B, 0, none⟩)) := (hb6.cell (p := ⟨w.heap.size, 0, none⟩) (by simp only []; omega)).trans f0
      have g1 : W6.cell? ⟨w.heap.size + 1, 0, none⟩ = some (.int .u32 0) := (hb6.cell (p := ⟨w.heap.size + 1, 0, none⟩) (by simp only []; omega)).trans f1
      have g2 : W6.cell? ⟨w.heap.size + 1, 1, none⟩ = some (.int .u32 0) := (hb6.cell (p := ⟨w.heap.size + 1, 1, none⟩) (by simp only []; omega)).trans f2
      have g3 : W6.frozen? ⟨w.heap.size + 1, 0, none⟩ = false := (hb6.frozen (p := ⟨w.heap.size + 1, 0, none⟩) (by simp only []; omega)).trans f3
      have g4 : W6.frozen? ⟨w.heap.size + 1, 1, none⟩ = false := (hb6.frozen (p := ⟨w.heap.size + 1, 1, none⟩) (by simp only []; omega)).trans f4
      have g5 : W6.cell? ⟨w.heap.size + 1 + 1, 0, none⟩ = some (.int .i64 0) := (hb6.cell (p := ⟨w.heap.size + 2, 0, none⟩) (by simp only []; omega)).trans f5
      have g6 : W6.frozen? ⟨w.heap.size + 1 + 1, 0, none⟩ = false := (hb6.frozen (p := ⟨w.heap.size + 2, 0, none⟩) (by simp only []; omega)).trans f6
      have e0 : W6.cell? ⟨b6, 0, none⟩ = some (.int .u32 (r.1.toNat : Int)) := (hb6.cell (p := ⟨b6, 0, none⟩) sz6).trans a0
      have e1 : W6.cell? ⟨b6, 1, none⟩ = some (.int .u32 (r.2.toNat : Int)) := (hb6.cell (p := ⟨b6, 1, none⟩) sz6).trans a1
      have e2 : W6.frozen? ⟨b6, 0, none⟩ = false := (hb6.frozen (p := ⟨b6, 0, none⟩) sz6).trans a2
      have e3 : W6.frozen? ⟨b6, 1, none⟩ = false := (hb6.frozen (p := ⟨b6, 1, none⟩) sz6).trans a3
      rw [← hW6] at n0 n1
      have hz6 : w5.heap.size < W6.heap.size := by rw [hW6, World.size_alloc]; omega
      have HB6 := Lib.hid hb6
      clear hb6 hW6 kc kf hb5
      generalize w5.heap.size = b8 at *
      have hs6 := HB6.out.size
      have hmx : Try.prog.follows .mixedOrders = true := by kernel_rfl
      by_cases hz : valN r &&& valN o = 0
      · have hne : (((((r.1.toNat ||| r.2.toNat) &&& (o.1.toNat ||| o.2.toNat)) : Nat) : Int) != 0) = false := by
          have e : (r.1.toNat ||| r.2.toNat) &&& (o.1.toNat ||| o.2.toNat) = 0 := hz
          rw [e]; rfl
        rw [if_pos hz] at HSN
        clear hz
        gi_region_with_o (first | (refine ⟨trivial, ?_⟩; gi_at_call 57; refine (CallsIn.inRound lid (callsIn_wide.2 (valuedA r.1 r.2 _))).mono ?_; rintro e w7 ⟨rfl, hbv⟩; have hn : Below W6.heap.size W6 w7 := chain6 (by first | assumption | exact (Below.refl _ W6).drew) hbv; have tg1 := (hn.cell (p := ⟨w.heap.size + 1, 0, none⟩) (by simp only []; omega)).trans g1; have tg2 := (hn.cell (p := ⟨w.heap.size + 1, 1, none⟩) (by simp only []; omega)).trans g2; have tg3 := (hn.frozen (p := ⟨w.heap.size + 1, 0, none⟩) (by simp only []; omega)).trans g3; have tg4 := (hn.frozen (p := ⟨w.heap.size + 1, 1, none⟩) (by simp only []; omega)).trans g4; have tg5 := (hn.cell (p := ⟨w.heap.size + 1 + 1, 0, none⟩) (by simp only []; omega)).trans g5; have tg6 := (hn.frozen (p := ⟨w.heap.size + 1 + 1, 0, none⟩) (by simp only []; omega)).trans g6; have te0 := (hn.cell (p := ⟨b6, 0, none⟩) (by simp only []; omega)).trans e0; have te1 := (hn.cell (p := ⟨b6, 1, none⟩) (by simp only []; omega)).trans e1; have te2 := (hn.frozen (p := ⟨b6, 0, none⟩) (by simp only []; omega)).trans e2; have te3 := (hn.frozen (p := ⟨b6, 1, none⟩) (by simp only []; omega)).trans e3; have tn0 := (hn.cell (p := ⟨b8, 0, none⟩) (by simp only []; omega)).trans n0; have tn1 := (hn.cell (p := ⟨b8, 1, none⟩) (by simp only []; omega)).trans n1; have tg0 := (hn.cell (p := ⟨w.heap.size, 0, none⟩) (by simp only []; omega)).trans g0; clear hbv) | (refine ⟨trivial, ?_⟩; gi_at_call 57; refine (CallsIn.inRound lid (callsIn_wide.2 (valuedA o.1 o.2 _))).mono ?_; rintro e w7 ⟨rfl, hbv⟩; have hn : Below W6.heap.size W6 w7 := chain6 (by first | assumption | exact (Below.refl _ W6).drew) hbv; have tg1 := (hn.cell (p := ⟨w.heap.size + 1, 0, none⟩) (by simp only []; omega)).trans g1; have tg2 := (hn.cell (p := ⟨w.heap.size + 1, 1, none⟩) (by simp only []; omega)).trans g2; have tg3 := (hn.frozen (p := ⟨w.heap.size + 1, 0, none⟩) (by simp only []; omega)).trans g3; have tg4 := (hn.frozen (p := ⟨w.heap.size + 1, 1, none⟩) (by simp only []; omega)).trans g4; have tg5 := (hn.cell (p := ⟨w.heap.size + 1 + 1, 0, none⟩) (by simp only []; omega)).trans g5; have tg6 := (hn.frozen (p := ⟨w.heap.size + 1 + 1, 0, none⟩) (by simp only []; omega)).trans g6; have te0 := (hn.cell (p := ⟨b6, 0, none⟩) (by simp only []; omega)).trans e0; have te1 := (hn.cell (p := ⟨b6, 1, none⟩) (by simp only []; omega)).trans e1; have te2 := (hn.frozen (p := ⟨b6, 0, none⟩) (by simp only []; omega)).trans e2; have te3 := (hn.frozen (p := ⟨b6, 1, none⟩) (by simp only []; omega)).trans e3; have tn0 := (hn.cell (p := ⟨b8, 0, none⟩) (by simp only []; omega)).trans n0; have tn1 := (hn.cell (p := ⟨b8, 1, none⟩) (by simp only []; omega)).trans n1; have tg0 := (hn.cell (p := ⟨w.heap.size, 0, none⟩) (by simp only []; omega)).trans g0; clear hbv))
        all_goals (gi_wp2_with fail)
        all_goals (
          have hb7 := HB6.out.trans (hn.mono HB6.out.size)
          have ko := (ko_of_below hb7).trans ((KeepsOthers.setCell w7 ⟨b6, 0, none⟩ (.int .u32 ((r.1.toNat ||| o.1.toNat : Nat) : Int))).trans (KeepsOthers.setCell _ ⟨b6, 1, none⟩ (.int .u32 ((r.2.toNat ||| o.2.toNat : Nat) : Int))))
          have hbB := ((hb7.mono (Nat.le_of_lt (by omega : w.heap.size < W.heap.size))).setCell (p := ⟨b6, 0, none⟩) (by simp only []; omega) (.int .u32 ((r.1.toNat ||| o.1.toNat : Nat) : Int))).setCell (p := ⟨b6, 1, none⟩) (by simp only []; omega) (.int .u32 ((r.2.toNat ||| o.2.toNat : Nat) : Int))
          refine ⟨ko, hbB, ⟨⟨(r.1 ||| o.1, r.2 ||| o.2), HSN.out, ?_, ?_, ?_, ?_⟩, ?_, ⟨?_, ?_, ?_, ?_⟩, ?_, ?_⟩, HB.out.trans hbB⟩
          · rw [BitVec.toNat_or]; go_cell
          · rw [BitVec.toNat_or]; go_cell
          · rw [World.frozen?_setCell, World.frozen?_setCell]; exact te2
          · rw [World.frozen?_setCell, World.frozen?_setCell]; exact te3
          · exact keep_set (keep_set tg0 (by simp only []; omega)) (by simp only []; omega)
          · exact keep_set (keep_set tg1 (by simp only []; omega)) (by simp only []; omega)
          · exact keep_set (keep_set tg2 (by simp only []; omega)) (by simp only []; omega)
          · rw [World.frozen?_setCell, World.frozen?_setCell]; exact tg3
          · rw [World.frozen?_setCell, World.frozen?_setCell]; exact tg4
          · exact keep_set (keep_set tg5 (by simp only []; omega)) (by simp only []; omega)
          · rw [World.frozen?_setCell, World.frozen?_setCell]; exact tg6)
      · have hne : (((((r.1.toNat ||| r.2.toNat) &&& (o.1.toNat ||| o.2.toNat)) : Nat) : Int) != 0) = true := by
          have e : ¬ (r.1.toNat ||| r.2.toNat) &&& (o.1.toNat ||| o.2.toNat) = 0 := hz
          exact bne_iff_ne.2 (fun h => e (by omega))
        rw [if_neg hz] at HSN
        clear hz
        gi_region_with_o (first | (refine ⟨trivial, ?_⟩; gi_at_call 57; refine (CallsIn.inRound lid (callsIn_wide.2 (valuedA r.1 r.2 _))).mono ?_; rintro e w7 ⟨rfl, hbv⟩; have hn : Below W6.heap.size W6 w7 := chain6 (by first | assumption | exact (Below.refl _ W6).drew) hbv; have tg1 := (hn.cell (p := ⟨w.heap.size + 1, 0, none⟩) (by simp only []; omega)).trans g1; have tg2 := (hn.cell (p := ⟨w.heap.size + 1, 1, none⟩) (by simp only []; omega)).trans g2; have tg3 := (hn.frozen (p := ⟨w.heap.size + 1, 0, none⟩) (by simp only []; omega)).trans g3; have tg4 := (hn.frozen (p := ⟨w.heap.size + 1, 1, none⟩) (by simp only []; omega)).trans g4; have tg5 := (hn.cell (p := ⟨w.heap.size + 1 + 1, 0, none⟩) (by simp only []; omega)).trans g5; have tg6 := (hn.frozen (p := ⟨w.heap.size + 1 + 1, 0, none⟩) (by simp only []; omega)).trans g6; have te0 := (hn.cell (p := ⟨b6, 0, none⟩) (by simp only []; omega)).trans e0; have te1 := (hn.cell (p := ⟨b6, 1, none⟩) (by simp only []; omega)).trans e1; have te2 := (hn.frozen (p := ⟨b6, 0, none⟩) (by simp only []; omega)).trans e2; have te3 := (hn.frozen (p := ⟨b6, 1, none⟩) (by simp only []; omega)).trans e3; have tn0 := (hn.cell (p := ⟨b8, 0, none⟩) (by simp only []; omega)).trans n0; have tn1 := (hn.cell (p := ⟨b8, 1, none⟩) (by simp only []; omega)).trans n1; have tg0 := (hn.cell (p := ⟨w.heap.size, 0, none⟩) (by simp only []; omega)).trans g0; clear hbv) | (refine ⟨trivial, ?_⟩; gi_at_call 57; refine (CallsIn.inRound lid (callsIn_wide.2 (valuedA o.1 o.2 _))).mono ?_; rintro e w7 ⟨rfl, hbv⟩; have hn : Below W6.heap.size W6 w7 := chain6 (by first | assumption | exact (Below.refl _ W6).drew) hbv; have tg1 := (hn.cell (p := ⟨w.heap.size + 1, 0, none⟩) (by simp only []; omega)).trans g1; have tg2 := (hn.cell (p := ⟨w.heap.size + 1, 1, none⟩) (by simp only []; omega)).trans g2; have tg3 := (hn.frozen (p := ⟨w.heap.size + 1, 0, none⟩) (by simp only []; omega)).trans g3; have tg4 := (hn.frozen (p := ⟨w.heap.size + 1, 1, none⟩) (by simp only []; omega)).trans g4; have tg5 := (hn.cell (p := ⟨w.heap.size + 1 + 1, 0, none⟩) (by simp only []; omega)).trans g5; have tg6 := (hn.frozen (p := ⟨w.heap.size + 1 + 1, 0, none⟩) (by simp only []; omega)).trans g6; have te0 := (hn.cell (p := ⟨b6, 0, none⟩) (by simp only []; omega)).trans e0; have te1 := (hn.cell (p := ⟨b6, 1, none⟩) (by simp only []; omega)).trans e1; have te2 := (hn.frozen (p := ⟨b6, 0, none⟩) (by simp only []; omega)).trans e2; have te3 := (hn.frozen (p := ⟨b6, 1, none⟩) (by simp only []; omega)).trans e3; have tn0 := (hn.cell (p := ⟨b8, 0, none⟩) (by simp only []; omega)).trans n0; have tn1 := (hn.cell (p := ⟨b8, 1, none⟩) (by simp only []; omega)).trans n1; have tg0 := (hn.cell (p := ⟨w.heap.size, 0, none⟩) (by simp only []; omega)).trans g0; clear hbv))
        all_goals (gi_wp2_with fail)
        all_goals (
          have hb7 := HB6.out.trans (hn.mono HB6.out.size)
          have ko := (ko_of_below hb7).trans (((KeepsOthers.setCell w7 ⟨w.heap.size + 1, 0, none⟩ (.int .u32 0)).trans (KeepsOthers.setCell _ ⟨w.heap.size + 1, 1, none⟩ (.int .u32 0))).trans (KeepsOthers.setCell _ ⟨w.heap.size + 1 + 1, 0, none⟩ (.int .i64 10)))
          have hb4 := (((HB.out.trans (hb7.mono (by omega))).setCell (p := ⟨w.heap.size + 1, 0, none⟩) (by simp only []; omega) (.int .u32 0)).setCell (p := ⟨w.heap.size + 1, 1, none⟩) (by simp only []; omega) (.int .u32 0)).setCell (p := ⟨w.heap.size + 1 + 1, 0, none⟩) (by simp only []; omega) (.int .i64 10)
          exact ⟨ko, ⟨rfl, HSN.out, by go_cell, by go_cell, by go_cell⟩, hb4⟩)
  case done =>
    rintro D ys W hD hys ⟨⟨⟨r, hr, a0, a1, a2, a3⟩, f0, ⟨f1, f2, f3, f4⟩, f5, f6⟩, hB⟩ hK
    have hres : bunS l t = some r := by unfold bunS; rw [← hys]; exact hr
    have HRES := Lib.hid hres; have HB := Lib.hid hB
    clear hres hr hys hB
    gi_wp2
    have hK3 := (((KeepsOthers.setCell W ⟨w.heap.size + 1, 0, none⟩ (.int .u32 (r.1.toNat : Int))).trans (KeepsOthers.setCell _ ⟨w.heap.size + 1, 1, none⟩ (.int .u32 (r.2.toNat : Int)))).trans (KeepsOthers.setCell _ ⟨w.heap.size + 1 + 1, 0, none⟩ (.int .i64 0))).same D _ hK rfl
    refine ⟨by simp, .inl ⟨_, _, rfl, run_takeDeferred hK3, ?_⟩⟩
    generalize hW4 : World.putObj _ D _ = W4
    have c1 : W4.cell? ⟨w.heap.size + 1, 0, none⟩ = some (.int .u32 (r.1.toNat : Int)) := by
      rw [← hW4, World.cell?_of_block (World.putObj_heap_other (by simp only []; omega))]; go_cell
    have c2 : W4.cell? ⟨w.heap.size + 1, 1, none⟩ = some (.int .u32 (r.2.toNat : Int)) := by
      rw [← hW4, World.cell?_of_block (World.putObj_heap_other (by simp only []; omega))]; go_cell
    have c3 : W4.cell? ⟨w.heap.size + 1 + 1, 0, none⟩ = some (.int .i64 0) := by
      rw [← hW4, World.cell?_of_block (World.putObj_heap_other (by simp only []; omega))]; go_cell
    have hb4 : Below w.heap.size w W4 := by
      rw [← hW4]
      exact (((HB.out.setCell (p := ⟨w.heap.size + 1, 0, none⟩) (by simp only []; omega) _).setCell (p := ⟨w.heap.size + 1, 1, none⟩) (by simp only []; omega) _).setCell (p := ⟨w.heap.size + 1 + 1, 0, none⟩) (by simp only []; omega) _).trans (belowK_b (w := w) (Nat.le_refl _) _ D _ _ (by omega) hK3 rfl rfl)
    refine ⟨.tuple #[.agg #[.int .u32 (r.1.toNat : Int), .int .u32 (r.2.toNat : Int)], .int .i64 0], ?_, ?_, hb4⟩
    · simp [results, Try.results29, go_sem, c1, c2, c3]
    · rw [HRES.out]; rfl
  case stop =>
    rintro D c pre W hD hpre ⟨⟨rfl, hr, f1, f2, f5⟩, hB⟩ hK
    obtain ⟨post, hpost⟩ := hpre
    have hres : bunS l t = none := by unfold bunS; rw [← hpost]; exact bunL_stop _ _ _ hr
    have HRES := Lib.hid hres; have HB := Lib.hid hB
    clear hres hr hpost hB
    gi_wp2
    refine ⟨by simp, .inl ⟨_, _, rfl, run_takeDeferred hK, ?_⟩⟩
    have hb4 := HB.out.trans (belowK_b (w := w) (Nat.le_refl _) W D _ (.deferred none) (by omega) hK rfl rfl)
    have c1 := (World.cell?_of_block (World.putObj_heap_other (by simp only []; omega)) : (W.putObj D (.deferred none)).cell? ⟨w.heap.size + 1, 0, none⟩ = _).trans f1
    have c2 := (World.cell?_of_block (World.putObj_heap_other (by simp only []; omega)) : (W.putObj D (.deferred none)).cell? ⟨w.heap.size + 1, 1, none⟩ = _).trans f2
    have c3 := (World.cell?_of_block (World.putObj_heap_other (by simp only []; omega)) : (W.putObj D (.deferred none)).cell? ⟨w.heap.size + 1 + 1, 0, none⟩ = _).trans f5
    generalize W.putObj D (.deferred none) = W4 at *
    refine ⟨.tuple #[.agg #[.int .u32 0, .int .u32 0], .int .i64 10], ?_, ?_, hb4⟩
    · simp [results, Try.results29, go_sem, c1, c2, c3]
    · rw [HRES.out]; rfl
end Go.Proofs.Ytmgikhldkebjbaa
