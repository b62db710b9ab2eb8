/-
  What Dist returns.
-/
import Derived.RangeFuncFrom
import Derived.Test.YtdbbmhefndjedaaDoorFg
import Derived.Test.YtdbbmhefndjedaaDoorFh
import Derived.Test.YtdbbmhefndjedaaDoorReg
namespace Go.Proofs.YtdbbmhefndjedaaDoor
open Go.RowKit Go.Sort Go.Shelf
attribute [local go_sem] Oper.semAt_some
attribute [local go_sem] sv bv_and bv_or bv_xor bv_andNot ofInt32_nat nat_beq nat_beq0

set_option maxHeartbeats 400000 in
theorem dist_badS (p m q n : BitVec 32) (c1 c2 : Value) (hv : (vld p m && vld q n) = false) (w : World) :
    Calls Tryd.prog 32 #[sv p m, sv q n, .agg #[c1, c2]] w fun e w' => e = .returned (.tuple #[.int .i64 0, .int .i64 14]) ∧ Below w.heap.size w w' := by
  have H := Lib.hid hv; clear hv
  unfold sv
  go_enter Tryd.func32, Tryd.ntmps32
  go_wp2_with (go_at_call 52; refine (bothValid_any _ _ _ _ _ H.out _).mono ?_; rintro e w1 ⟨rfl, hb⟩; have hw := chain (B := w.heap.size) (a := w) (by go_grown) (by go_size) hb; (first | have h0 := chain (h0.trans (by go_grown)) (by go_size) hb | have h0 := hb); obtain ⟨hc, hf, hz⟩ := bcell hb; obtain ⟨hc0, hf0, hz0⟩ := bcell h0; clear hb; (try simp only [World.size_alloc, World.size_setCell, World.size_drew] at hc hf hz hc0 hf0 hz0))
  go_ret2
  exact ⟨rfl, by go_grown⟩
set_option maxHeartbeats 400000 in
theorem dist_badC (p m q n : BitVec 32) (sl : Value) (gap : Int) (zs : List Int) (hm : zs.length ≤ 9223372036854775807) (hv : (vld p m && vld q n) = true) (hk : okCosts zs gap = false) (w : World) (hs : Wts w sl zs) :
    Calls Tryd.prog 32 #[sv p m, sv q n, .agg #[sl, .int .i64 gap]] w fun e w' => e = .returned (.tuple #[.int .i64 0, .int .i64 2]) ∧ Below w.heap.size w w' := by
  have H := Lib.hid hv; clear hv
  have hck := fun (W : World) (hb : Below w.heap.size w W) => checkCosts_any sl gap zs hm W (hs.below hb)
  rw [hk, show costErr false = 2 from rfl] at hck
  have HCK := Lib.hid hck; clear hck hs hk
  unfold sv
  go_enter Tryd.func32, Tryd.ntmps32
  go_wp2_with (first | (go_at_call 52; refine (bothValid_any _ _ _ _ _ H.out _).mono ?_; rintro e w1 ⟨rfl, hb⟩; have hw := chain (B := w.heap.size) (a := w) (by go_grown) (by go_size) hb; (first | have h0 := chain (h0.trans (by go_grown)) (by go_size) hb | have h0 := hb); obtain ⟨hc, hf, hz⟩ := bcell hb; obtain ⟨hc0, hf0, hz0⟩ := bcell h0; clear hb; (try simp only [World.size_alloc, World.size_setCell, World.size_drew] at hc hf hz hc0 hf0 hz0)) | (go_at_call 34; refine (HCK.out _ hw).mono ?_; rintro e w1 ⟨rfl, hb⟩; have hw := chain (B := w.heap.size) (a := w) (by go_grown) (by go_size) hb; (first | have h0 := chain (h0.trans (by go_grown)) (by go_size) hb | have h0 := hb); obtain ⟨hc, hf, hz⟩ := bcell hb; obtain ⟨hc0, hf0, hz0⟩ := bcell h0; clear hb; (try simp only [World.size_alloc, World.size_setCell, World.size_drew] at hc hf hz hc0 hf0 hz0)))
  go_ret2
  exact ⟨rfl, by go_grown⟩
set_option maxHeartbeats 400000 in
theorem features_any (s : BitVec 32) (w : World) :
    Calls Tryd.prog 55 #[.int .u32 (s.toNat : Int)] w fun e w' => e = .returned (.func (.func 59) #[] #[.pointer (some ⟨w.heap.size, 0, none⟩)]) ∧ w.alloc (.cells #[.int .u32 (s.toNat : Int)] 22) = w' := by
  go_enter Tryd.func55, Tryd.ntmps55
  go_wp2
  go_returns
  exact ⟨rfl, rfl⟩

theorem wpIn_gen {F : Fence} {k : Nat} {P : Program} {c : Code} {Q : Exit → Act → World → Prop} {a : Act} {W : World} (h : ∀ W1, W1 = W → c.wpIn F k P Q a W1) : c.wpIn F k P Q a W := h W rfl
theorem ko_of_below {W W' : World} (h : Below W.heap.size W W') : KeepsOthers W W' := ⟨h.size, fun k o hk _ => (h.block k (Array.getElem?_eq_some_iff.1 hk).1).trans hk⟩
/-- The sum of the weights of some features. -/
def sumW (zs : List Int) (l : List (Fin 32)) : Int := (l.map fun x => zs.getD x.val 0).sum
theorem sumW_snoc (zs : List Int) (l : List (Fin 32)) (x : Fin 32) : sumW zs (l ++ [x]) = sumW zs l + zs.getD x.val 0 := by simp [sumW]
theorem okCosts_get {zs : List Int} {gap : Int} (h : okCosts zs gap = true) (i : Nat) : 0 ≤ zs.getD i 0 ∧ zs.getD i 0 ≤ 1073741824 := by
  have h1 : zs.all okCost = true := by unfold okCosts at h; simp only [Bool.and_eq_true] at h; exact h.2
  rw [List.all_eq_true] at h1
  rw [List.getD_eq_getElem?_getD]
  rcases Nat.lt_or_ge i zs.length with hi | hi
  · rw [List.getElem?_eq_getElem hi]
    have := h1 _ (List.getElem_mem hi)
    simp only [okCost, Bool.and_eq_true, decide_eq_true_eq] at this
    exact this
  · rw [List.getElem?_eq_none hi]; simp
theorem sumW_bd {zs : List Int} {gap : Int} (h : okCosts zs gap = true) : ∀ (l : List (Fin 32)), 0 ≤ sumW zs l ∧ sumW zs l ≤ l.length * 1073741824
  | [] => by simp [sumW]
  | x :: l => by
    have ih := sumW_bd h l
    have := okCosts_get h x.val
    have e : sumW zs (x :: l) = zs.getD x.val 0 + sumW zs l := by simp [sumW]
    rw [e, List.length_cons]
    omega
theorem fl_length (r : BitVec 32) : ∀ f j, (fl r f j).length ≤ f
  | 0, _ => by simp [fl]
  | f + 1, j => by
    have := fl_length r f (j + 1)
    simp only [fl]
    split
    · simp; omega
    · omega
set_option maxHeartbeats 2000000 in
set_option maxRecDepth 100000 in
theorem dist_ok (p m q n : BitVec 32) (sl : Value) (gap : Int) (zs : List Int) (hm : zs.length ≤ 9223372036854775807) (hv : (vld p m && vld q n) = true) (hk : okCosts zs gap = true) (w : World) (hs : Wts w sl zs) (hT : Tab w) (ht0 : 0 < w.heap.size) :
    Calls Tryd.prog 32 #[sv p m, sv q n, .agg #[sl, .int .i64 gap]] w fun e w' => e = .returned (.tuple #[.int .i64 (sumW zs (elems ((p ^^^ q) ||| (m ^^^ n)))), .int .i64 0]) ∧ Below w.heap.size w w' := by
  have H := Lib.hid hv; clear hv
  have hck := fun (W : World) (hb : Below w.heap.size w W) => checkCosts_any sl gap zs hm W (hs.below hb)
  rw [hk, show costErr true = 0 from rfl] at hck
  have HCK := Lib.hid hck; clear hck
  have HS := Lib.hid hs; have HK := Lib.hid hk; have HT := Lib.hid hT; clear hs hk hT
  refine (callsIn_wide (n := 5)).1 ?_
  unfold sv
  refine callsIn_of_wp_marks Tryd.func32 rfl trivial ?_ rfl
  simp only [Tryd.ntmps32, List.size_toArray, List.length_cons, List.length_nil, Nat.reduceAdd, Nat.reduceSub, Array.replicate_succ, Array.replicate_zero, List.push_toArray, List.append_toArray, List.nil_append, List.cons_append]
  gi_wp2_with (first | (refine ⟨trivial, ?_⟩; gi_at_call 52; refine (callsIn_wide.2 (bothValid_any _ _ _ _ _ H.out _)).mono ?_; rintro e wa ⟨rfl, hb⟩; have hw := chain (B := w.heap.size) (a := w) (by go_grown) (by go_size) hb; (first | have h0 := chain (h0.trans (by go_grown)) (by go_size) hb | have h0 := hb); obtain ⟨hc, hf, hz⟩ := bcell hb; obtain ⟨hc0, hf0, hz0⟩ := bcell h0; clear hb; (try simp only [World.size_alloc, World.size_setCell, World.size_drew] at hc hf hz hc0 hf0 hz0); obtain ⟨ha1, ha2⟩ := alloc_lt hz0) | (refine ⟨trivial, ?_⟩; gi_at_call 34; refine (callsIn_wide.2 (HCK.out _ hw)).mono ?_; rintro e wb ⟨rfl, hb⟩; have hw := chain (B := w.heap.size) (a := w) (by go_grown) (by go_size) hb; (first | have h0 := chain (h0.trans (by go_grown)) (by go_size) hb | have h0 := hb); obtain ⟨hc, hf, hz⟩ := bcell hb; obtain ⟨hc0, hf0, hz0⟩ := bcell h0; clear hb; (try simp only [World.size_alloc, World.size_setCell, World.size_drew] at hc hf hz hc0 hf0 hz0); obtain ⟨ha1, ha2⟩ := alloc_lt hz0) | (refine ⟨trivial, ?_⟩; gi_at_call 30; refine (callsIn_wide.2 (diff_ok _ _ _ _ H.out _)).mono ?_; rintro e wc ⟨rfl, hb⟩; have hw := chain (B := w.heap.size) (a := w) (by go_grown) (by go_size) hb; (first | have h0 := chain (h0.trans (by go_grown)) (by go_size) hb | have h0 := hb); obtain ⟨hc, hf, hz⟩ := bcell hb; obtain ⟨hc0, hf0, hz0⟩ := bcell h0; clear hb; (try simp only [World.size_alloc, World.size_setCell, World.size_drew] at hc hf hz hc0 hf0 hz0); obtain ⟨ha1, ha2⟩ := alloc_lt hz0) | (refine ⟨trivial, ?_⟩; gi_at_call 55; refine (callsIn_wide.2 (features_any ((p ^^^ q) ||| (m ^^^ n)) _)).mono ?_; rintro e w2 ⟨rfl, rfl⟩))
  generalize hd : (p ^^^ q) ||| (m ^^^ n) = d at *
  refine wpIn_gen ?_
  intro W1 hW1
  have hB1 : Below w.heap.size w W1 := by rw [hW1]; go_grown
  have hS0 : W1.cell? ⟨wb.heap.size, 0, none⟩ = some (.int .i64 0) := by
    rw [hW1]; exact keep_alloc ((hc _ _ (by omega)).trans (cell_block (w := wb.alloc (.cells #[.int .i64 0] 2)) (World.alloc_heap_new wb _) rfl)) (by omega)
  have hS1 : W1.frozen? ⟨wb.heap.size, 0, none⟩ = false := by
    rw [hW1, (((Below.refl _ wc).alloc (Nat.le_refl _) _).frozen (p := ⟨wb.heap.size, 0, none⟩) (by simp only []; omega)), hf _ _ (by omega)]; exact frozen_block (World.alloc_heap_new wb _)
  have hD0 : W1.cell? ⟨wc.heap.size, 0, none⟩ = some (.int .u32 (d.toNat : Int)) := by
    rw [hW1]; exact cell_block (World.alloc_heap_new wc _) (by rw [← hd]; simp)
  have hC0 : W1.cell? ⟨w.heap.size + 1 + 1, 0, none⟩ = some sl := by
    rw [hW1, ha1 _ _ _ (by omega), hc0 _ _ (by omega)]; go_cell
  have hC1 : W1.cell? ⟨w.heap.size + 1 + 1, 1, none⟩ = some (.int .i64 gap) := by
    rw [hW1, ha1 _ _ _ (by omega), hc0 _ _ (by omega)]; go_cell
  have hz3 : wc.heap.size < W1.heap.size := by rw [hW1, World.size_alloc]; omega
  have hzb : w.heap.size + 1 + 1 + 1 ≤ wb.heap.size := by assumption
  have hzc : wb.heap.size + 1 ≤ wc.heap.size := hz
  have hWs : Wts W1 sl zs := HS.out.below hB1
  have hT1 : Tab W1 := (HT.out).below hB1 ht0
  have hNb : (elems d).length ≤ 32 := fl_length d 32 0
  have hlt : ∀ {W : World} {b o : Nat} {v : Value}, W.cell? ⟨b, o, none⟩ = some v → b < W.heap.size := fun h => World.block_lt_of_cell? _ _ h
  clear hc hf hc0 hf0 ha1 ha2 h0 hw hz hz0
  refine wpIn_rangeFunc_ownF (α := Fin 32) rfl (by decide) (gf := 59) (lb := #[.pointer (some ⟨wc.heap.size, 0, none⟩)]) rfl trivial (enters_of Tryd.func59 (by kernel_rfl) rfl)
    (encs := fun x => #[.int .i64 (x.val : Int)]) (S := fun ys => ys = elems d) (Sp := fun pre => pre <+: elems d) (N := (elems d).length) (w0 := W1) (Kp := Below w.heap.size)
    (fun l J Jx W hW _ _ hY h0 => iter_in _ (by decide) l wc.heap.size w.heap.size d J Jx hY W ((hW.cell (p := ⟨wc.heap.size, 0, none⟩) hz3).trans hD0) ht0 (hT1.below hW (by omega)) h0)
    belowK_t (belowK_b (by have := hB1.size; omega)) (Below.refl _ _) (fun _ => rfl)
    (fun pre W => (W.cell? ⟨wb.heap.size, 0, none⟩ = some (.int .i64 (sumW zs pre)) ∧ W.frozen? ⟨wb.heap.size, 0, none⟩ = false ∧ W.cell? ⟨w.heap.size + 1 + 1, 0, none⟩ = some sl ∧ W.cell? ⟨w.heap.size + 1 + 1, 1, none⟩ = some (.int .i64 gap)) ∧ Below w.heap.size w W)
    (fun _ _ _ => False)
    (OwnFrom.and (Own.from (fun s A B row hs hg hr => ⟨cell_kept hs.1 hg hr, (frozen_kept hs.1 hg hr).trans hs.2.1, cell_kept hs.2.2.1 hg hr, cell_kept hs.2.2.2 hg hr⟩) _) (ownFrom_below (Nat.le_refl _) (by have := hB1.size; omega)))
    (fun _ _ _ _ _ hs _ _ => hs)
    ⟨⟨hS0, hS1, hC0, hC1⟩, hB1⟩
    ?a1 ?assign ?body ?done ?stop
  case assign =>
    intro l x W K hK
    gi_wp2
    exact hK
  case body =>
    rintro l pre x W ⟨⟨ec, ef, eC0, eC1⟩, hB⟩ hlen
    have hmx : Tryd.prog.follows .mixedOrders = true := by kernel_rfl
    have hWx : Wts W sl zs := HS.out.below hB
    have HWX := Lib.hid hWx; clear hWx
    have b1 := sumW_bd HK.out pre
    have b2 := okCosts_get HK.out x.val
    have b3 : pre.length ≤ 31 := by omega
    generalize hzx : zs.getD x.val 0 = z at *
    have HZX := Lib.hid hzx; clear hzx
    have hx := x.isLt
    have hsz : wb.heap.size < W.heap.size := hlt ec
    have hs2 : w.heap.size + 1 + 1 < W.heap.size := hlt eC0
    obtain ⟨b1, b1'⟩ := b1
    obtain ⟨b2, b2'⟩ := b2
    have hsn := sumW_snoc zs pre x
    have HSN := Lib.hid hsn; clear hsn
    have hB2 := hB
    clear hB
    generalize sumW zs pre = T at *
    gi_wp2
    gi_region_with_o (refine ⟨trivial, ?_⟩; gi_at_call 56; refine (CallsIn.inRound l (callsIn_wide.2 (weight_any sl gap zs x.val hx _ (HWX.out.below ((Below.refl _ _).drew))))).mono ?_; rw [HZX.out]; rintro e w5 ⟨rfl, hb⟩; obtain ⟨kc, kf, kz⟩ := bcell hb; have s1 : w5.cell? ⟨wb.heap.size, 0, none⟩ = some (.int .i64 T) := (kc _ _ hsz).trans ec; have s2 : w5.frozen? ⟨wb.heap.size, 0, none⟩ = false := (kf _ _ hsz).trans ef; have s3 : w5.cell? ⟨w.heap.size + 1 + 1, 0, none⟩ = some sl := (kc _ _ hs2).trans eC0; have s4 : w5.cell? ⟨w.heap.size + 1 + 1, 1, none⟩ = some (.int .i64 gap) := (kc _ _ hs2).trans eC1; clear kc kf)
    all_goals gi_wp2
    all_goals (
      have hbW : Below W.heap.size W w5 := (Below.refl _ W).drew.trans hb
      have hwr : IntKind.i64.wrap (T + z) = T + z := IntWalk.i64_in _ ⟨by omega, by omega⟩
      rw [hwr]
      refine ⟨(ko_of_below hbW).trans (KeepsOthers.setCell _ _ _), (hbW.mono hB2.size).setCell (p := ⟨wb.heap.size, 0, none⟩) (by simp only []; omega) _, ⟨?_, ?_, ?_, ?_⟩, (hB2.trans (hbW.mono hB2.size)).setCell (p := ⟨wb.heap.size, 0, none⟩) (by simp only []; omega) _⟩
      · rw [HSN.out, HZX.out]; exact World.cell?_setCell_same' _ _ _ (by rw [s1]; rfl)
      · rw [World.frozen?_setCell]; exact s2
      · exact keep_set s3 (by simp only []; omega)
      · exact keep_set s4 (by simp only []; omega))
  case done =>
    rintro D ys W hD rfl ⟨⟨ec, _, _, _⟩, hB⟩ hK
    gi_wp2
    refine ⟨by simp, .inl ⟨_, _, rfl, run_takeDeferred hK, ?_⟩⟩
    exact ⟨_, results_tmp2 rfl _ _ _, (by rw [hd]; rfl), hB.trans (belowK_b (w := w) (Nat.le_refl _) W D _ _ (by have := hB1.size; omega) hK rfl rfl)⟩
  case stop =>
    rintro D c pre W _ _ h _
    exact h.elim
end Go.Proofs.YtdbbmhefndjedaaDoor
