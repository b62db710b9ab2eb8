/-
  Lemmas that the theorem of this claim rests on: 2 texts, one behind the other.
-/
import Derived.RangeFuncNested
import Derived.RangeFuncBound
import Derived.RangeFuncCalls
import Derived.RangeFuncLeaves
import Derived.RangeFuncFrom
import Derived.Shelf.Abstract
import Derived.Shelf.RegionOpen
import Derived.OwnWalkIn
import Derived.TacticsInMore
import Derived.LoopNIn
import Derived.LoopIn
import Derived.Test.YtpnmapfabjdfjaaDoorM9
import Derived.Test.YtpnmapfabjdfjaaDoorM16
set_option linter.unusedSimpArgs false
set_option linter.unusedVariables false

/-
  A list of sounds backwards: slices.Backward.
-/
namespace Go.Proofs.YtpnmapfabjdfjaaDoor
open Go.RowKit Go.Shelf Go.Sort
attribute [local go_sem] Oper.semAt_some
/-- The indexes from the last one down. -/
def downF (n : Nat) : List (Fin n) := (List.finRange n).reverse
theorem downF_len (n : Nat) : (downF n).length = n := by simp [downF]
theorem downF_at (n k : Nat) (h : k < n) : (downF n)[k]'(by rw [downF_len]; exact h) = ⟨n - 1 - k, by omega⟩ := by
  simp [downF, List.getElem_reverse]
set_option maxRecDepth 100000 in
set_option maxHeartbeats 2000000 in
/-- The iterator: each index and sound, from the last one down. -/
theorem backward_in (n : Nat) (hn : 1 ≤ n) (lid Bn : Nat) (Kp : World → World → Prop) (hKr : ∀ A, Kp A A) (hKt : ∀ A B C, Kp A B → Kp B C → Kp A C) (l : List Snd) (v : Value) (hl : l.length ≤ 1000000000) (J Jx : List (Fin l.length) → World → Prop)
    (hY : ∀ pre i W, J pre W → pre.length < l.length → YieldAt Fence.wide (n - 1) Tryd.prog lid #[.int .i64 (i.val : Int), snv l[i.val]] W fun e W' =>
      (e = .returned (.bool true) ∧ J (pre ++ [i]) W' ∧ Kp W W') ∨ (e = .returned (.bool false) ∧ Jx (pre ++ [i]) W'))
    (W : World) (hL : ∀ W', Kp W W' → W'.cell? ⟨Bn, 0, none⟩ = some v ∧ Wd W' v l) (h0 : J [] W) :
    CallsIn Fence.wide n Tryd.prog 103 #[.func (.yield lid) #[] #[], .pointer (some ⟨Bn, 0, none⟩)] W fun e W' => (∃ v, e = .returned v) ∧
      ((∃ ys, ys = downF l.length ∧ J ys W') ∨ (∃ pre, True ∧ Jx pre W')) := by
  have hBn0 := (hL W (hKr W)).1
  obtain ⟨ao, cap, rfl, c1, m1, -⟩ := (hL W (hKr W)).2.open
  obtain ⟨N, hN⟩ : ∃ N, l.length = N := ⟨_, rfl⟩
  have HL := Lib.hid hL; have HN := Lib.hid hN; have HBN := Lib.hid hBn0; have HKT := Lib.hid hKt
  rw [hN] at c1 HBN hl
  have HY := Lib.hid hY
  have hkr0 := hKr W
  clear hN hL hBn0 m1 hY hKt
  refine callsIn_of_wp Tryd.func103 rfl trivial ?_ rfl
  simp only [Tryd.ntmps103, List.size_toArray, List.length_cons, List.length_nil, Nat.reduceAdd, Nat.reduceSub, Array.replicate_succ, Array.replicate_zero, List.push_toArray, List.append_toArray, List.nil_append, List.cons_append]
  have hBn := HBN.out
  gi_wp2
  gi_loopw [3] (fun p wr => ∃ k : Nat, k ≤ N ∧ p = .int .i64 ((N : Int) - 1 - (k : Int)) ∧ J ((downF l.length).take k) wr ∧ Kp W wr) (fun p wr => ((intOf p) + 1).toNat)
  case atStart =>
    exact ⟨0, by omega, by go_num, h0, hkr0⟩
  case round =>
    obtain ⟨k, hk, rfl, hJ, hw⟩ := hrel
    by_cases hlt : k < N
    · have hil : N - 1 - k < l.length := by rw [HN.out]; omega
      obtain ⟨hBn, hwd⟩ := HL.out wr hw
      rw [HN.out] at hBn
      obtain ⟨ao2, cap2, hv2, -, -, hc⟩ := hwd.open
      injection hv2 with hv3 _ hv4
      subst hv3 hv4
      obtain ⟨b, off, rfl, lb, d0, d1⟩ := hc (N - 1 - k) hil
      clear hc hwd
      have hic : ((N : Int) - 1 - (k : Int)) = ((N - 1 - k : Nat) : Int) := by omega
      have hiN : N - 1 - k < N := by omega
      have hkd : k < (downF l.length).length := by rw [downF_len, HN.out]; exact hlt
      obtain ⟨fn, tmps, assign, body, hy, hR⟩ := HY.out ((downF l.length).take k) ⟨N - 1 - k, hil⟩ wr hJ (by rw [List.length_take, downF_len, HN.out]; omega)
      have hdn : (downF l.length).take k ++ [⟨N - 1 - k, hil⟩] = (downF l.length).take (k + 1) := by
        rw [List.take_succ_eq_append_getElem hkd, downF_at l.length k (by rw [HN.out]; exact hlt)]
        congr 3
        rw [HN.out]
      rw [hdn] at hR
      simp only at hy
      have HR := Lib.hid hR
      have hid2 : ((N : Int) - 1 - ((k + 1 : Nat) : Int)) = ((N - 1 - k : Nat) : Int) - 1 := by omega
      have HID := Lib.hid hid2
      clear hR hdn hkd hJ HL HY hid2
      rw [hic]
      clear hic
      generalize l[N - 1 - k] = x at *
      obtain ⟨xp, xm⟩ := x
      unfold snv at hy
      simp only at hy d0 d1
      generalize N - 1 - k = I at *
      have hI2 : (I : Int) < (N : Int) := by omega
      gi_wp2
      refine HR.out.mono ?_
      rintro e W3 (⟨rfl, hJ3, hk3⟩ | ⟨rfl, hJx3⟩)
      · have hw3 := HKT.out _ _ _ hw hk3
        gi_wp2
        go_roundw
        case rel => exact ⟨k + 1, by omega, by rw [HID.out], hJ3, hw3⟩
        case measure => first | (simp [intOf]; done) | (simp [intOf]; omega)
      · gi_wp2
        refine bodyPost_ret (results_none rfl _ _ _) rfl ?_
        exact ⟨⟨_, rfl⟩, .inr ⟨_, trivial, hJx3⟩⟩
    · obtain rfl : k = N := by omega
      have HJ := Lib.hid hJ
      clear hJ HL HY
      rw [show ((k : Int) - 1 - (k : Int)) = -1 from by omega]
      gi_wp2
      go_end0
      exact ⟨⟨_, rfl⟩, .inl ⟨_, rfl, by have := HJ.out; rwa [← HN.out, List.take_of_length_le (by rw [downF_len]; exact Nat.le_refl _)] at this⟩⟩
set_option maxHeartbeats 400000 in
theorem backward_any (ao : Option Addr) (n cap : Nat) (w : World) :
    Calls Tryd.prog 87 #[.slice ao n cap] w fun e w' => e = .returned (.func (.func 103) #[] #[.pointer (some ⟨w.heap.size, 0, none⟩)]) ∧ w' = w.alloc (.cells #[.slice ao n cap] 22) := by
  go_enter Tryd.func87, Tryd.ntmps87
  go_wp2
  go_returns
  exact ⟨rfl, rfl⟩
end Go.Proofs.YtpnmapfabjdfjaaDoor

/-
  The parts of natural.shortest: DeleteFunc of a copy, tables of crowds.
-/
namespace Go.Proofs.YtpnmapfabjdfjaaDoor
open Go.RowKit Go.Sort
theorem delete_own (l : List Snd) (c : Snd) (v : Value) (D base : Nat) (w : World) (ho : Own w base v l) (hD : w.cell? ⟨D, 0, none⟩ = some (.int .u32 (c.1.toNat : Int)) ∧ w.cell? ⟨D, 1, none⟩ = some (.int .u32 (c.2.toNat : Int))) (lD : D < base) (lb : base ≤ w.heap.size) (hv : ∀ x ∈ l, vld x.1 x.2 = true) (hcv : vld c.1 c.2 = true) :
    Calls Tryd.prog 83 #[v, .func (.func 85) #[] #[.pointer (some ⟨D, 0, none⟩)]] w fun e w' => ∃ v', e = .returned v' ∧ Wd w' v' (othL l c) ∧ Below base w w' := by
  obtain ⟨hl, ⟨rfl, h0⟩ | ⟨g, cap, cur, rfl, hg, hh, hn, hm, hs, ht⟩⟩ := ho
  · have hl0 : l = [] := List.eq_nil_of_length_eq_zero h0
    subst hl0
    have hix := index_s1 [] c _ D w (Wd.nil w) hD (by omega) hv hcv
    rw [show outN (othL [] c) [] 0 = -1 from rfl] at hix
    have HIX := Lib.hid hix
    clear hix hD hl h0 hv
    go_enter Tryd.func83, Tryd.ntmps83
    go_wp2_with fail
    go_at_call 101
    refine Gives.then HIX.out ?_
    intro w1 hb1
    go_wp2_with fail
    go_returns
    exact ⟨_, rfl, Wd.nil _, hb1.mono lb⟩
  · have hcur : ∀ t (h : t < l.length), SnAt cur t l[t] := fun t h => by
      have e : ∀ o, o < l.length * 2 → cur[o]? = (flat l)[o]? := fun o ho => by
        rw [← ht, List.getElem?_take_of_lt ho, Array.getElem?_toList]
      exact ⟨(e _ (by omega)).trans (flat_get0 l t h), (e _ (by omega)).trans (flat_get1 l t h)⟩
    exact delete_any l c g cap D base cur w hg hD lD lb hh hcur (by omega) hn hm hv hcv
theorem infoCrowd : (Tryd.prog.info? 96).map (fun i => (i.zero, i.size, i.bytes)) = some (some (.agg #[.int .u64 0, .int .u64 0, .int .u64 0, .int .u64 0]), 4, 32) := by kernel_rfl
theorem make_crowds (n : Nat) (hn : n ≤ 1000) (w : World) : (Instr.makeSlice 112 (.int .i64 (n : Int)) (.int .i64 (n : Int))).run Tryd.prog w = .ok (.slice (some ⟨w.heap.size, 0, none⟩) n n) (w.alloc (.cells (madeCells #[.int .u64 0, .int .u64 0, .int .u64 0, .int .u64 0] (n * 4)) 96)) := by
  obtain ⟨i, hi, hz, hs1, hb1⟩ := info_parts infoCrowd
  have h := run_make (P := Tryd.prog) w 112 96 i _ Tryd.underlying112 hi hz .i64 .i64 (n : Int) (n : Int) (by omega) (Int.le_refl _) (by rw [hb1]; omega) (by omega)
  simp only [Int.toNat_natCast, hs1] at h
  exact h
theorem then_gen2 {K : Act → World → Prop} {S : Exit → Act → World → Prop} {e : Exit} {a : Act} {W : World} (h : ∀ W1, W1 = W → Exit.then K S e a W1) : Exit.then K S e a W := h W rfl
theorem alloc_old {w : World} {o x : Obj} {k : Nat} (h : w.heap[k]? = some x) : (w.alloc o).heap[k]? = some x := (Below.heap_alloc w o k (Array.getElem?_eq_some_iff.1 h).1).trans h
theorem alloc_at {w : World} {o : Obj} {k : Nat} (h : k = w.heap.size) : (w.alloc o).heap[k]? = some o := by subst h; exact World.alloc_heap_new w o
theorem five_blocks (w : World) (A B C D E : Obj) : (((((w.alloc A).alloc B).alloc C).alloc D).alloc E).heap[w.heap.size]? = some A ∧ (((((w.alloc A).alloc B).alloc C).alloc D).alloc E).heap[w.heap.size + 1]? = some B ∧ (((((w.alloc A).alloc B).alloc C).alloc D).alloc E).heap[w.heap.size + 1 + 1]? = some C ∧ (((((w.alloc A).alloc B).alloc C).alloc D).alloc E).heap[w.heap.size + 1 + 1 + 1]? = some D ∧ (((((w.alloc A).alloc B).alloc C).alloc D).alloc E).heap[w.heap.size + 1 + 1 + 1 + 1]? = some E ∧ Below w.heap.size w (((((w.alloc A).alloc B).alloc C).alloc D).alloc E) := by
  refine ⟨alloc_old (alloc_old (alloc_old (alloc_old (alloc_at rfl)))), alloc_old (alloc_old (alloc_old (alloc_at (by simp only [World.size_alloc])))), alloc_old (alloc_old (alloc_at (by simp only [World.size_alloc]))), alloc_old (alloc_at (by simp only [World.size_alloc])), alloc_at (by simp only [World.size_alloc]), ?_⟩
  exact (((((Below.refl w.heap.size w).alloc (Nat.le_refl _) A).alloc (by simp only [World.size_alloc]; omega) B).alloc (by simp only [World.size_alloc]; omega) C).alloc (by simp only [World.size_alloc]; omega) D).alloc (by simp only [World.size_alloc]; omega) E
theorem made_at (n k : Nat) (h : k < n) : (madeCells #[.int .u64 0, .int .u64 0, .int .u64 0, .int .u64 0] n)[k]? = some (.int .u64 0) := by
  unfold madeCells
  have h4 : k % 4 < 4 := Nat.mod_lt _ (by decide)
  have key : ∀ q : Fin 4, (#[Value.int .u64 0, .int .u64 0, .int .u64 0, .int .u64 0] : Array Value)[q.val]! = .int .u64 0 := by
    intro q
    match q with
    | ⟨0, _⟩ => rfl
    | ⟨1, _⟩ => rfl
    | ⟨2, _⟩ => rfl
    | ⟨3, _⟩ => rfl
  rw [Array.getElem?_map, Array.getElem?_range, if_pos h]
  exact congrArg some (key ⟨k % 4, h4⟩)
theorem crowd_four (xs : List Nat) (b0 b1 b2 b3 : BitVec 64) (hb : crT xs = (b0, b1, b2, b3)) (v : Value) (w : World) (h : Is w v xs) (hx : ∀ i ∈ xs, i < 256) (hl : xs.length ≤ 1000000) : Gives 68 #[v] w (.agg #[.int .u64 (b0.toNat : Int), .int .u64 (b1.toNat : Int), .int .u64 (b2.toNat : Int), .int .u64 (b3.toNat : Int)]) := by
  have h := crowd_any xs v w h hx hl
  rw [crv_crT, hb] at h
  exact h
/-- Four cells of one block are written: other blocks stand. -/
theorem set4_far {W : World} {b b2 : Nat} {p0 p1 p2 p3 o : Nat} {x0 x1 x2 x3 : Value} (h : b2 ≠ b) : ((((W.setCell ⟨b, p0, none⟩ x0).setCell ⟨b, p1, none⟩ x1).setCell ⟨b, p2, none⟩ x2).setCell ⟨b, p3, none⟩ x3).cell? ⟨b2, o, none⟩ = W.cell? ⟨b2, o, none⟩ := by
  rw [World.cell?_of_block (w := W) (by simp only []; rw [other_set (by simpa using h), other_set (by simpa using h), other_set (by simpa using h), other_set (by simpa using h)])]
theorem set4_far' {W : World} {b b2 : Nat} {p0 p1 p2 p3 : Nat} {x0 x1 x2 x3 : Value} (h : b2 ≠ b) : ((((W.setCell ⟨b, p0, none⟩ x0).setCell ⟨b, p1, none⟩ x1).setCell ⟨b, p2, none⟩ x2).setCell ⟨b, p3, none⟩ x3).heap[b2]? = W.heap[b2]? := by
  rw [other_set (by simpa using h), other_set (by simpa using h), other_set (by simpa using h), other_set (by simpa using h)]
/-- A crowd stands in a block's cells at a place. -/
def C4 (cu : Array Value) (t : Nat) (c : Cr) : Prop := cu[t * 4]? = some (.int .u64 (c.1.toNat : Int)) ∧ cu[t * 4 + 1]? = some (.int .u64 (c.2.1.toNat : Int)) ∧ cu[t * 4 + 2]? = some (.int .u64 (c.2.2.1.toNat : Int)) ∧ cu[t * 4 + 3]? = some (.int .u64 (c.2.2.2.toNat : Int))
theorem C4.set {cu : Array Value} {t a : Nat} {c d : Cr} (ha : a * 4 + 3 < cu.size) (h : t ≠ a → C4 cu t c) (he : t = a → c = d) : C4 ((((cu.setIfInBounds (a * 4) (.int .u64 (d.1.toNat : Int))).setIfInBounds (a * 4 + 1) (.int .u64 (d.2.1.toNat : Int))).setIfInBounds (a * 4 + 2) (.int .u64 (d.2.2.1.toNat : Int))).setIfInBounds (a * 4 + 3) (.int .u64 (d.2.2.2.toNat : Int))) t c := by
  unfold C4 at *
  by_cases e : t = a
  · subst e
    obtain rfl := he rfl
    refine ⟨?_, ?_, ?_, ?_⟩
    · rw [Array.getElem?_setIfInBounds_ne (by omega), Array.getElem?_setIfInBounds_ne (by omega), Array.getElem?_setIfInBounds_ne (by omega), Array.getElem?_setIfInBounds_self_of_lt (by omega)]
    · rw [Array.getElem?_setIfInBounds_ne (by omega), Array.getElem?_setIfInBounds_ne (by omega), Array.getElem?_setIfInBounds_self_of_lt (by simp; omega)]
    · rw [Array.getElem?_setIfInBounds_ne (by omega), Array.getElem?_setIfInBounds_self_of_lt (by simp; omega)]
    · rw [Array.getElem?_setIfInBounds_self_of_lt (by simp; omega)]
  · obtain ⟨h0, h1, h2, h3⟩ := h e
    refine ⟨?_, ?_, ?_, ?_⟩
    · rw [Array.getElem?_setIfInBounds_ne (by omega), Array.getElem?_setIfInBounds_ne (by omega), Array.getElem?_setIfInBounds_ne (by omega), Array.getElem?_setIfInBounds_ne (by omega)]; exact h0
    · rw [Array.getElem?_setIfInBounds_ne (by omega), Array.getElem?_setIfInBounds_ne (by omega), Array.getElem?_setIfInBounds_ne (by omega), Array.getElem?_setIfInBounds_ne (by omega)]; exact h1
    · rw [Array.getElem?_setIfInBounds_ne (by omega), Array.getElem?_setIfInBounds_ne (by omega), Array.getElem?_setIfInBounds_ne (by omega), Array.getElem?_setIfInBounds_ne (by omega)]; exact h2
    · rw [Array.getElem?_setIfInBounds_ne (by omega), Array.getElem?_setIfInBounds_ne (by omega), Array.getElem?_setIfInBounds_ne (by omega), Array.getElem?_setIfInBounds_ne (by omega)]; exact h3
/-- The tables through and behind, some indexes having been gone over. -/
def tbT (o vs : List Snd) (pre : List (Fin vs.length)) : Nat → Cr := pre.foldl (fun f i j => if j = i.val then thr o vs[i.val] else f j) (fun _ => zC)
def tbB (o vs : List Snd) (pre : List (Fin vs.length)) : Nat → Cr := pre.foldl (fun f i j => if j = i.val then meC (thr o vs[i.val]) (f (i.val + 1)) else f j) (fun j => if j = vs.length then crT (msL (0#32, 0#32) o 0) else zC)
theorem tbT_snoc (o vs : List Snd) (pre : List (Fin vs.length)) (i : Fin vs.length) (j : Nat) : tbT o vs (pre ++ [i]) j = if j = i.val then thr o vs[i.val] else tbT o vs pre j := by unfold tbT; rw [List.foldl_append]; rfl
theorem tbB_snoc (o vs : List Snd) (pre : List (Fin vs.length)) (i : Fin vs.length) (j : Nat) : tbB o vs (pre ++ [i]) j = if j = i.val then meC (thr o vs[i.val]) (tbB o vs pre (i.val + 1)) else tbB o vs pre j := by unfold tbB; rw [List.foldl_append]; rfl
theorem tb_down (o vs : List Snd) : ∀ k, k ≤ vs.length → (∀ j (h : j < vs.length), vs.length - k ≤ j → tbT o vs ((downF vs.length).take k) j = thr o vs[j]) ∧ (∀ j, vs.length - k ≤ j → j ≤ vs.length → tbB o vs ((downF vs.length).take k) j = bhd o (vs.drop j))
  | 0, _ => ⟨fun j h hj => by omega, fun j hj hj2 => by
    obtain rfl : j = vs.length := by omega
    rw [List.drop_length]
    show (if vs.length = vs.length then _ else _) = _
    rw [if_pos rfl]
    rfl⟩
  | k + 1, hk => by
    obtain ⟨ih1, ih2⟩ := tb_down o vs k (by omega)
    have hkd : k < (downF vs.length).length := by rw [downF_len]; omega
    have hs : (downF vs.length).take (k + 1) = (downF vs.length).take k ++ [⟨vs.length - 1 - k, by omega⟩] := by
      rw [List.take_succ_eq_append_getElem hkd, downF_at vs.length k (by omega)]
    rw [hs]
    refine ⟨fun j h hj => ?_, fun j hj hj2 => ?_⟩
    · rw [tbT_snoc]
      by_cases e : j = vs.length - 1 - k
      · rw [if_pos e]; subst e; rfl
      · rw [if_neg e]; exact ih1 j h (by omega)
    · rw [tbB_snoc]
      by_cases e : j = vs.length - 1 - k
      · rw [if_pos e]
        subst e
        have hl : vs.length - 1 - k < vs.length := by omega
        rw [List.drop_eq_getElem_cons hl, ih2 (vs.length - 1 - k + 1) (by omega) (by omega)]
        rfl
      · rw [if_neg e]; exact ih2 j (by omega) hj2
/-- The memory while the tables are filled. -/
def TI (o vs : List Snd) (N V : Nat) (w5 : World) (ao5 : Option Addr) (cap5 : Nat) (pre : List (Fin vs.length)) (W : World) : Prop :=
  Below V w5 W ∧ W.heap[V]? = some (.cells #[.slice ao5 N cap5] 22) ∧ W.heap[V + 1 + 1]? = some (.cells #[.slice (some ⟨V + 1, 0, none⟩) N N] 112) ∧ W.heap[V + 1 + 1 + 1 + 1]? = some (.cells #[.slice (some ⟨V + 1 + 1 + 1, 0, none⟩) (N + 1) (N + 1)] 112) ∧
  (∃ cu, W.heap[V + 1]? = some (.cells cu 96) ∧ cu.size = N * 4 ∧ ∀ j, j < N → C4 cu j (tbT o vs pre j)) ∧ ∃ cu, W.heap[V + 1 + 1 + 1]? = some (.cells cu 96) ∧ cu.size = (N + 1) * 4 ∧ ∀ j, j ≤ N → C4 cu j (tbB o vs pre j)
theorem TI.from (o vs : List Snd) (N V : Nat) (w5 : World) (ao5 : Option Addr) (cap5 B : Nat) (hB : V + 1 + 1 + 1 + 1 < B) (hV : V ≤ w5.heap.size) : OwnFrom B (TI o vs N V w5 ao5 cap5) := by
  rintro pre W W' row ⟨h0, h1, h2, h3, ⟨cu, h4, h5, h6⟩, du, h7, h8, h9⟩ hg hr
  have hk : ∀ (b : Nat) (x : Obj), b < B → W.heap[b]? = some x → W'.heap[b]? = some x := fun b x hb hx => (hg.block b (Array.getElem?_eq_some_iff.1 hx).1 (fun e => by have := (hr b e.symm).1; omega)).trans hx
  exact ⟨h0.grown hg (Nat.le_trans hV h0.size) (fun k e => by have := (hr k e).1; omega), hk _ _ (by omega) h1, hk _ _ (by omega) h2, hk _ _ (by omega) h3, ⟨cu, hk _ _ (by omega) h4, h5, h6⟩, du, hk _ _ (by omega) h7, h8, h9⟩
theorem TI.below {o vs : List Snd} {N V : Nat} {w5 : World} {ao5 : Option Addr} {cap5 : Nat} {pre : List (Fin vs.length)} {W W' : World} (h : TI o vs N V w5 ao5 cap5 pre W) (hV : V ≤ W.heap.size) (hb : Below W.heap.size W W') : TI o vs N V w5 ao5 cap5 pre W' := by
  obtain ⟨h0, h1, h2, h3, ⟨cu, h4, h5, h6⟩, du, h7, h8, h9⟩ := h
  have hk : ∀ (b : Nat) (x : Obj), W.heap[b]? = some x → W'.heap[b]? = some x := fun b x hx => (hb.block b (Array.getElem?_eq_some_iff.1 hx).1).trans hx
  exact ⟨h0.trans (hb.mono hV), hk _ _ h1, hk _ _ h2, hk _ _ h3, ⟨cu, hk _ _ h4, h5, h6⟩, du, hk _ _ h7, h8, h9⟩
theorem ko_of_below {W W' : World} (h : Below W.heap.size W W') : KeepsOthers W W' := ⟨h.size, fun k o hk _ => (h.block k (Array.getElem?_eq_some_iff.1 hk).1).trans hk⟩
theorem ko_set4 (W : World) (b p0 p1 p2 p3 : Nat) (x0 x1 x2 x3 : Value) : KeepsOthers W ((((W.setCell ⟨b, p0, none⟩ x0).setCell ⟨b, p1, none⟩ x1).setCell ⟨b, p2, none⟩ x2).setCell ⟨b, p3, none⟩ x3) :=
  (((KeepsOthers.setCell W ⟨b, p0, none⟩ x0).trans (KeepsOthers.setCell _ ⟨b, p1, none⟩ x1)).trans (KeepsOthers.setCell _ ⟨b, p2, none⟩ x2)).trans (KeepsOthers.setCell _ ⟨b, p3, none⟩ x3)
theorem below_set4 {B : Nat} {a W : World} (h : Below B a W) {b : Nat} (hb : B ≤ b) (p0 p1 p2 p3 : Nat) (x0 x1 x2 x3 : Value) : Below B a ((((W.setCell ⟨b, p0, none⟩ x0).setCell ⟨b, p1, none⟩ x1).setCell ⟨b, p2, none⟩ x2).setCell ⟨b, p3, none⟩ x3) :=
  (((h.setCell (p := ⟨b, p0, none⟩) hb x0).setCell (p := ⟨b, p1, none⟩) hb x1).setCell (p := ⟨b, p2, none⟩) hb x2).setCell (p := ⟨b, p3, none⟩) hb x3
theorem size_set4 (W : World) (b p0 p1 p2 p3 : Nat) (x0 x1 x2 x3 : Value) : ((((W.setCell ⟨b, p0, none⟩ x0).setCell ⟨b, p1, none⟩ x1).setCell ⟨b, p2, none⟩ x2).setCell ⟨b, p3, none⟩ x3).heap.size = W.heap.size := by simp only [World.size_setCell]
theorem block_set4 {W : World} {b : Nat} {cs : Array Value} {T : TypeId} (h : W.heap[b]? = some (.cells cs T)) (p0 p1 p2 p3 : Nat) (x0 x1 x2 x3 : Value) : ((((W.setCell ⟨b, p0, none⟩ x0).setCell ⟨b, p1, none⟩ x1).setCell ⟨b, p2, none⟩ x2).setCell ⟨b, p3, none⟩ x3).heap[b]? = some (.cells ((((cs.setIfInBounds p0 x0).setIfInBounds p1 x1).setIfInBounds p2 x2).setIfInBounds p3 x3) T) := block_set (block_set (block_set (block_set h)))
theorem wpIn_gen4 {F : Fence} {k : Nat} {P : Program} {c : Code} {Q : Exit → Act → World → Prop} {a : Act} {W : World} (h : ∀ W1, W1 = W → c.wpIn F k P Q a W1) : c.wpIn F k P Q a W := h W rfl
theorem region_mid {F : Fence} {n : Nat} {P : Program} {c : Code} {Q : Exit → Act → World → Prop} {a : Act} {W : World} (R : Act → World → Prop) (h1 : c.wpIn F n P (fun e a' W' => e = .normal ∧ R a' W') a W) (h2 : ∀ a' W', R a' W' → Q .normal a' W') : c.wpIn F n P Q a W := wpIn_mono h1 (fun e a w ⟨he, hr⟩ => by subst he; exact h2 a w hr)
/-- An operation in a round of a loop over a function, that is no defer. -/
theorem op_bridge {P : Program} {lid n : Nat} {o : Oper} {a : Act} {w : World} {K : Act → World → Prop} {Q : Exit → Act → World → Prop} (hd : ∀ c, o.op ≠ .defer c) (h : o.wp P a w K (OnlyNormal Q)) : o.wpIn (Fence.wide.inRound lid) n P a w K Q := by
  unfold Oper.wp at h
  unfold Oper.wpIn
  refine ⟨fun f _ => trivial, ?_⟩
  rw [show (Fence.wide.inRound lid).round = some lid from rfl, Oper.semAt_some lid _ _ hd]
  generalize (execOp a.eval o).run P w = r at *
  cases r with
  | ok x w' =>
    cases x with
    | value v => exact h
    | skip => exact h
    | defer d => exact h
    | enter f args =>
      refine ⟨(fun hh => by cases hh), CallsIn.mono (CallsIn.inRound lid (callsIn_wide.2 h)) (fun e w'' he => ?_)⟩
      cases e with
      | returned v => exact he
      | panicked c => exact absurd he.1 (by simp)
      | outgrown => exact absurd he onlyNormal_lets
    | row row args => exact ⟨(fun hh => by cases hh), fun c cs _ => let ⟨v, w', r, s⟩ := h c cs; ⟨v, w', r, stepsIn_wide.2 s⟩⟩
    | _ => exact h.elim
  | halt x w' =>
    cases x with
    | panic v => exact absurd h.1 (by simp)
    | _ => exact h.elim
theorem any_bridge {P : Program} {lid n : Nat} {md : Region.Mode} {ops : Array Oper} {Q : Exit → Act → World → Prop} (hd : ∀ (i : Nat) (o : Oper), ops[i]? = some o → ∀ c, o.op ≠ .defer c) : ∀ (fuel : Nat) (listed : Array Bool) (a : Act) (w : World), wpAny P md ops (OnlyNormal Q) fuel listed a w → wpAnyIn (Fence.wide.inRound lid) n P md ops Q fuel listed a w
  | 0, listed, a, w, h => ⟨h.1, h.2.2⟩
  | fuel + 1, listed, a, w, h => by
    refine ⟨fun hr => (h.1 hr).2, fun i hi => ?_⟩
    have h1 := h.2 i hi
    unfold wpOp at h1
    unfold wpOpIn
    cases ho : ops[i]? with
    | none =>
      rw [ho] at h1
      exact any_bridge hd fuel _ a w h1
    | some o =>
      rw [ho] at h1
      simp only at h1 ⊢
      by_cases hw : Region.wanted o (yielded ops a.tmps) = true
      · rw [if_pos hw] at h1 ⊢
        rcases h1 with h1 | h1
        · exact Oper.wpIn_mono (fun a w hk => any_bridge hd fuel _ a w hk) (op_bridge (hd i o ho) h1)
        · exact absurd h1.2 onlyNormal_lets
      · rw [if_neg hw] at h1 ⊢
        exact ⟨fun f _ => trivial, any_bridge hd fuel _ _ w h1⟩
def noDefer (o : Oper) : Bool := match o.op with | .defer _ => false | _ => true
theorem wpIn_region_makers {P : Program} {lid n id : Nat} {Q : Exit → Act → World → Prop} {a : Act} {W : World} {l : List Oper} (nn : Nat) (mks : List (Nat × Obj)) (ks : List Nat) (A0 : Act) (qs : List Oper) (hdf : l.all noDefer = true)
    (hm : P.follows .mixedOrders = true) (hB : regB l.toArray nn (mks.map (·.1)) ks = true)
    (hrun : ∀ x ∈ mks, ∃ o, l[x.1]? = some o ∧ o.guard = none ∧ ∀ (a : Act) w, (execOp a.eval o).run P w = .ok (.value (ptr w.heap.size)) (w.alloc x.2))
    (hq : quiets l.toArray (mkOf mks) ks = qs)
    (h : ∀ W', Below W.heap.size W W' → wpQuiet P l.toArray (fun w' => ∃ p : Regrown, w' = grow (redrawn W' p.d) p.os) (fun a' => a' = A0) qs a)
    (fin : ∀ (bs : Nat → Nat) (w' : World), Below W.heap.size W w' → (∀ x ∈ mks, W.heap.size ≤ bs x.1 ∧ w'.heap[bs x.1]? = some x.2) → (∀ x ∈ mks, ∀ y ∈ mks, x.1 ≠ y.1 → bs x.1 ≠ bs y.1) →
      wpList P l.toArray (OnlyNormal Q) (l.drop nn) ((mks.map (·.1)).foldr (fun i a => a.put (dstOf l.toArray i) (ptr (bs i))) A0) w') :
    (Code.region id l.toArray true).wpIn (Fence.wide.inRound lid) n P Q a W := by
  have hd : ∀ (i : Nat) (o : Oper), l.toArray[i]? = some o → ∀ c, o.op ≠ .defer c := fun i o ho c e => by
    have hm2 : o ∈ l := by
      rw [List.getElem?_toArray] at ho
      exact List.mem_of_getElem? ho
    have := List.all_eq_true.1 hdf o hm2
    unfold noDefer at this
    rw [e] at this
    cases this
  refine wpIn_region_any hm (any_bridge hd _ _ _ _ ?_)
  have := wpAny_makers nn mks ks A0 qs hB hrun hq h fin
  simpa using this
theorem find_first {α : Type} (f : Nat → Option α) (N k : Nat) (hk : k < N) (r : α) (h0 : ∀ n, n < k → f n = none) (h1 : f k = some r) : (List.range N).findSome? f = some r := by
  obtain ⟨m, rfl⟩ : ∃ m, N = (k + 1) + m := ⟨N - (k + 1), by omega⟩
  have hn : (List.range k).findSome? f = none := List.findSome?_eq_none_iff.2 (fun n hn => h0 n (List.mem_range.1 hn))
  rw [List.range_add, List.findSome?_append, List.range_succ, List.findSome?_append, hn]
  simp [h1]
theorem find_none {α : Type} (f : Nat → Option α) (N : Nat) (h0 : ∀ n, n < N → f n = none) : (List.range N).findSome? f = none := List.findSome?_eq_none_iff.2 (fun n hn => h0 n (List.mem_range.1 hn))
/-- What the search reads stands when the tables are full. -/
theorem env_of {o vs : List Snd} {N V gv off cap5 Sb : Nat} {w5 W WA : World} {T : TypeId} (hN : vs.length = N) (hV : w5.heap.size = V)
    (hI : TI o vs N V w5 (some ⟨gv, off, none⟩) cap5 (downF vs.length) W) (hw : Wd w5 (.slice (some ⟨gv, off, none⟩) N cap5) vs) (hA : Below W.heap.size W WA)
    (hF : WA.heap[Sb]? = some (.cells #[.func (.func 89) #[] #[.pointer (some ⟨V, 0, none⟩), .pointer (some ⟨V + 1 + 1 + 1 + 1, 0, none⟩), .pointer (some ⟨Sb, 0, none⟩), .pointer (some ⟨V + 1 + 1, 0, none⟩)]] T)) :
    ∀ W2, Below WA.heap.size WA W2 → Env o vs V (V + 1 + 1 + 1 + 1) Sb (V + 1 + 1) gv off cap5 (V + 1 + 1 + 1) (V + 1) W2 := by
  intro W2 hb
  obtain ⟨h0, h1, h2, h3, ⟨cu, h4, h5, h6⟩, du, h7, h8, h9⟩ := hI
  have hk : ∀ (b : Nat) (x : Obj), W.heap[b]? = some x → W2.heap[b]? = some x := fun b x hx => by
    have hl := (Array.getElem?_eq_some_iff.1 hx).1
    exact (hb.block b (Nat.lt_of_lt_of_le hl hA.size)).trans ((hA.block b hl).trans hx)
  have hS2 := (hb.block Sb (Array.getElem?_eq_some_iff.1 hF).1).trans hF
  obtain ⟨t1, t2⟩ := tb_down o vs vs.length (Nat.le_refl _)
  rw [List.take_of_length_le (by rw [downF_len]; exact Nat.le_refl _)] at t1 t2
  refine ⟨cell_block (hk _ _ h1) (by rw [hN]; rfl), cell_block (hk _ _ h3) (by rw [hN]; rfl), cell_block (hk _ _ h2) (by rw [hN]; rfl), cell_block hS2 rfl, ?_, ?_, ?_⟩
  · intro i hi
    obtain ⟨ao', cap', e, -, -, hc⟩ := hw.open
    obtain ⟨b, of, e2, hb2, c0, c1⟩ := hc i hi
    injection e with e3 e4 e5
    rw [← e3] at e2
    injection e2 with e2
    injection e2 with e6 e7 e8
    subst e6 e7
    have hl : gv < V := by rw [← hV]; exact hb2
    have hl2 : gv < W.heap.size := Nat.lt_of_lt_of_le hb2 h0.size
    have hl3 : gv < WA.heap.size := Nat.lt_of_lt_of_le hl2 hA.size
    have e9 : ∀ q, W2.cell? ⟨gv, q, none⟩ = w5.cell? ⟨gv, q, none⟩ := fun q => ((hb.cell (p := ⟨gv, q, none⟩) hl3).trans (hA.cell (p := ⟨gv, q, none⟩) hl2)).trans (h0.cell (p := ⟨gv, q, none⟩) hl)
    exact ⟨(e9 _).trans c0, (e9 _).trans c1⟩
  · intro i hi
    have h := h9 i (by omega)
    rw [t2 i (by omega) hi] at h
    exact ⟨cell_block (hk _ _ h7) h.1, cell_block (hk _ _ h7) h.2.1, cell_block (hk _ _ h7) h.2.2.1, cell_block (hk _ _ h7) h.2.2.2⟩
  · intro i hi
    have h := h6 i (by omega)
    rw [t1 i hi (by omega)] at h
    exact ⟨cell_block (hk _ _ h4) h.1, cell_block (hk _ _ h4) h.2.1, cell_block (hk _ _ h4) h.2.2.1, cell_block (hk _ _ h4) h.2.2.2⟩
theorem store_cellv {P : Program} {w : World} {b o : Nat} {v u : Value} (h1 : v.oneCell' = true) (hc : w.cell? ⟨b, o, none⟩ = some u) (hf : w.frozen? ⟨b, o, none⟩ = false) : Sem.run P (store ⟨b, o, none⟩ v) w = .ok () (w.setCell ⟨b, o, none⟩ v) := by
  have hst := run_store P w ⟨b, o, none⟩ v .plain h1
  rw [hc] at hst
  simp only [hf] at hst
  exact hst
end Go.Proofs.YtpnmapfabjdfjaaDoor
