/-
  FeatsMetric, for every argument.
-/
import Derived.Test.YtdbbmhefndjedaaDoorMw
namespace Go.Proofs.YtdbbmhefndjedaaDoor
open Go.RowKit Go.Sort
theorem ok_small {zs : List Int} (hl : zs.length ≤ 24) (hz : ∀ i, 0 ≤ zs.getD i 0 ∧ zs.getD i 0 ≤ 65535) : okCosts zs 0 = true := by
  unfold okCosts
  rw [Bool.and_eq_true, Bool.and_eq_true]
  refine ⟨⟨decide_eq_true hl, by decide⟩, List.all_eq_true.2 fun z hm => ?_⟩
  obtain ⟨i, hi, rfl⟩ := List.mem_iff_getElem.1 hm
  have h := hz i
  rw [List.getD_eq_getElem?_getD, List.getElem?_eq_getElem hi] at h
  exact okCost_yes h.1 (Int.le_trans h.2 (by decide))
theorem ones_get (i : Nat) : (List.replicate 24 (1 : Int)).getD i 0 = if i < 24 then 1 else 0 := by
  rw [List.getD_eq_getElem?_getD, List.getElem?_replicate]
  split <;> rfl
theorem ones_ok : okCosts (List.replicate 24 (1 : Int)) 0 = true := ok_small (by simp) fun i => by rw [ones_get]; split <;> decide
theorem metric_valid (x0 x1 y0 y1 z0 z1 : Int) (p m q n u v : BitVec 32) (hp : vld p m = true) (hq : vld q n = true) (hu : vld u v = true) (zs : List Int) (wv : Value) (w : World) (hm : zs.length ≤ 24) (hz : ∀ i, 0 ≤ zs.getD i 0 ∧ zs.getD i 0 ≤ 65535) (hus : Us w wv zs) (hT : Tab w) (ht : 0 < w.heap.size)
    (m1 : ∀ w, Gives 40 #[.int .u32 x0, .int .u32 x1] w (sn p.toNat m.toNat)) (m2 : ∀ w, Gives 40 #[.int .u32 y0, .int .u32 y1] w (sn q.toNat n.toNat)) (m3 : ∀ w, Gives 40 #[.int .u32 z0, .int .u32 z1] w (sn u.toNat v.toNat)) :
    Gives 9 #[.agg #[.int .u32 x0, .int .u32 x1], .agg #[.int .u32 y0, .int .u32 y1], .agg #[.int .u32 z0, .int .u32 z1], wv] w (.bool true) := by
  have hok := ok_small hm hz
  have hd : ∀ (a b c d : BitVec 32), vld a b = true → vld c d = true → ∀ W s, Wts W s zs → Tab W → 0 < W.heap.size → Gives 32 #[sn a.toNat b.toNat, sn c.toNat d.toNat, .agg #[s, .int .i64 0]] W (.tuple #[.int .i64 (rsum ((a ^^^ c) ||| (b ^^^ d)) zs zs.length), .int .i64 0]) := fun a b c d h1 h2 W s hs hTW htW =>
    Gives.eq (dist_ok a b c d s 0 zs (by omega) (by rw [h1, h2]; rfl) hok W hs hTW htW) rfl (by rw [sumW_rsum _ zs (by omega)])
  have hbd := fun r => rsum_bd (zs := zs) r 65535 hz zs.length
  refine metric_core x0 x1 y0 y1 z0 z1 _ _ _ _ _ _ (rsum ((p ^^^ q) ||| (m ^^^ n)) zs zs.length) (rsum ((p ^^^ u) ||| (m ^^^ v)) zs zs.length) (rsum ((u ^^^ q) ||| (v ^^^ n)) zs zs.length) ((p ^^^ q) ||| (m ^^^ n)) zs wv w hm hz hus hT ht m1 m2 m3
    (hd p m q n hp hq) (fun W s hs hTW htW => Gives.eq (hd q n p m hq hp W s hs hTW htW) rfl (by rw [BitVec.xor_comm q p, BitVec.xor_comm n m])) (hd p m u v hp hu) (hd u v q n hu hq)
    (fun W s hs hTW htW => Gives.eq (dist_ok p m p m s 0 zs (by omega) (by rw [hp]; rfl) hok W hs hTW htW) rfl (by rw [BitVec.xor_self, BitVec.xor_self, BitVec.or_self, elems_zero]; rfl))
    (fun W s hs hTW htW => Gives.eq (dist_ok p m q n s 0 (List.replicate 24 1) (by simp) (by rw [hp, hq]; rfl) ones_ok W hs hTW htW) rfl (by
      rw [sumW_ones _ _ fun x hx => ?_]
      rw [ones_get, if_pos]
      refine Classical.byContradiction fun hn => ?_
      have hb := fl_mem 32 0 (by omega) hx
      obtain ⟨a1, a2⟩ := vld_high hp x.val x.isLt (by omega)
      obtain ⟨a3, a4⟩ := vld_high hq x.val x.isLt (by omega)
      rw [BitVec.getLsbD_or, BitVec.getLsbD_xor, BitVec.getLsbD_xor, a1, a2, a3, a4] at hb
      cases hb))
    (fun W => gv_diff p m q n hp hq W) (hbd _).1 ?_ ?_ ?_
  · refine rsum_tri _ _ _ (fun i => (hz i).1) (fun k hk => ?_) _
    simp only [BitVec.getLsbD_or, BitVec.getLsbD_xor] at hk ⊢
    revert hk
    generalize p.getLsbD k = a
    generalize q.getLsbD k = b
    generalize m.getLsbD k = c
    generalize n.getLsbD k = d
    generalize u.getLsbD k = e
    generalize v.getLsbD k = f
    revert a b c d e f
    decide
  · have a1 := (hbd ((p ^^^ u) ||| (m ^^^ v))).1
    have a2 := (hbd ((u ^^^ q) ||| (v ^^^ n))).1
    omega
  · have a1 := (hbd ((p ^^^ u) ||| (m ^^^ v))).2
    have a2 := (hbd ((u ^^^ q) ||| (v ^^^ n))).2
    have hl : (zs.length : Int) * 65535 ≤ 24 * 65535 := Int.mul_le_mul_of_nonneg_right (by omega) (by decide)
    omega
set_option maxRecDepth 100000 in
set_option maxHeartbeats 1000000 in
theorem metric_any (x0 x1 y0 y1 z0 z1 : BitVec 32) (zs : List Int) (wv : Value) (hm : zs.length ≤ 9223372036854775807) (w : World) (hus : Us w wv zs) (hz : ∀ i, 0 ≤ zs.getD i 0 ∧ zs.getD i 0 ≤ 65535) (hT : Tab w) (ht : 0 < w.heap.size) :
    Gives 9 #[.agg #[.int .u32 x0.toNat, .int .u32 x1.toNat], .agg #[.int .u32 y0.toNat, .int .u32 y1.toNat], .agg #[.int .u32 z0.toNat, .int .u32 z1.toNat], wv] w (.bool true) := by
  by_cases h24 : zs.length ≤ 24
  · exact metric_valid _ _ _ _ _ _ _ _ _ _ _ _ (vld_made x0 x1) (vld_made y0 y1) (vld_made z0 z1) zs wv w h24 hz hus hT ht (made_any x0 x1) (made_any y0 y1) (made_any z0 z1)
  · unfold Gives
    obtain ⟨ao, cap, rfl, -⟩ := hus
    generalize zs.length = n at *
    have HT := Lib.hid hT
    clear hz hT zs
    have hw := Below.refl w.heap.size w
    have hTw := HT.out
    go_enter Tryd.func9, Tryd.ntmps9
    go_wp2_with (go_at_call 21; with_reducible refine Gives.then (works_any _ ?_ ?_) ?_; (next => (exact Tab.below (n₀ := w.heap.size) (by go_grown) ht hTw)); (next => (first | go_size | (have := hw.size; simp only [World.size_alloc]; omega))); intro w1 hb; have hw := chain (B := w.heap.size) (a := w) (by go_grown) (by go_size) hb; obtain ⟨hc, hf, hz⟩ := bcell hb; clear hb; (try simp only [World.size_alloc, World.size_setCell, World.size_drew] at hc hf hz))
    go_returns
    exact ⟨rfl, hw⟩
end Go.Proofs.YtdbbmhefndjedaaDoor
