/-
  FeatsMetric, walked.
-/
import Derived.Test.YtdbbmhefndjedaaDoorMt
import Derived.Deep.CutRange
import Derived.Deep.RegionHeld3
namespace Go.Proofs.YtdbbmhefndjedaaDoor
open Go.RowKit Go.Sort
attribute [local go_sem ↓] snd_eql snd_neq
theorem Tab.below3 {A B : World} (h : Tab A) (hb : Below A.heap.size A B) (h0 : 0 < A.heap.size) : Tab B := Tab.below (n₀ := A.heap.size) hb h0 h
/-- append of one weight to a row of the call's own. -/
theorem wpList_app1 {ops : Array Oper} {rest : List Oper} {o : Oper} {a : Act} {w : World} {Q : Exit → Act → World → Prop} (hgd : o.guard = none) (s x : Operand)
    (ho : o.op = .call { callee := .builtin .append, args := #[s, x], argTypes := #[38, 38] })
    (base B : Nat) (v : Value) (xs : List Int) (z : Int) (hs : a.eval s = v) (hx : a.eval x = .slice (some ⟨B, 0, none⟩) 1 1) (hB : w.heap[B]? = some (.cells #[.int .i64 z] 2 (0, 0))) (hown : OwnI w base v xs) (hlen : xs.length + 1 ≤ 1000000000000) (hbase : base ≤ w.heap.size)
    (h : ∀ g cap m w', OwnI w' base (.slice (some ⟨g, 0, none⟩) m cap) (xs ++ [z]) → w.grownBy w' v.ownBlock → (v.ownBlock = some g ∨ g = w.heap.size) → wpList Tryd.prog ops Q rest (a.put o.dst (.slice (some ⟨g, 0, none⟩) m cap)) w') : wpList Tryd.prog ops Q (o :: rest) a w := by
  obtain ⟨i, hi, hz, hs1, hb1⟩ := info_partsI infoI
  refine wpList_append_lies w hgd s x 38 ho base 2 i _ 1 8 Tryd.underlying38 hi hz hs1 hb1 rfl (by decide) v xs.length (xs.map (Value.int .i64)) hs hown ⟨B, 0, none⟩ 1 1 [.int .i64 z] hx rfl (World.news_of_block (cs := #[.int .i64 z]) hB) (by simp [Value.oneCell']) (by decide) (Nat.le_trans hlen (by decide)) (by omega) hbase w.heap.size rfl ?_
  intro g cap w' h1 hg hat _
  have e : xs.length + 1 = (xs ++ [z]).length := by simp
  exact h g cap (xs.length + 1) w' (by unfold OwnI; rw [List.map_append, ← e]; exact h1) hg hat
/-- The same at a step of a region that draws its order. -/
theorem step_app1 {ops : Array Oper} {o : Oper} {a : Act} {w : World} {K : Act → World → Prop} {Q : Exit → Act → World → Prop} {E : Prop} (hgd : o.guard = none) (s x : Operand)
    (ho : o.op = .call { callee := .builtin .append, args := #[s, x], argTypes := #[38, 38] })
    (base B : Nat) (v : Value) (xs : List Int) (z : Int) (hs : a.eval s = v) (hx : a.eval x = .slice (some ⟨B, 0, none⟩) 1 1) (hB : w.heap[B]? = some (.cells #[.int .i64 z] 2 (0, 0))) (hown : OwnI w base v xs) (hlen : xs.length + 1 ≤ 1000000000000) (hbase : base ≤ w.heap.size)
    (h : ∀ g cap m w', OwnI w' base (.slice (some ⟨g, 0, none⟩) m cap) (xs ++ [z]) → w.grownBy w' v.ownBlock → (v.ownBlock = some g ∨ g = w.heap.size) → K (a.put o.dst (.slice (some ⟨g, 0, none⟩) m cap)) w') :
    if Region.wanted o (yielded ops a.tmps) = true then Oper.wp Tryd.prog o a w K Q else E := by
  obtain ⟨i, hi, hz, hs1, hb1⟩ := info_partsI infoI
  refine step_append_lies w hgd s x 38 ho base 2 i _ 1 8 Tryd.underlying38 hi hz hs1 hb1 rfl (by decide) v xs.length (xs.map (Value.int .i64)) hs hown ⟨B, 0, none⟩ 1 1 [.int .i64 z] hx rfl (World.news_of_block (cs := #[.int .i64 z]) hB) (by simp [Value.oneCell']) (by decide) (Nat.le_trans hlen (by decide)) (by omega) hbase w.heap.size rfl ?_
  intro g cap w' h1 hg hat _
  have e : xs.length + 1 = (xs ++ [z]).length := by simp
  exact h g cap (xs.length + 1) w' (by unfold OwnI; rw [List.map_append, ← e]; exact h1) hg hat
set_option maxRecDepth 100000 in
set_option maxHeartbeats 16000000 in
theorem metric_core (x0 x1 y0 y1 z0 z1 a b c d g h RS RT TS : Int) (D : BitVec 32) (zs : List Int) (wv : Value) (w : World) (hm : zs.length ≤ 24) (hz : ∀ i, 0 ≤ zs.getD i 0 ∧ zs.getD i 0 ≤ 65535) (hu : Us w wv zs) (hT : Tab w) (ht : 0 < w.heap.size)
    (m1 : ∀ w, Gives 40 #[.int .u32 x0, .int .u32 x1] w (sn a b)) (m2 : ∀ w, Gives 40 #[.int .u32 y0, .int .u32 y1] w (sn c d)) (m3 : ∀ w, Gives 40 #[.int .u32 z0, .int .u32 z1] w (sn g h))
    (j1 : ∀ W u, Wts W u zs → Tab W → 0 < W.heap.size → Gives 32 #[sn a b, sn c d, .agg #[u, .int .i64 0]] W (.tuple #[.int .i64 RS, .int .i64 0]))
    (j2 : ∀ W u, Wts W u zs → Tab W → 0 < W.heap.size → Gives 32 #[sn c d, sn a b, .agg #[u, .int .i64 0]] W (.tuple #[.int .i64 RS, .int .i64 0]))
    (j3 : ∀ W u, Wts W u zs → Tab W → 0 < W.heap.size → Gives 32 #[sn a b, sn g h, .agg #[u, .int .i64 0]] W (.tuple #[.int .i64 RT, .int .i64 0]))
    (j4 : ∀ W u, Wts W u zs → Tab W → 0 < W.heap.size → Gives 32 #[sn g h, sn c d, .agg #[u, .int .i64 0]] W (.tuple #[.int .i64 TS, .int .i64 0]))
    (j5 : ∀ W u, Wts W u zs → Tab W → 0 < W.heap.size → Gives 32 #[sn a b, sn a b, .agg #[u, .int .i64 0]] W (.tuple #[.int .i64 0, .int .i64 0]))
    (j6 : ∀ W u, Wts W u (List.replicate 24 1) → Tab W → 0 < W.heap.size → Gives 32 #[sn a b, sn c d, .agg #[u, .int .i64 0]] W (.tuple #[.int .i64 ((elems D).length : Int), .int .i64 0]))
    (jd : ∀ W, Gives 30 #[sn a b, sn c d] W (.int .u32 D.toNat)) (h0 : 0 ≤ RS) (h1 : RS ≤ RT + TS) (h2 : 0 ≤ RT + TS) (h3 : RT + TS ≤ 1000000000000) :
    Gives 9 #[.agg #[.int .u32 x0, .int .u32 x1], .agg #[.int .u32 y0, .int .u32 y1], .agg #[.int .u32 z0, .int .u32 z1], wv] w (.bool true) := by
  unfold Gives
  have M1 := Lib.hid m1; have M2 := Lib.hid m2; have M3 := Lib.hid m3; have J1 := Lib.hid j1; have J2 := Lib.hid j2; have J3 := Lib.hid j3; have J4 := Lib.hid j4; have J5 := Lib.hid j5; have J6 := Lib.hid j6; have JD := Lib.hid jd; have HT := Lib.hid hT; have HZ := Lib.hid hz
  have H0 := Lib.hid h0; have H1 := Lib.hid h1; have HRT := Lib.hid h2; have H3 := Lib.hid h3
  obtain ⟨ao, cap, rfl, hue⟩ := hu
  obtain ⟨n, hn⟩ : ∃ n, zs.length = n := ⟨_, rfl⟩
  have HN := Lib.hid hn; have HUE := Lib.hid hue
  rw [hn] at hm ⊢
  clear hn hue hT hz m1 m2 m3 j1 j2 j3 j4 j5 j6 jd h0 h1 h2 h3
  go_enter Tryd.func9, Tryd.ntmps9
  go_wp2_with fail
  refine wp_gen ?_
  intro W1 hW1
  have hw1 : Below w.heap.size w W1 := by rw [hW1]; go_grown
  have hz1 : w.heap.size + 1 + 1 + 1 ≤ W1.heap.size := by rw [hW1]; first | assumption | go_size
  have g0 : W1.cell? ⟨w.heap.size, 0, none⟩ = some (.int .u32 x0) := by rw [hW1]; first | assumption | go_cell | (go_simp; done) | (simp [hc, hf, hc0, hf0]; done) | (refine keep_set ?_ (by (try simp only []); omega); first | assumption | (refine keep_set ?_ (by (try simp only []); omega); assumption)) | (simp [*]; done)
  have g1 : W1.cell? ⟨w.heap.size, 1, none⟩ = some (.int .u32 x1) := by rw [hW1]; first | assumption | go_cell | (go_simp; done) | (simp [hc, hf, hc0, hf0]; done) | (refine keep_set ?_ (by (try simp only []); omega); first | assumption | (refine keep_set ?_ (by (try simp only []); omega); assumption)) | (simp [*]; done)
  have g2 : W1.cell? ⟨w.heap.size + 1, 0, none⟩ = some (.int .u32 y0) := by rw [hW1]; first | assumption | go_cell | (go_simp; done) | (simp [hc, hf, hc0, hf0]; done) | (refine keep_set ?_ (by (try simp only []); omega); first | assumption | (refine keep_set ?_ (by (try simp only []); omega); assumption)) | (simp [*]; done)
  have g3 : W1.cell? ⟨w.heap.size + 1, 1, none⟩ = some (.int .u32 y1) := by rw [hW1]; first | assumption | go_cell | (go_simp; done) | (simp [hc, hf, hc0, hf0]; done) | (refine keep_set ?_ (by (try simp only []); omega); first | assumption | (refine keep_set ?_ (by (try simp only []); omega); assumption)) | (simp [*]; done)
  have g4 : W1.cell? ⟨w.heap.size + 1 + 1, 0, none⟩ = some (.int .u32 z0) := by rw [hW1]; first | assumption | go_cell | (go_simp; done) | (simp [hc, hf, hc0, hf0]; done) | (refine keep_set ?_ (by (try simp only []); omega); first | assumption | (refine keep_set ?_ (by (try simp only []); omega); assumption)) | (simp [*]; done)
  have g5 : W1.cell? ⟨w.heap.size + 1 + 1, 1, none⟩ = some (.int .u32 z1) := by rw [hW1]; first | assumption | go_cell | (go_simp; done) | (simp [hc, hf, hc0, hf0]; done) | (refine keep_set ?_ (by (try simp only []); omega); first | assumption | (refine keep_set ?_ (by (try simp only []); omega); assumption)) | (simp [*]; done)
  clear hW1
  refine wp_region_makers 18 [(15, .cells #[.int .u32 0, .int .u32 0] 24 (0, 0)), (16, .cells #[.int .u32 0, .int .u32 0] 24 (0, 0)), (17, .cells #[.int .u32 0, .int .u32 0] 24 (0, 0))] [0, 1, 2, 3, 4, 5, 6, 7, 8, 9, 10, 11, 12, 13, 14, 15, 16, 17] ?A1 _ (by kernel_rfl) (by kernel_rfl) ?hrun1 (by simp [quiets, mkOf]; rfl) ?walk1 ?fin1
  case hrun1 =>
    intro x hx
    simp only [List.mem_cons, List.not_mem_nil, or_false] at hx
    rcases hx with rfl | rfl | rfl
    all_goals exact ⟨_, rfl, rfl, fun a w => by simp [go_sem, ptr]⟩
  case walk1 =>
    intro W2 hW2
    have e0 : W2.cell? ⟨w.heap.size, 0, none⟩ = some (.int .u32 x0) := (hW2.cell (p := ⟨w.heap.size, 0, none⟩) (by (try simp only []); omega)).trans g0
    have k0 := cell_regrown e0
    have e1 : W2.cell? ⟨w.heap.size, 1, none⟩ = some (.int .u32 x1) := (hW2.cell (p := ⟨w.heap.size, 1, none⟩) (by (try simp only []); omega)).trans g1
    have k1 := cell_regrown e1
    have e2 : W2.cell? ⟨w.heap.size + 1, 0, none⟩ = some (.int .u32 y0) := (hW2.cell (p := ⟨w.heap.size + 1, 0, none⟩) (by (try simp only []); omega)).trans g2
    have k2 := cell_regrown e2
    have e3 : W2.cell? ⟨w.heap.size + 1, 1, none⟩ = some (.int .u32 y1) := (hW2.cell (p := ⟨w.heap.size + 1, 1, none⟩) (by (try simp only []); omega)).trans g3
    have k3 := cell_regrown e3
    have e4 : W2.cell? ⟨w.heap.size + 1 + 1, 0, none⟩ = some (.int .u32 z0) := (hW2.cell (p := ⟨w.heap.size + 1 + 1, 0, none⟩) (by (try simp only []); omega)).trans g4
    have k4 := cell_regrown e4
    have e5 : W2.cell? ⟨w.heap.size + 1 + 1, 1, none⟩ = some (.int .u32 z1) := (hW2.cell (p := ⟨w.heap.size + 1 + 1, 1, none⟩) (by (try simp only []); omega)).trans g5
    have k5 := cell_regrown e5
    repeat (go_big_quiet_step (first | (go_at_call 40; with_reducible exact Calls.regrown_of (M1.out _)) | (go_at_call 40; with_reducible exact Calls.regrown_of (M2.out _)) | (go_at_call 40; with_reducible exact Calls.regrown_of (M3.out _))))
    refine wpQuiet_nil ?_
    rfl
  intro bs w2 hb hF hN
  have hw := chain hw1 (by omega) hb
  obtain ⟨hc, hf, hz⟩ := bcell hb
  have r0 : w2.cell? ⟨w.heap.size, 0, none⟩ = some (.int .u32 x0) := (hc _ _ (by omega)).trans g0
  have r1 : w2.cell? ⟨w.heap.size, 1, none⟩ = some (.int .u32 x1) := (hc _ _ (by omega)).trans g1
  have r2 : w2.cell? ⟨w.heap.size + 1, 0, none⟩ = some (.int .u32 y0) := (hc _ _ (by omega)).trans g2
  have r3 : w2.cell? ⟨w.heap.size + 1, 1, none⟩ = some (.int .u32 y1) := (hc _ _ (by omega)).trans g3
  have r4 : w2.cell? ⟨w.heap.size + 1 + 1, 0, none⟩ = some (.int .u32 z0) := (hc _ _ (by omega)).trans g4
  have r5 : w2.cell? ⟨w.heap.size + 1 + 1, 1, none⟩ = some (.int .u32 z1) := (hc _ _ (by omega)).trans g5
  have m15 := hF (15, .cells #[.int .u32 0, .int .u32 0] 24 (0, 0)) (by simp)
  have m16 := hF (16, .cells #[.int .u32 0, .int .u32 0] 24 (0, 0)) (by simp)
  have m17 := hF (17, .cells #[.int .u32 0, .int .u32 0] 24 (0, 0)) (by simp)
  have n15_16 := hN (15, .cells #[.int .u32 0, .int .u32 0] 24 (0, 0)) (by simp) (16, .cells #[.int .u32 0, .int .u32 0] 24 (0, 0)) (by simp) (by decide)
  have n16_15 := n15_16.symm
  have n15_17 := hN (15, .cells #[.int .u32 0, .int .u32 0] 24 (0, 0)) (by simp) (17, .cells #[.int .u32 0, .int .u32 0] 24 (0, 0)) (by simp) (by decide)
  have n17_15 := n15_17.symm
  have n16_17 := hN (16, .cells #[.int .u32 0, .int .u32 0] 24 (0, 0)) (by simp) (17, .cells #[.int .u32 0, .int .u32 0] 24 (0, 0)) (by simp) (by decide)
  have n17_16 := n16_17.symm
  clear hb hF hN hw1 g0 g1 g2 g3 g4 g5
  simp only [List.map_cons, List.map_nil, List.foldr_cons, List.foldr_nil] at *
  generalize bs 15 = b15 at *
  obtain ⟨m15a, m15b⟩ := m15
  have u15_0 := cell_block (o := 0) (v := .int .u32 0) m15b rfl
  have v15_0 := frozen_block (o := 0) m15b
  have u15_1 := cell_block (o := 1) (v := .int .u32 0) m15b rfl
  have v15_1 := frozen_block (o := 1) m15b
  have l15 := lt_block m15b
  clear m15b
  generalize bs 16 = b16 at *
  obtain ⟨m16a, m16b⟩ := m16
  have u16_0 := cell_block (o := 0) (v := .int .u32 0) m16b rfl
  have v16_0 := frozen_block (o := 0) m16b
  have u16_1 := cell_block (o := 1) (v := .int .u32 0) m16b rfl
  have v16_1 := frozen_block (o := 1) m16b
  have l16 := lt_block m16b
  clear m16b
  generalize bs 17 = b17 at *
  obtain ⟨m17a, m17b⟩ := m17
  have u17_0 := cell_block (o := 0) (v := .int .u32 0) m17b rfl
  have v17_0 := frozen_block (o := 0) m17b
  have u17_1 := cell_block (o := 1) (v := .int .u32 0) m17b rfl
  have v17_1 := frozen_block (o := 1) m17b
  have l17 := lt_block m17b
  clear m17b
  clear bs
  simp only [dstOf, ptr, Act.put, List.getElem?_toArray, List.getElem?_cons_succ, List.getElem?_cons_zero, Option.bind_some, List.setIfInBounds_toArray, List.set_cons_zero, List.set_cons_succ, List.drop_succ_cons, List.drop_zero]
  go_wp2_with fail
  refine wp_gen ?_
  intro WA hWA
  have hwA : Below w.heap.size w WA := by rw [hWA]; go_grown
  have hH : Holds WA w2.heap.size (.slice none 0 0) ∧ Holds WA (w2.heap.size + 1) (.slice none 0 0) := by rw [hWA]; exact holds_pair (by simp)
  have g0 : WA.cell? ⟨b15, 0, none⟩ = some (.int .u32 a) := by rw [hWA]; first | go_cell | (go_simp; done) | (simp [hc, hf]; done) | (refine keep_set ?_ (by (try simp only []); omega); first | assumption | (refine keep_set ?_ (by (try simp only []); omega); assumption))
  have g1 : WA.cell? ⟨b15, 1, none⟩ = some (.int .u32 b) := by rw [hWA]; first | go_cell | (go_simp; done) | (simp [hc, hf]; done) | (refine keep_set ?_ (by (try simp only []); omega); first | assumption | (refine keep_set ?_ (by (try simp only []); omega); assumption))
  have g2 : WA.cell? ⟨b16, 0, none⟩ = some (.int .u32 c) := by rw [hWA]; first | go_cell | (go_simp; done) | (simp [hc, hf]; done) | (refine keep_set ?_ (by (try simp only []); omega); first | assumption | (refine keep_set ?_ (by (try simp only []); omega); assumption))
  have g3 : WA.cell? ⟨b16, 1, none⟩ = some (.int .u32 d) := by rw [hWA]; first | go_cell | (go_simp; done) | (simp [hc, hf]; done) | (refine keep_set ?_ (by (try simp only []); omega); first | assumption | (refine keep_set ?_ (by (try simp only []); omega); assumption))
  have g4 : WA.cell? ⟨b17, 0, none⟩ = some (.int .u32 g) := by rw [hWA]; first | go_cell | (go_simp; done) | (simp [hc, hf]; done) | (refine keep_set ?_ (by (try simp only []); omega); first | assumption | (refine keep_set ?_ (by (try simp only []); omega); assumption))
  have g5 : WA.cell? ⟨b17, 1, none⟩ = some (.int .u32 h) := by rw [hWA]; first | go_cell | (go_simp; done) | (simp [hc, hf]; done) | (refine keep_set ?_ (by (try simp only []); omega); first | assumption | (refine keep_set ?_ (by (try simp only []); omega); assumption))
  clear hWA hc hf r0 r1 r2 r3 r4 r5 hw u15_0 v15_0 u15_1 v15_1 u16_0 v16_0 u16_1 v16_1 u17_0 v17_0 u17_1 v17_1
  have hN2 : w2.heap.size + 1 < WA.heap.size := hH.2.lt
  have m15 : w.heap.size ≤ b15 := by omega
  have m16 : w.heap.size ≤ b16 := by omega
  have m17 : w.heap.size ≤ b17 := by omega
  have HUE2 : Hid (∀ i, i < zs.length → ∃ b off, ao = some ⟨b, off, none⟩ ∧ b < w2.heap.size ∧ WA.cell? ⟨b, off + i, none⟩ = some (.int .u16 (zs.getD i 0))) := Lib.hid fun i hi => by
    obtain ⟨b, off, e, lb, hc⟩ := HUE.out i hi
    exact ⟨b, off, e, by omega, (hwA.cell (p := ⟨b, off + i, none⟩) lb).trans hc⟩
  have hsw : w.heap.size < w2.heap.size := by omega
  clear hz1 hz m15a m16a m17a n15_16 n16_15 n15_17 n17_15 n16_17 n17_16 HUE
  generalize w2.heap.size = N at *
  clear w2 W1
  have HH := Lib.hid hH; clear hH
  obtain ⟨L, hL⟩ : ∃ L, (elems D).length = L := ⟨_, rfl⟩
  have hL32 : L ≤ 32 := by rw [← hL]; exact fl_length D 32 0
  have HL := Lib.hid hL
  have J6 : Hid (∀ W u, Wts W u (List.replicate 24 1) → Tab W → 0 < W.heap.size → Gives 32 #[sn a b, sn c d, .agg #[u, .int .i64 0]] W (.tuple #[.int .i64 (L : Int), .int .i64 0])) := Lib.hid (by rw [← hL]; exact J6.out)
  clear hL
  go_loopw [14] (fun i wr => ∃ (k : Nat) (vc vo : Value), k ≤ 24 ∧ i = .int .i64 (k : Int) ∧ Two wr (N + 1 + 1) N (N + 1) (zs.take k) (List.replicate k 1) vc vo ∧ Below N WA wr ∧ N + 1 < wr.heap.size) (fun i _ => 24 - (intOf i).toNat)
  case atStart => exact ⟨0, _, _, by omega, rfl, ⟨HH.out.1, HH.out.2, OwnI.nil _ _, OwnI.nil _ _, fun g e => by cases e⟩, Below.refl _ _, hN2⟩
  case round =>
    obtain ⟨k, vc, vo, hk, rfl, h2, hw, hsz⟩ := hrel
    have H2 := Lib.hid h2; have HW := Lib.hid hw
    by_cases hlt : k < 24
    · have q0 := h2.2.1.cells.1
      clear h2 hw
      by_cases hkn : k < n
      · have hkz : k < zs.length := by rw [HN.out]; exact hkn
        obtain ⟨b1, o1, e1, lb1, c1⟩ := HUE2.out k hkz
        subst e1
        have hzz := HZ.out k
        have hte := getD_take hkz
        generalize zs.getD k 0 = z at *
        have HTE := Lib.hid hte
        have hzw : IntKind.i64.wrap z = z := IntWalk.i64_in _ ⟨by omega, by omega⟩
        clear hte hkz
        go_wp2_with (at_builtin; refine wpList_app1 rfl (.tmp 53) (.tmp 54) rfl (N + 1 + 1) wr.heap.size vo (List.replicate k 1) 1 rfl rfl (World.alloc_heap_new wr _) (H2.out.alloc (.cells #[.int .i64 1] 2)).2.2.2.1 (by simp; omega) (by rw [World.size_alloc]; omega) ?_; intro g4 c4 m4 w4 ho4 hg4 hat4; have hgr4 := (H2.out.alloc (.cells #[.int .i64 1] 2)).grown (by omega) hg4 ho4 hat4; have p0 := hgr4.1.cells.1; have pf := hgr4.1.cells.2.2; have HG4 := Lib.hid hgr4.2; have HB4 := Lib.hid ((((HW.out.alloc (by omega) (.cells #[.int .i64 1] 2)).grown hg4 (by rw [World.size_alloc]; omega) (fun k' e' => by have := (H2.out.2.2.2.1).row' k' e'; omega)).setCell (p := ⟨N + 1, 0, none⟩) (by simp only []; omega) (.slice (some ⟨g4, 0, none⟩) m4 c4))); clear hgr4 ho4 hg4 hat4)
        refine wp_gen ?_
        intro W5 hW5
        rw [← hW5] at HG4 HB4
        clear hW5
        have hsz5 : N + 1 < W5.heap.size := HG4.out.2.1.lt
        have s0 := HG4.out.1.cells.1
        have s1 := (HB4.out.cell (p := ⟨b1, o1 + k, none⟩) lb1).trans c1
        have t0 := fun X => cell_past (X := X) (by omega : N < W5.heap.size) s0
        have t1 := fun X => cell_past (X := X) (by omega : b1 < W5.heap.size) s1
        clear p0 pf c1 q0
        have HTL : Hid ((zs.take k).length + 1 ≤ 1000000000000) := Lib.hid (by have := List.length_take_le k zs; omega)
        go_wp2_with fail
        go_region_law (refine step_app1 rfl (.tmp 62) (.tmp 68) rfl (N + 1 + 1) W5.heap.size vc (zs.take k) z rfl rfl ?_ (HG4.out.alloc (.cells #[.int .i64 z] 2)).2.2.1 HTL.out ?_ ?_; (next => exact World.alloc_heap_new W5 _); (next => first | omega | (simp; omega)); intro g6 c6 m6 w6 ho6 hg6 hat6; have hgr6 := (HG4.out.alloc (.cells #[.int .i64 z] 2)).drew.swap.grown (by omega) hg6 ho6 hat6; have p0 := hgr6.1.cells.1; have pf := hgr6.1.cells.2.2; have HG6 := Lib.hid hgr6.2.swap; have HB6 := Lib.hid ((((HB4.out.alloc (by omega) (.cells #[.int .i64 z] 2)).drew.grown hg6 (by show N ≤ (W5.alloc _).heap.size; rw [World.size_alloc]; omega) (fun k' e' => by have := (HG4.out.2.2.1).row' k' e'; omega)).setCell (p := ⟨N, 0, none⟩) (Nat.le_refl _) (.slice (some ⟨g6, 0, none⟩) m6 c6))); clear hgr6 ho6 hg6 hat6)
        all_goals (
          have HG7 := Lib.hid (show Two _ _ _ _ (zs.take (k + 1)) (List.replicate (k + 1) 1) _ _ from by rw [← HTE.out, List.replicate_succ']; exact HG6.out)
          have hs7 := HG7.out.2.1.lt
          go_wp2_with fail
          go_roundw
          case rel => exact ⟨k + 1, _, _, by omega, by go_num, HG7.out, HB6.out, hs7⟩
          case measure => simp [intOf]; omega)
      · have hkz : zs.take (k + 1) = zs.take k := by rw [List.take_of_length_le (by rw [HN.out]; omega), List.take_of_length_le (by rw [HN.out]; omega)]
        have HTE := Lib.hid hkz
        clear hkz
        go_wp2_with (at_builtin; refine wpList_app1 rfl (.tmp 53) (.tmp 54) rfl (N + 1 + 1) wr.heap.size vo (List.replicate k 1) 1 rfl rfl (World.alloc_heap_new wr _) (H2.out.alloc (.cells #[.int .i64 1] 2)).2.2.2.1 (by simp; omega) (by rw [World.size_alloc]; omega) ?_; intro g4 c4 m4 w4 ho4 hg4 hat4; have hgr4 := (H2.out.alloc (.cells #[.int .i64 1] 2)).grown (by omega) hg4 ho4 hat4; have p0 := hgr4.1.cells.1; have pf := hgr4.1.cells.2.2; have HG4 := Lib.hid hgr4.2; have HB4 := Lib.hid ((((HW.out.alloc (by omega) (.cells #[.int .i64 1] 2)).grown hg4 (by rw [World.size_alloc]; omega) (fun k' e' => by have := (H2.out.2.2.2.1).row' k' e'; omega)).setCell (p := ⟨N + 1, 0, none⟩) (by simp only []; omega) (.slice (some ⟨g4, 0, none⟩) m4 c4))); clear hgr4 ho4 hg4 hat4)
        have HG7 := Lib.hid (show Two _ _ _ _ (zs.take (k + 1)) (List.replicate (k + 1) 1) _ _ from by rw [HTE.out, List.replicate_succ']; exact HG4.out)
        have hs7 := HG7.out.2.1.lt
        go_roundw
        case rel => exact ⟨k + 1, _, _, by omega, by go_num, HG7.out, HB4.out, hs7⟩
        case measure => simp [intOf]; omega
    · obtain rfl : k = 24 := by omega
      rw [List.take_of_length_le (by rw [HN.out]; exact hm)] at h2
      have r0 := (hw.cell (p := ⟨b15, 0, none⟩) (by simp only []; omega)).trans g0
      have r1 := (hw.cell (p := ⟨b15, 1, none⟩) (by simp only []; omega)).trans g1
      have r2 := (hw.cell (p := ⟨b16, 0, none⟩) (by simp only []; omega)).trans g2
      have r3 := (hw.cell (p := ⟨b16, 1, none⟩) (by simp only []; omega)).trans g3
      have r4 := (hw.cell (p := ⟨b17, 0, none⟩) (by simp only []; omega)).trans g4
      have r5 := (hw.cell (p := ⟨b17, 1, none⟩) (by simp only []; omega)).trans g5
      have k0 := h2.1.cells.1; have k1 := h2.1.cells.2.1; have k2 := h2.2.1.cells.1; have k3 := h2.2.1.cells.2.1; have hwc := h2.2.2.1.wts; have hwo := h2.2.2.2.1.wts
      have hszN : N < wr.heap.size := by omega
      have hw := hwA.trans (hw.mono (by omega : w.heap.size ≤ N))
      have hTw := Tab.below (n₀ := w.heap.size) hw ht HT.out
      have htw := Nat.lt_of_lt_of_le ht hw.size
      have e1 : decide (RS < 0) = false := decide_eq_false (by have := H0.out; omega)
      have e2 : decide (RT + TS < RS) = false := decide_eq_false (by have := H1.out; omega)
      have e3 : IntKind.i64.wrap (RT + TS) = RT + TS := IntWalk.i64_in _ ⟨by have := HRT.out; omega, by have := H3.out; omega⟩
      clear g0 g1 g2 g3 g4 g5 H2 HW hsz hlt hk hN2 HUE2 HH
      go_wp2_with (first | (go_at_call 32; (with_reducible refine Gives.then (J1.out _ vc hwc hTw htw) ?_); intro w1 hb; have r0 := (hb.cell (p := ⟨b15, 0, none⟩) (by simp only []; omega)).trans r0; have r1 := (hb.cell (p := ⟨b15, 1, none⟩) (by simp only []; omega)).trans r1; have r2 := (hb.cell (p := ⟨b16, 0, none⟩) (by simp only []; omega)).trans r2; have r3 := (hb.cell (p := ⟨b16, 1, none⟩) (by simp only []; omega)).trans r3; have r4 := (hb.cell (p := ⟨b17, 0, none⟩) (by simp only []; omega)).trans r4; have r5 := (hb.cell (p := ⟨b17, 1, none⟩) (by simp only []; omega)).trans r5; have h2 := h2.below hb; have k0 := h2.1.cells.1; have k1 := h2.1.cells.2.1; have k2 := h2.2.1.cells.1; have k3 := h2.2.1.cells.2.1; have hwc := h2.2.2.1.wts; have hwo := h2.2.2.2.1.wts; have hw := hw.trans (hb.mono hw.size); have hszN := Nat.lt_of_lt_of_le hszN hb.size; have hTw := Tab.below3 hTw hb htw; have htw := Nat.lt_of_lt_of_le htw hb.size; clear hb) | (go_at_call 32; (with_reducible refine Gives.then (J2.out _ vc hwc hTw htw) ?_); intro w1 hb; have r0 := (hb.cell (p := ⟨b15, 0, none⟩) (by simp only []; omega)).trans r0; have r1 := (hb.cell (p := ⟨b15, 1, none⟩) (by simp only []; omega)).trans r1; have r2 := (hb.cell (p := ⟨b16, 0, none⟩) (by simp only []; omega)).trans r2; have r3 := (hb.cell (p := ⟨b16, 1, none⟩) (by simp only []; omega)).trans r3; have r4 := (hb.cell (p := ⟨b17, 0, none⟩) (by simp only []; omega)).trans r4; have r5 := (hb.cell (p := ⟨b17, 1, none⟩) (by simp only []; omega)).trans r5; have h2 := h2.below hb; have k0 := h2.1.cells.1; have k1 := h2.1.cells.2.1; have k2 := h2.2.1.cells.1; have k3 := h2.2.1.cells.2.1; have hwc := h2.2.2.1.wts; have hwo := h2.2.2.2.1.wts; have hw := hw.trans (hb.mono hw.size); have hszN := Nat.lt_of_lt_of_le hszN hb.size; have hTw := Tab.below3 hTw hb htw; have htw := Nat.lt_of_lt_of_le htw hb.size; clear hb) | (go_at_call 32; (with_reducible refine Gives.then (J3.out _ vc hwc hTw htw) ?_); intro w1 hb; have r0 := (hb.cell (p := ⟨b15, 0, none⟩) (by simp only []; omega)).trans r0; have r1 := (hb.cell (p := ⟨b15, 1, none⟩) (by simp only []; omega)).trans r1; have r2 := (hb.cell (p := ⟨b16, 0, none⟩) (by simp only []; omega)).trans r2; have r3 := (hb.cell (p := ⟨b16, 1, none⟩) (by simp only []; omega)).trans r3; have r4 := (hb.cell (p := ⟨b17, 0, none⟩) (by simp only []; omega)).trans r4; have r5 := (hb.cell (p := ⟨b17, 1, none⟩) (by simp only []; omega)).trans r5; have h2 := h2.below hb; have k0 := h2.1.cells.1; have k1 := h2.1.cells.2.1; have k2 := h2.2.1.cells.1; have k3 := h2.2.1.cells.2.1; have hwc := h2.2.2.1.wts; have hwo := h2.2.2.2.1.wts; have hw := hw.trans (hb.mono hw.size); have hszN := Nat.lt_of_lt_of_le hszN hb.size; have hTw := Tab.below3 hTw hb htw; have htw := Nat.lt_of_lt_of_le htw hb.size; clear hb) | (go_at_call 32; (with_reducible refine Gives.then (J4.out _ vc hwc hTw htw) ?_); intro w1 hb; have r0 := (hb.cell (p := ⟨b15, 0, none⟩) (by simp only []; omega)).trans r0; have r1 := (hb.cell (p := ⟨b15, 1, none⟩) (by simp only []; omega)).trans r1; have r2 := (hb.cell (p := ⟨b16, 0, none⟩) (by simp only []; omega)).trans r2; have r3 := (hb.cell (p := ⟨b16, 1, none⟩) (by simp only []; omega)).trans r3; have r4 := (hb.cell (p := ⟨b17, 0, none⟩) (by simp only []; omega)).trans r4; have r5 := (hb.cell (p := ⟨b17, 1, none⟩) (by simp only []; omega)).trans r5; have h2 := h2.below hb; have k0 := h2.1.cells.1; have k1 := h2.1.cells.2.1; have k2 := h2.2.1.cells.1; have k3 := h2.2.1.cells.2.1; have hwc := h2.2.2.1.wts; have hwo := h2.2.2.2.1.wts; have hw := hw.trans (hb.mono hw.size); have hszN := Nat.lt_of_lt_of_le hszN hb.size; have hTw := Tab.below3 hTw hb htw; have htw := Nat.lt_of_lt_of_le htw hb.size; clear hb) | (go_at_call 32; (with_reducible refine Gives.then (J5.out _ vc hwc hTw htw) ?_); intro w1 hb; have r0 := (hb.cell (p := ⟨b15, 0, none⟩) (by simp only []; omega)).trans r0; have r1 := (hb.cell (p := ⟨b15, 1, none⟩) (by simp only []; omega)).trans r1; have r2 := (hb.cell (p := ⟨b16, 0, none⟩) (by simp only []; omega)).trans r2; have r3 := (hb.cell (p := ⟨b16, 1, none⟩) (by simp only []; omega)).trans r3; have r4 := (hb.cell (p := ⟨b17, 0, none⟩) (by simp only []; omega)).trans r4; have r5 := (hb.cell (p := ⟨b17, 1, none⟩) (by simp only []; omega)).trans r5; have h2 := h2.below hb; have k0 := h2.1.cells.1; have k1 := h2.1.cells.2.1; have k2 := h2.2.1.cells.1; have k3 := h2.2.1.cells.2.1; have hwc := h2.2.2.1.wts; have hwo := h2.2.2.2.1.wts; have hw := hw.trans (hb.mono hw.size); have hszN := Nat.lt_of_lt_of_le hszN hb.size; have hTw := Tab.below3 hTw hb htw; have htw := Nat.lt_of_lt_of_le htw hb.size; clear hb) | (go_at_call 32; (with_reducible refine Gives.then (J6.out _ vo hwo hTw htw) ?_); intro w1 hb; have r0 := (hb.cell (p := ⟨b15, 0, none⟩) (by simp only []; omega)).trans r0; have r1 := (hb.cell (p := ⟨b15, 1, none⟩) (by simp only []; omega)).trans r1; have r2 := (hb.cell (p := ⟨b16, 0, none⟩) (by simp only []; omega)).trans r2; have r3 := (hb.cell (p := ⟨b16, 1, none⟩) (by simp only []; omega)).trans r3; have r4 := (hb.cell (p := ⟨b17, 0, none⟩) (by simp only []; omega)).trans r4; have r5 := (hb.cell (p := ⟨b17, 1, none⟩) (by simp only []; omega)).trans r5; have h2 := h2.below hb; have k0 := h2.1.cells.1; have k1 := h2.1.cells.2.1; have k2 := h2.2.1.cells.1; have k3 := h2.2.1.cells.2.1; have hwc := h2.2.2.1.wts; have hwo := h2.2.2.2.1.wts; have hw := hw.trans (hb.mono hw.size); have hszN := Nat.lt_of_lt_of_le hszN hb.size; have hTw := Tab.below3 hTw hb htw; have htw := Nat.lt_of_lt_of_le htw hb.size; clear hb) | (go_at_call 30; (with_reducible refine Gives.then (JD.out _) ?_); intro w1 hb; have r0 := (hb.cell (p := ⟨b15, 0, none⟩) (by simp only []; omega)).trans r0; have r1 := (hb.cell (p := ⟨b15, 1, none⟩) (by simp only []; omega)).trans r1; have r2 := (hb.cell (p := ⟨b16, 0, none⟩) (by simp only []; omega)).trans r2; have r3 := (hb.cell (p := ⟨b16, 1, none⟩) (by simp only []; omega)).trans r3; have r4 := (hb.cell (p := ⟨b17, 0, none⟩) (by simp only []; omega)).trans r4; have r5 := (hb.cell (p := ⟨b17, 1, none⟩) (by simp only []; omega)).trans r5; have h2 := h2.below hb; have k0 := h2.1.cells.1; have k1 := h2.1.cells.2.1; have k2 := h2.2.1.cells.1; have k3 := h2.2.1.cells.2.1; have hwc := h2.2.2.1.wts; have hwo := h2.2.2.2.1.wts; have hw := hw.trans (hb.mono hw.size); have hszN := Nat.lt_of_lt_of_le hszN hb.size; have hTw := Tab.below3 hTw hb htw; have htw := Nat.lt_of_lt_of_le htw hb.size; clear hb))
      have HTW := Lib.hid hTw; have HW := Lib.hid hw
      clear hTw hw r0 r1 r2 r3 r4 r5 k0 k1 k2 k3 hwc hwo h2 hszN e1 e2 e3
      obtain ⟨wl, hwl⟩ : ∃ x, x = w1 := ⟨_, rfl⟩
      subst hwl
      go_loop [27, 28] (fun i s => ∃ (k : Nat) (r : BitVec 32), i = .int .i64 (k : Int) ∧ s = .int .u32 (r.toNat : Int) ∧ k + (elems r).length = L) (fun _ s => (intOf s).toNat)
      case atStart => exact ⟨0, D, rfl, rfl, by rw [HL.out]; omega⟩
      case round =>
        obtain ⟨k, r, rfl, rfl, hkr⟩ := hrel
        by_cases hr : r.toNat = 0
        · have hr0 : r = 0#32 := by rw [← BitVec.toNat_inj]; simpa using hr
          subst hr0
          rw [elems_zero, List.length_nil, Nat.add_zero] at hkr
          subst hkr
          have hw := HW.out
          have hTw := HTW.out
          go_wp2_with (go_at_call 21; with_reducible refine Gives.then (works_any _ hTw htw) ?_; intro w1 hb; have hw := hw.trans (hb.mono hw.size); clear hb)
          go_returns
          exact ⟨rfl, hw⟩
        · obtain ⟨hkk, hel, hlt, hand⟩ := elems_step r hr
          have hpos : 0 < r.toNat := by omega
          have h32 := r.isLt
          have hap := and_pred r hr hand
          have hel2 : (elems r).length = (elems (r &&& (r - 1#32))).length + 1 := by rw [hel]; rfl
          have hkr2 : k + 1 + (elems (r &&& (r - 1#32))).length = L := by omega
          have hk32 : k ≤ 32 := by omega
          have HKR := Lib.hid hkr2; have HAP := Lib.hid hap; have HLT := Lib.hid hlt
          have hne : ((r.toNat : Int) != 0) = true := by simpa using hr
          clear hel hel2 hkr hkr2 hap hand hkk hlt
          go_wp2_with fail
          go_round
          case rel => exact ⟨k + 1, r &&& (r - 1#32), by go_num, by rw [← HAP.out], HKR.out⟩
          case measure =>
            have e := HAP.out
            have e' := HLT.out
            simp only [intOf]
            omega
end Go.Proofs.YtdbbmhefndjedaaDoor
