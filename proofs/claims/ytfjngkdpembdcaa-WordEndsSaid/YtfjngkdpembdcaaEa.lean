/-
  WordEnds: what its calls return.
-/
import Derived.Test.YtfjngkdpembdcaaYs
import Derived.Test.YtfjngkdpembdcaaHx
import Derived.Test.YtfjngkdpembdcaaRb
import Derived.Test.YtfjngkdpembdcaaCn
namespace Go.Proofs.Ytfjngkdpembdcaa
open Go.RowKit Go.Sort
theorem Chain.le {ss : List Snd} : ∀ (l : List (Nat × Nat)) (a z : Nat), Chain ss l a z → a ≤ z
  | [], a, z, h => Nat.le_of_eq h
  | x :: l, a, z, h => by
    obtain ⟨c1, c2, _, _, _, c6⟩ := h
    have := Chain.le l x.2 z c6
    omega
/-- There is one way only. -/
theorem Chain.one {ss : List Snd} : ∀ (l m : List (Nat × Nat)) (a z : Nat), Chain ss l a z → Chain ss m a z → l = m
  | [], [], _, _, _, _ => rfl
  | [], y :: m, a, z, h, k => by
    have h : a = z := h
    obtain ⟨c1, c2, _, _, _, c6⟩ := k
    have := Chain.le m y.2 z c6
    omega
  | x :: l, [], a, z, h, k => by
    have k : a = z := k
    obtain ⟨c1, c2, _, _, _, c6⟩ := h
    have := Chain.le l x.2 z c6
    omega
  | (p, q) :: l, (p', q') :: m, a, z, h, k => by
    obtain ⟨c1, c2, c3, c4, c5, c6⟩ := h
    obtain ⟨d1, d2, d3, d4, d5, d6⟩ := k
    simp only at *
    subst c1
    subst d1
    have e : q = q' := by
      rcases Nat.lt_trichotomy q q' with h | h | h
      · exact absurd (d4 q (by omega) h) (c5 (by omega))
      · exact h
      · exact absurd (c4 q' (by omega) h) (d5 (by omega))
    subst e
    rw [Chain.one l m _ _ c6 d6]
def zero2 : Snd := (0#32, 0#32)
def wLong : List Snd := List.replicate 32 zero2
def wOver : List Snd := List.replicate 33 zero2
def wBad : List Snd := [(16777216#32, 0#32)]
def wBoth : List Snd := [(3#32, 2#32)]
def wLast : List Snd := [(8388608#32, 0#32)]
def sPapa : List Snd := spellS [112, 97, 112, 97]
def sPata : List Snd := spellS [112, 97, 116, 97]
def sPa : List Snd := spellS [112, 97]
def sPt : List Snd := spellS [112, 116]
def sTp : List Snd := spellS [116, 112]
def sT : List Snd := spellS [116]
def sP : List Snd := spellS [112]
def sPpatt : List Snd := spellS [112, 112, 97, 116, 116]
theorem make_words (n : Nat) (w : World) (hn : n ≤ 1000) : Wd (w.alloc (.cells (Array.replicate (n * 2) (.int .u32 0)) 32)) (.slice (some ⟨w.heap.size, 0, none⟩) n n) (List.replicate n zero2) := by
  refine .inr ⟨w.heap.size, 0, n, by simp, by simp, Nat.le_trans hn (by decide), by rw [World.size_alloc]; omega, fun i hi => ?_⟩
  rw [List.length_replicate] at hi
  rw [List.getElem_replicate]
  refine ⟨cell_block (World.alloc_heap_new w _) ?_, cell_block (World.alloc_heap_new w _) ?_⟩
  · rw [Array.getElem?_replicate, if_pos (by omega)]; rfl
  · rw [Array.getElem?_replicate, if_pos (by omega)]; rfl
theorem make_one (x y : BitVec 32) (w : World) : Wd (w.alloc (.cells #[.int .u32 x.toNat, .int .u32 y.toNat] 32)) (.slice (some ⟨w.heap.size, 0, none⟩) 1 1) [(x, y)] := by
  refine .inr ⟨w.heap.size, 0, 1, rfl, Nat.le_refl _, by decide, by rw [World.size_alloc]; omega, fun i hi => ?_⟩
  obtain rfl : i = 0 := by simpa using hi
  exact ⟨cell_block (World.alloc_heap_new w _) rfl, cell_block (World.alloc_heap_new w _) rfl⟩
theorem make_list (n : Nat) (w : World) (hn : n ≤ 1000) : Ws (w.alloc (.cells (Array.replicate n (.slice none 0 0)) 24)) (.slice (some ⟨w.heap.size, 0, none⟩) n n) (List.replicate n (.slice none 0 0, [])) := by
  refine .inr ⟨w.heap.size, 0, n, by simp, by simp, Nat.le_trans hn (by decide), by rw [World.size_alloc]; omega, fun i hi => ?_⟩
  rw [List.length_replicate] at hi
  rw [List.getElem_replicate]
  exact ⟨cell_block (World.alloc_heap_new w _) (by rw [Array.getElem?_replicate, if_pos (by omega)]), Wd.nil _⟩
theorem Wd.formN {w : World} {v : Value} {ss : List Snd} (h : Wd w v ss) (n : Nat) (hn : ss.length = n) : ∃ ao cap, v = .slice ao n cap := by
  obtain ⟨ao, cap, rfl, -⟩ := h.open
  exact ⟨ao, cap, by rw [hn]⟩
/-- append to a word whose row is full. -/
theorem wpList_grow {ops : Array Oper} {rest : List Oper} {o : Oper} {a : Act} {w : World} {Q : Exit → Act → World → Prop} (hwd : Region.wanted o (yielded ops a.tmps) = true) (s x : Operand)
    (ho : o.op = .call { callee := .builtin .append, args := #[s, x], argTypes := #[24, 24] })
    (b n b' m c : Nat) (ss ts : List Snd) (hs : a.eval s = .slice (some ⟨b, 0, none⟩) n n) (hx : a.eval x = .slice (some ⟨b', 0, none⟩) m c) (hv : Wd w (.slice (some ⟨b, 0, none⟩) n n) ss) (hu : Wd w (.slice (some ⟨b', 0, none⟩) m c) ts) (hn0 : 0 < n) (hm0 : 0 < m) (hlen : n + m ≤ 1000)
    (h : ∀ v' w', Own w' w.heap.size v' (ss ++ ts) → Below w.heap.size w w' → wpList Try.prog ops Q rest (a.put o.dst v') w') : wpList Try.prog ops Q (o :: rest) a w := by
  obtain ⟨i, hi, hz, hs1, hb1⟩ := info_parts infoSound
  rcases hv with ⟨e | ⟨_, e⟩, _⟩ | ⟨_, _, _, e, -, -, -, h3⟩
  · cases e
  · simp only [Value.slice.injEq] at e; omega
  rcases hu with ⟨e' | ⟨_, e'⟩, _⟩ | ⟨_, _, _, e', -, -, -, k3⟩
  · cases e'
  · simp only [Value.slice.injEq] at e'; omega
  simp only [Value.slice.injEq, Option.some.injEq, Addr.mk.injEq, and_true] at e e'
  obtain ⟨⟨rfl, rfl⟩, rfl, rfl⟩ := e
  obtain ⟨⟨rfl, rfl⟩, rfl, rfl⟩ := e'
  obtain ⟨v', w', hrun, r1, r2⟩ := run_append_arg_grows (P := Try.prog) w 24 o.type 32 i _ 2 8 Try.underlying24 hi hz hs1 hb1 rfl (by decide) ⟨b, 0, none⟩ ss.length ss.length (flat ss) (flat_length ss) (Wd.news h3) ⟨b', 0, none⟩ ts.length c (flat ts) (flat_length ts) (Wd.news k3) (by omega) (by have : ss.length + ts.length ≤ maxLen := Nat.le_trans hlen (by decide); exact this) (by omega)
  refine wpList_step fun K hK => ?_
  rw [if_pos hwd]
  unfold Oper.wp
  simp [execOp, ho, resolve, invoke, builtin, hs, hx, hrun, Result.andThen]
  refine hK _ _ (h v' w' ?_ ⟨r2.os, r2.tape, r2.output, r2.size, fun k hk => r2.block k hk (by simp)⟩)
  unfold Own
  rw [flat_append, List.length_append]
  exact r1
theorem e_long (w : World) (v : Value) (h : Wd w v wLong) : Gives 11 #[v] w (.int .i64 0) := Gives.eq (check_any _ _ _ h) rfl (by rw [show chk wLong = 0 by decide])
theorem e_over (w : World) (v : Value) (h : Wd w v wOver) : Gives 11 #[v] w (.int .i64 11) := Gives.eq (check_any _ _ _ h) rfl (by rw [show chk wOver = 11 by decide])
theorem e_bad (w : World) (v : Value) (h : Wd w v wBad) : Gives 11 #[v] w (.int .i64 14) := Gives.eq (check_any _ _ _ h) rfl (by rw [show chk wBad = 14 by decide])
theorem e_both (w : World) (v : Value) (h : Wd w v wBoth) : Gives 11 #[v] w (.int .i64 14) := Gives.eq (check_any _ _ _ h) rfl (by rw [show chk wBoth = 14 by decide])
theorem e_last (w : World) (v : Value) (h : Wd w v wLast) : Gives 11 #[v] w (.int .i64 0) := Gives.eq (check_any _ _ _ h) rfl (by rw [show chk wLast = 0 by decide])
theorem e_nil (w : World) : Gives 11 #[.slice none 0 0] w (.int .i64 0) := Gives.eq (check_any [] _ _ (Wd.nil w)) rfl (by rw [show chk [] = 0 by decide])
theorem e_more (w : World) (v : Value) (h : Wd w v (wOver ++ wBad)) : Gives 11 #[v] w (.int .i64 11) := Gives.eq (check_any _ _ _ h) rfl (by rw [show chk (wOver ++ wBad) = 11 by decide])
theorem e_cut1 (w : World) (v : Value) (h : Wd w v sPata) : MakesE 15 #[v, .int .i64 2, .int .i64 5] w 3 [] := MakesE.eq (cut_any _ _ 2 5 _ h (by decide)) (by decide) (by decide)
theorem e_cut2 (w : World) (v : Value) (h : Wd w v sPata) : MakesE 15 #[v, .int .i64 3, .int .i64 2] w 3 [] := MakesE.eq (cut_any _ _ 3 2 _ h (by decide)) (by decide) (by decide)
theorem e_cut3 (w : World) (v : Value) (h : Wd w v wBad) : MakesE 15 #[v, .int .i64 (-1), .int .i64 9] w 14 [] := MakesE.eq (cut_any _ _ (-1) 9 _ h (by decide)) (by decide) (by decide)
theorem e_spl1 (w : World) (v u : Value) (h : Wd w v wLong) (k : Wd w u sP) : MakesE 17 #[v, .int .i64 32, .int .i64 32, u] w 11 [] := MakesE.eq (splice_any _ _ _ _ 32 32 _ h k (by decide)) (by decide) (by decide)
theorem e_spl2 (w : World) (v u : Value) (h : Wd w v wLong) (k : Wd w u wOver) : MakesE 17 #[v, .int .i64 33, .int .i64 32, u] w 11 [] := MakesE.eq (splice_any _ _ _ _ 33 32 _ h k (by decide)) (by decide) (by decide)
theorem e_spl3 (w : World) (v u : Value) (h : Wd w v wOver) (k : Wd w u wBad) : MakesE 17 #[v, .int .i64 0, .int .i64 0, u] w 11 [] := MakesE.eq (splice_any _ _ _ _ 0 0 _ h k (by decide)) (by decide) (by decide)
theorem e_spl4 (w : World) (v u : Value) (h : Wd w v wLong) (k : Wd w u sP) : MakesE 17 #[v, .int .i64 31, .int .i64 32, u] w 0 (wLong.take 31 ++ sP) := MakesE.eq (splice_any _ _ _ _ 31 32 _ h k (by decide)) (by decide) (by decide)
theorem e_spl5 (w : World) (v u : Value) (h : Wd w v sPa) (k : Wd w u sPa) : MakesE 17 #[v, .int .i64 2, .int .i64 2, u] w 0 sPapa := MakesE.eq (splice_any _ _ _ _ 2 2 _ h k (by decide)) (by decide) (by decide)
theorem e_same (w : World) (v u : Value) (h : Wd w v sPapa) (k : Wd w u sPapa) : Gives 13 #[v, u] w (.bool true) := Gives.eq (same_any _ _ _ _ _ h k) rfl (by rw [decide_eq_true rfl])
theorem e_sort {l : List (Value × List Snd)} {E : Int} (hE : sE l = E) (w : World) (v : Value) (h : Ws w v l) : Calls Try.prog 8 #[v] w fun e w' => ∃ v', e = .returned (.tuple #[v', .int .i64 E]) ∧ Below w.heap.size w w' := by
  refine (sort_all l v w h).mono ?_
  rintro e w' ⟨v', l', rfl, -, -, -, hb⟩
  exact ⟨v', by rw [hE], hb⟩
theorem sE_nils : sE (List.replicate 256 (.slice none 0 0, [])) = 0 := sE_ok (Nat.le_of_eq List.length_replicate) fun x hx => by
  rw [List.eq_of_mem_replicate hx]; decide
theorem sE_more : sE (List.replicate 257 (.slice none 0 0, [])) = 12 := by rw [sE, if_pos (by rw [List.length_replicate]; decide)]
theorem sE_three (v u : Value) : sE [(.slice none 0 0, []), (v, wBad), (u, wOver)] = 14 := by
  have h1 : chk [] = 0 := by decide
  have h2 : chk wBad = 14 := by decide
  rw [sE, if_neg (by simp)]
  simp only [cke]
  rw [if_pos h1, h2]
  simp
theorem e_find1 (w : World) (v : Value) (h : Wd w v sPapa) : Gives 19 #[v, .slice none 0 0] w (.int .i64 0) := Gives.eq (find_any _ [] _ _ _ (by decide) h (Wd.nil w) (.inl (by decide))) rfl (by rw [show findS sPapa [] = 0 by decide])
theorem e_find2 (w : World) (v u : Value) (h : Wd w v sPapa) (k : Wd w u sT) : Gives 19 #[v, u] w (.int .i64 (-1)) := Gives.eq (find_any _ _ _ _ _ (by decide) h k (.inl (by decide))) rfl (by rw [show findS sPapa sT = -1 by decide])
theorem e_find3 (w : World) : Gives 19 #[.slice none 0 0, .slice none 0 0] w (.int .i64 0) := Gives.eq (find_any [] [] _ _ _ (by decide) (Wd.nil w) (Wd.nil w) (.inr rfl)) rfl (by rw [show findS [] [] = 0 by decide])
theorem e_in (w : World) (v u : Value) (h : Wd w v sTp) (k : Wd w u sPata) : Gives 20 #[v, u] w (.bool false) := Gives.eq (inside_any _ _ _ _ _ (by decide) h k) rfl (by rw [show insS sTp sPata = false by decide])
theorem e_ord (w : World) (v u : Value) (h : Wd w v sPa) (k : Wd w u sPt) : Gives 12 #[v, u] w (.int .i64 (-1)) := Gives.eq (order_any _ _ _ _ _ h k) rfl (by rw [show ordW sPa sPt = -1 by decide])
theorem e_cnt1 (w : World) (v : Value) (h : Wd w v wBad) : Gives 21 #[v, .agg #[.int .u32 0, .int .u32 0]] w (.int .i64 0) := Gives.eq (count_any _ _ 0#32 0#32 _ h) rfl (by rw [show cnt wBad (0#32, 0#32) = 0 by decide]; rfl)
theorem e_cnt2 (w : World) (v : Value) (h : Wd w v sPata) : Gives 21 #[v, .agg #[.int .u32 16777216, .int .u32 0]] w (.int .i64 0) := Gives.eq (count_any _ _ 16777216#32 0#32 _ h) rfl (by rw [show cnt sPata (16777216#32, 0#32) = 0 by decide]; rfl)
theorem e_cnt3 (w : World) (v : Value) (h : Wd w v sPata) : Gives 21 #[v, .agg #[.int .u32 2, .int .u32 0]] w (.int .i64 2) := Gives.eq (count_any _ _ 2#32 0#32 _ h) rfl (by rw [show cnt sPata (2#32, 0#32) = 2 by decide]; rfl)
theorem e_cnt4 (w : World) (v : Value) (h : Wd w v sPata) : Gives 21 #[v, .agg #[.int .u32 0, .int .u32 0]] w (.int .i64 4) := Gives.eq (count_any _ _ 0#32 0#32 _ h) rfl (by rw [show cnt sPata (0#32, 0#32) = 4 by decide]; rfl)
theorem e_runs (w : World) (v : Value) (h : Wd w v sPpatt) : Calls Try.prog 18 #[v] w fun e w' => ∃ g c, e = .returned (.slice (some ⟨g, 0, none⟩) 3 c) ∧ g < w'.heap.size ∧
    w'.cell? ⟨g, 0, none⟩ = some (.int .i64 0) ∧ w'.cell? ⟨g, 1, none⟩ = some (.int .i64 2) ∧ w'.cell? ⟨g, 2, none⟩ = some (.int .i64 2) ∧ w'.cell? ⟨g, 3, none⟩ = some (.int .i64 3) ∧ w'.cell? ⟨g, 4, none⟩ = some (.int .i64 3) ∧ w'.cell? ⟨g, 5, none⟩ = some (.int .i64 5) ∧ Below w.heap.size w w' := by
  refine (wRuns_any _ _ (by decide) _ h).mono ?_
  rintro e w' ⟨v', l, rfl, ho, hc, hb⟩
  have hl : l = [(0, 2), (2, 3), (3, 5)] := Chain.one l _ _ _ hc (by
    refine ⟨rfl, by decide, by decide, ?_, by decide, rfl, by decide, by decide, ?_, by decide, rfl, by decide, by decide, ?_, by decide, rfl⟩
    · intro k h1 h2
      simp only at h1 h2
      rcases (by omega : k = 0 ∨ k = 1) with rfl | rfl <;> decide
    · intro k h1 h2
      simp only at h1 h2
      obtain rfl : k = 2 := by omega
      rfl
    · intro k h1 h2
      simp only at h1 h2
      rcases (by omega : k = 3 ∨ k = 4) with rfl | rfl <;> decide)
  subst hl
  rcases ho.rn with ⟨_, e⟩ | ⟨g, cap, rfl, _, _, hg, hcell⟩
  · cases e
  · exact ⟨g, cap, rfl, hg, (hcell 0 (by decide)).1, (hcell 0 (by decide)).2, (hcell 1 (by decide)).1, (hcell 1 (by decide)).2, (hcell 2 (by decide)).1, (hcell 2 (by decide)).2, hb⟩
end Go.Proofs.Ytfjngkdpembdcaa
