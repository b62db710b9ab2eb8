/-
  Words: lists of sounds that a slice holds; rows that a call has made; what append makes of them.
-/
import Derived.Test.YtfjngkdpembdcaaHa
namespace Go.Proofs.Ytfjngkdpembdcaa
open Go.RowKit Go.Sort
/-- A sound: its two sets. -/
abbrev Snd := BitVec 32 × BitVec 32
/-- The cells of some sounds. -/
def flat : List Snd → List Value
  | [] => []
  | s :: l => .int .u32 s.1.toNat :: .int .u32 s.2.toNat :: flat l
theorem flat_length : ∀ l : List Snd, (flat l).length = l.length * 2
  | [] => rfl
  | s :: l => by simp only [flat, List.length_cons, flat_length l]; omega
theorem flat_append : ∀ a b : List Snd, flat (a ++ b) = flat a ++ flat b
  | [], _ => rfl
  | s :: l, b => by simp only [List.cons_append, flat, flat_append l b]
theorem flat_one : ∀ l : List Snd, ∀ u ∈ flat l, u.oneCell' = true
  | [], u, h => by simp [flat] at h
  | s :: l, u, h => by
    simp only [flat, List.mem_cons] at h
    rcases h with rfl | rfl | h
    · rfl
    · rfl
    · exact flat_one l u h
theorem flat_take : ∀ (l : List Snd) (k : Nat), (flat l).take (k * 2) = flat (l.take k)
  | [], k => by simp [flat]
  | s :: l, 0 => by simp [flat]
  | s :: l, k + 1 => by
    rw [show (k + 1) * 2 = k * 2 + 1 + 1 from by omega]
    simp only [flat, List.take_succ_cons, flat_take l k]
theorem flat_get0 : ∀ (l : List Snd) (i : Nat) (h : i < l.length), (flat l)[i * 2]? = some (.int .u32 (l[i].1.toNat : Int))
  | s :: l, 0, _ => by simp [flat]
  | s :: l, i + 1, h => by
    have := flat_get0 l i (by simpa using h)
    rw [show (i + 1) * 2 = i * 2 + 1 + 1 from by omega]
    simpa [flat] using this
theorem flat_get1 : ∀ (l : List Snd) (i : Nat) (h : i < l.length), (flat l)[i * 2 + 1]? = some (.int .u32 (l[i].2.toNat : Int))
  | s :: l, 0, _ => by simp [flat]
  | s :: l, i + 1, h => by
    have := flat_get1 l i (by simpa using h)
    rw [show (i + 1) * 2 + 1 = i * 2 + 1 + 1 + 1 from by omega]
    simpa [flat] using this
/-- A slice that holds these sounds (an empty one may have any address). -/
def Wd (w : World) (v : Value) (ss : List Snd) : Prop :=
  ((v = .slice none 0 0 ∨ ∃ aa, v = .slice (some aa) 0 0) ∧ ss = []) ∨ ∃ b off cap, v = .slice (some ⟨b, off, none⟩) ss.length cap ∧ ss.length ≤ cap ∧ cap ≤ maxLen ∧ b < w.heap.size ∧ ∀ i (h : i < ss.length), w.cell? ⟨b, off + i * 2, none⟩ = some (.int .u32 (ss[i].1.toNat : Int)) ∧ w.cell? ⟨b, off + i * 2 + 1, none⟩ = some (.int .u32 (ss[i].2.toNat : Int))
theorem Wd.below {w w' : World} {v : Value} {ss : List Snd} (h : Wd w v ss) (hb : Below w.heap.size w w') : Wd w' v ss := by
  rcases h with h | ⟨b, off, cap, h1, hc, hm, h2, h3⟩
  · exact .inl h
  · exact .inr ⟨b, off, cap, h1, hc, hm, by have := hb.size; omega, fun i hi => ⟨(hb.cell (p := ⟨b, off + i * 2, none⟩) h2).trans (h3 i hi).1, (hb.cell (p := ⟨b, off + i * 2 + 1, none⟩) h2).trans (h3 i hi).2⟩⟩
theorem Wd.nil (w : World) : Wd w (.slice none 0 0) [] := .inl ⟨.inl rfl, rfl⟩
theorem Wd.void (w : World) (aa : Addr) : Wd w (.slice (some aa) 0 0) [] := .inl ⟨.inr ⟨aa, rfl⟩, rfl⟩
/-- The cells, as the laws of append ask for them. -/
theorem Wd.news {w : World} {b off : Nat} {ss : List Snd} (h3 : ∀ i (h : i < ss.length), w.cell? ⟨b, off + i * 2, none⟩ = some (.int .u32 (ss[i].1.toNat : Int)) ∧ w.cell? ⟨b, off + i * 2 + 1, none⟩ = some (.int .u32 (ss[i].2.toNat : Int))) :
    ∀ j u, (flat ss)[j]? = some u → w.cell? ((⟨b, off, none⟩ : Addr).add j) = some u := by
  intro j u hu
  have hj : j < (flat ss).length := (List.getElem?_eq_some_iff.1 hu).1
  rw [flat_length] at hj
  have hi : j / 2 < ss.length := by omega
  rcases Nat.mod_two_eq_zero_or_one j with e | e
  · have e2 : j = j / 2 * 2 := by omega
    have := flat_get0 ss (j / 2) hi
    rw [← e2, hu] at this
    rw [Option.some.inj this, show (⟨b, off, none⟩ : Addr).add j = ⟨b, off + j / 2 * 2, none⟩ from by simp [Addr.add, ← e2]]
    exact (h3 _ hi).1
  · have e2 : j = j / 2 * 2 + 1 := by omega
    have := flat_get1 ss (j / 2) hi
    rw [← e2, hu] at this
    rw [Option.some.inj this, show (⟨b, off, none⟩ : Addr).add j = ⟨b, off + j / 2 * 2 + 1, none⟩ from by rw [show off + j / 2 * 2 + 1 = off + j from by omega]; simp [Addr.add]]
    exact (h3 _ hi).2
/-- A slice that a call has made, holding these sounds. -/
def Own (w : World) (base : Nat) (v : Value) (ss : List Snd) : Prop := w.ownsRow base 32 2 v ss.length (flat ss)
theorem Own.wd {w : World} {base : Nat} {v : Value} {ss : List Snd} (h : Own w base v ss) : Wd w v ss := by
  obtain ⟨hl, ⟨rfl, h0⟩ | ⟨g, cap, cur, rfl, hg, hh, hn, hm, hs, ht⟩⟩ := h
  · exact .inl ⟨.inl rfl, List.eq_nil_of_length_eq_zero h0⟩
  · refine .inr ⟨g, 0, cap, rfl, hn, hm, (Array.getElem?_eq_some_iff.1 hh).1, fun i hi => ?_⟩
    have key : ∀ j, j < ss.length * 2 → cur[j]? = (flat ss)[j]? := fun j hj => by
      rw [← ht, List.getElem?_take_of_lt hj, Array.getElem?_toList]
    refine ⟨?_, ?_⟩
    · rw [Nat.zero_add]; exact cell_block hh ((key _ (by omega)).trans (flat_get0 ss i hi))
    · rw [Nat.zero_add]; exact cell_block hh ((key _ (by omega)).trans (flat_get1 ss i hi))
theorem Own.nil (w : World) (base : Nat) : Own w base (.slice none 0 0) [] := ⟨rfl, .inl ⟨rfl, rfl⟩⟩
theorem Own.mono {w : World} {base base' : Nat} {v : Value} {ss : List Snd} (h : Own w base v ss) (hb : base' ≤ base) : Own w base' v ss := by
  obtain ⟨hl, h0 | ⟨g, cap, cur, hv, hg, hr⟩⟩ := h
  · exact ⟨hl, .inl h0⟩
  · exact ⟨hl, .inr ⟨g, cap, cur, hv, by omega, hr⟩⟩
theorem Own.below {w w' : World} {base : Nat} {v : Value} {ss : List Snd} (h : Own w base v ss) (hb : Below w.heap.size w w') : Own w' base v ss := by
  obtain ⟨hl, h0 | ⟨g, cap, cur, hv, hg, hh, hr⟩⟩ := h
  · exact ⟨hl, .inl h0⟩
  · exact ⟨hl, .inr ⟨g, cap, cur, hv, hg, (hb.block g (Array.getElem?_eq_some_iff.1 hh).1).trans hh, hr⟩⟩
theorem Own.row {w : World} {base : Nat} {v : Value} {ss : List Snd} (h : Own w base v ss) (k : Nat) (hk : v.ownBlock = some k) : base ≤ k := by
  obtain ⟨hl, ⟨rfl, h0⟩ | ⟨g, cap, cur, rfl, hg, hr⟩⟩ := h
  · cases hk
  · cases hk; exact hg
theorem infoSound : (Try.prog.info? 32).map (fun i => (i.zero, i.size, i.bytes)) = some (some (.agg #[.int .u32 0, .int .u32 0]), 2, 8) := by kernel_rfl
/-- append of a word to a slice that the call has made. -/
theorem wpList_app {ops : Array Oper} {rest : List Oper} {o : Oper} {a : Act} {w : World} {Q : Exit → Act → World → Prop} (hgd : o.guard = none) (s x : Operand) (t : TypeId) (ht : Try.prog.underlying t = some (.slice 32))
    (ho : o.op = .call { callee := .builtin .append, args := #[s, x], argTypes := #[t, t] })
    (base : Nat) (v u : Value) (ss ts : List Snd) (hs : a.eval s = v) (hx : a.eval x = u) (hown : Own w base v ss) (hw : Wd w u ts) (hlen : ss.length + ts.length ≤ 1000000000000) (hbase : base ≤ w.heap.size)
    (h : ∀ v' w', Own w' base v' (ss ++ ts) → (∀ B a, B ≤ base → Below B a w → Below B a w') → w.heap.size ≤ w'.heap.size → wpList Try.prog ops Q rest (a.put o.dst v') w') : wpList Try.prog ops Q (o :: rest) a w := by
  obtain ⟨i, hi, hz, hs1, hb1⟩ := info_parts infoSound
  rcases hw with ⟨rfl | ⟨aa, rfl⟩, rfl⟩ | ⟨b, off, cap, rfl, hc, hm, hb, h3⟩
  · refine wpList_append_own_none hgd s x t ho base _ i 2 ht hi v ss.length (flat ss) hs hown hx ?_
    exact h v w (by rw [List.append_nil]; exact hown) (fun _ _ _ hb => hb) (Nat.le_refl _)
  · refine wpList_append_own w hgd s x t ho base _ i _ 2 8 ht hi hz hs1 hb1 rfl (by decide) v ss.length (flat ss) hs hown aa 0 0 (flat []) hx rfl (by intro j u hu; simp [flat] at hu) (by intro u hu; simp [flat] at hu) (Nat.le_trans hlen (by decide)) (by omega) hbase ?_
    intro v' w' ho' hg _
    refine h v' w' ?_ (fun B a hB hb => hb.grown hg (by omega) (fun k e => Nat.le_trans hB (Own.row hown k e))) hg.size
    unfold Own
    rw [List.append_nil]
    simpa [flat] using ho'
  · refine wpList_append_own w hgd s x t ho base _ i _ 2 8 ht hi hz hs1 hb1 rfl (by decide) v ss.length (flat ss) hs hown ⟨b, off, none⟩ ts.length cap (flat ts) hx (flat_length ts) (Wd.news h3) (flat_one ts) (Nat.le_trans hlen (by decide)) (by omega) hbase ?_
    intro v' w' ho' hg _
    refine h v' w' ?_ (fun B a hB hb => hb.grown hg (by omega) (fun k e => Nat.le_trans hB (Own.row hown k e))) hg.size
    unfold Own
    rw [flat_append, List.length_append]
    exact ho'
theorem snd_eql (a b c d : Int) (w : World) : (binOp .eql 32 (.agg #[.int .u32 a, .int .u32 b]) (.agg #[.int .u32 c, .int .u32 d])).run Try.prog w = .ok (.bool (a == c && b == d)) w := by
  by_cases h1 : a = c
  · by_cases h2 : b = d
    · simp [go_sem, h1, h2]
    · simp [go_sem, h1, h2]
  · simp [go_sem, h1]
theorem snd_neq (a b c d : Int) (w : World) : (binOp .neq 32 (.agg #[.int .u32 a, .int .u32 b]) (.agg #[.int .u32 c, .int .u32 d])).run Try.prog w = .ok (.bool (!(a == c && b == d))) w := by
  by_cases h1 : a = c
  · by_cases h2 : b = d
    · simp [go_sem, h1, h2]
    · simp [go_sem, h1, h2]
  · simp [go_sem, h1]
/-- The value of a word, and its cells. -/
theorem Wd.open {w : World} {v : Value} {ss : List Snd} (h : Wd w v ss) : ∃ ao cap, v = .slice ao ss.length cap ∧ ss.length ≤ cap ∧ cap ≤ maxLen ∧ (∀ i (_ : i < ss.length), ∃ b off, ao = some ⟨b, off, none⟩ ∧ b < w.heap.size ∧ w.cell? ⟨b, off + i * 2, none⟩ = some (.int .u32 (ss[i].1.toNat : Int)) ∧ w.cell? ⟨b, off + i * 2 + 1, none⟩ = some (.int .u32 (ss[i].2.toNat : Int))) := by
  rcases h with ⟨rfl | ⟨aa, rfl⟩, rfl⟩ | ⟨b, off, cap, rfl, hc, hm, hb, h3⟩
  · exact ⟨none, 0, rfl, by simp, by simp, fun i hi => by simp at hi⟩
  · exact ⟨some aa, 0, rfl, by simp, by simp, fun i hi => by simp at hi⟩
  · exact ⟨some ⟨b, off, none⟩, cap, rfl, hc, hm, fun i hi => ⟨b, off, rfl, hb, h3 i hi⟩⟩
end Go.Proofs.Ytfjngkdpembdcaa
