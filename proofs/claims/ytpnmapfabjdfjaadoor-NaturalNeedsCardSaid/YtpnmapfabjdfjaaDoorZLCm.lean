/-
  Lemmas that the theorem of this claim rests on: 5 texts, one behind the other.
-/
import Derived.Test.YtpnmapfabjdfjaaDoorM8
import Derived.Test.YtpnmapfabjdfjaaDoorM19
import Derived.Test.YtpnmapfabjdfjaaDoorM2
import Derived.Deep.AppendLies
import Derived.Test.YtpnmapfabjdfjaaDoorM7
set_option linter.unusedSimpArgs false
set_option linter.unusedVariables false

/-
  A list of pairs of bytes: how it is read.
-/
namespace Go.Proofs.YtpnmapfabjdfjaaDoor
set_option maxRecDepth 100000
open Go.ChangeShapes Go.WideShapes Go.ChangeAt Go.RowKit Go.Joins
/-- A slice of pairs of bytes (an empty one may have any address). -/
def Pz (w : World) (v : Value) (l : List (Nat × Nat)) : Prop :=
  ((v = .slice none 0 0 ∨ ∃ aa, v = .slice (some aa) 0 0) ∧ l = []) ∨ ∃ b off cap, v = .slice (some ⟨b, off, none⟩) l.length cap ∧ l.length ≤ cap ∧ cap ≤ maxLen ∧ b < w.heap.size ∧ ∀ i (h : i < l.length), (w.cell? ⟨b, off + i * 2, none⟩ = some (.int .u8 (l[i].1 : Int)) ∧ w.cell? ⟨b, off + i * 2 + 1, none⟩ = some (.int .u8 (l[i].2 : Int))) ∧ l[i].1 ≤ 255 ∧ l[i].2 ≤ 255
theorem Pz.nil (w : World) : Pz w (.slice none 0 0) [] := .inl ⟨.inl rfl, rfl⟩
theorem Pz.below {w w' : World} {v : Value} {l : List (Nat × Nat)} (h : Pz w v l) (hb : Below w.heap.size w w') : Pz w' v l := by
  rcases h with h | ⟨b, off, cap, h1, hc, hm, h2, h3⟩
  · exact .inl h
  · exact .inr ⟨b, off, cap, h1, hc, hm, by have := hb.size; omega, fun i hi => ⟨⟨(hb.cell (p := ⟨b, off + i * 2, none⟩) h2).trans (h3 i hi).1.1, (hb.cell (p := ⟨b, off + i * 2 + 1, none⟩) h2).trans (h3 i hi).1.2⟩, (h3 i hi).2⟩⟩
theorem Pz.open {w : World} {v : Value} {l : List (Nat × Nat)} (h : Pz w v l) : ∃ ao cap, v = .slice ao l.length cap ∧ l.length ≤ cap ∧ cap ≤ maxLen ∧ (∀ i (_ : i < l.length), ∃ b off, ao = some ⟨b, off, none⟩ ∧ b < w.heap.size ∧ (w.cell? ⟨b, off + i * 2, none⟩ = some (.int .u8 (l[i].1 : Int)) ∧ w.cell? ⟨b, off + i * 2 + 1, none⟩ = some (.int .u8 (l[i].2 : Int))) ∧ l[i].1 ≤ 255 ∧ l[i].2 ≤ 255) := by
  rcases h with ⟨rfl | ⟨aa, rfl⟩, rfl⟩ | ⟨b, off, cap, rfl, hc, hm, hb, h3⟩
  · exact ⟨none, 0, rfl, by simp, by simp, fun i hi => by simp at hi⟩
  · exact ⟨some aa, 0, rfl, by simp, by simp, fun i hi => by simp at hi⟩
  · exact ⟨some ⟨b, off, none⟩, cap, rfl, hc, hm, fun i hi => ⟨b, off, rfl, hb, h3 i hi⟩⟩
/-- The two cells of a pair of bytes in memory. -/
theorem byte_cells {H : Type} {enc : TypeId × Value → H} {w : World} {base n : Nat} {spare : Nat → Bool} {held : Bool} {a : Addr} {y : DataW H × List MemPlace}
    (h : (w.cells? base a 2).bind (DataW.trod enc Tryd.prog w base spare held n 99) = some y) : ∃ s : Nat × Nat, (w.cell? a = some (.int .u8 (s.1 : Int)) ∧ w.cell? (a.add 1) = some (.int .u8 (s.2 : Int))) ∧ s.1 ≤ 255 ∧ s.2 ≤ 255 := by
  rw [Option.bind_eq_some_iff] at h
  obtain ⟨cs, hc, ht⟩ := h
  unfold World.cells? at hc
  split at hc
  · rw [show List.range 2 = [0, 1] from rfl] at hc
    simp only [List.mapM_cons, List.mapM_nil, Option.bind_eq_bind, Option.pure_def, Option.bind_eq_some_iff, Option.some.injEq] at hc
    obtain ⟨c0, h0, l1, ⟨c1, h1, l2, rfl, rfl⟩, rfl⟩ := hc
    obtain ⟨xs, m, _, _, _, hl, he⟩ := DataW.trod_array Tryd.underlying99 ht
    have k1 : Tryd.prog.cellsOf 5 = 1 := by kernel_rfl
    have t0 := he 0 (by decide)
    have t1 := he 1 (by decide)
    rw [k1, List.getElem?_eq_getElem (by omega)] at t0 t1
    simp at t0 t1
    obtain ⟨z0, e0, _, w0⟩ := DataW.trod_int Tryd.underlying5 t0
    obtain ⟨z1, e1, _, w1⟩ := DataW.trod_int Tryd.underlying5 t1
    have b0 := bounds_u8 w0
    have b1 := bounds_u8 w1
    simp at e0 e1
    subst e0; subst e1
    refine ⟨(z0.toNat, z1.toNat), ⟨?_, ?_⟩, by simp only []; omega, by simp only []; omega⟩
    · rw [show ((z0.toNat : Nat) : Int) = z0 from by omega]; simpa [Addr.add] using h0
    · rw [show ((z1.toNat : Nat) : Int) = z1 from by omega]; exact h1
  · cases hc
/-- How a list of pairs of bytes is read. -/
theorem open_pz {H : Type} {enc : TypeId × Value → H} {w : World} {base : Nat} {spare : Nat → Bool} {held : Bool} {r : Reach} {b0 : Nat} {v : Value} {d : DataW H} {p : List MemPlace}
    (hv : Value.okWide Tryd.prog w r b0 51 v) (h : DataW.Trod enc Tryd.prog w base spare held 51 v d p) : ∃ l : List (Nat × Nat), Pz w v l := by
  obtain ⟨fuel, hf⟩ := h
  have hk : Tryd.prog.cellsOf 99 = 2 := by kernel_rfl
  rcases DataW.trod_slice Tryd.underlying51 hf with ⟨h0, _⟩ | ⟨a, len, cap, elems, rest, n, _, hcs, _, _, hl, hm, hlen, hel, _, _⟩
  · simp [Value.cells] at h0
    obtain ⟨ao, ln, cp, rfl⟩ := okWide_slice Tryd.underlying51 hv
    simp at h0
    obtain ⟨rfl, rfl, rfl⟩ := h0
    exact ⟨[], Pz.nil w⟩
  · obtain ⟨ao, ln, cp, rfl⟩ := okWide_slice Tryd.underlying51 hv
    simp [Value.cells] at hcs
    obtain ⟨rfl, rfl, rfl⟩ := hcs
    have hok : Cell.ok Tryd.prog w r b0 51 (.slice (some a) ln cp) := by
      simpa [Value.okWide, Cell.okWide, Tryd.underlying51] using hv
    have hhas : ln ≤ cp ∧ (cp : Int) ≤ IntKind.i64.max ∧ w.has Tryd.prog r b0 a 99 cp := by
      simpa [Cell.ok, Tryd.underlying51] using hok
    obtain ⟨_, hsp, row, cells, hsh, _⟩ := hhas.2.2
    obtain ⟨ab, aoff, asp⟩ := a
    simp only at hsp
    subst hsp
    have hblk : ab < w.heap.size := by
      unfold World.shape? at hsh
      simp only at hsh
      rcases Nat.lt_or_ge ab w.heap.size with h1 | h1
      · exact h1
      · rw [Array.getElem?_eq_none h1] at hsh; cases hsh
    have each : ∀ i, i < ln → ∃ s : Nat × Nat, (w.cell? ⟨ab, aoff + i * 2, none⟩ = some (.int .u8 (s.1 : Int)) ∧ w.cell? ⟨ab, aoff + i * 2 + 1, none⟩ = some (.int .u8 (s.2 : Int))) ∧ s.1 ≤ 255 ∧ s.2 ≤ 255 := fun i hi => by
      have h1 := hel i hi
      rw [hk, List.getElem?_eq_getElem (by omega)] at h1
      obtain ⟨s, ⟨c0, c1⟩, b0, b1⟩ := byte_cells h1
      refine ⟨s, ⟨?_, ?_⟩, b0, b1⟩
      · rw [addr_add] at c0; exact c0
      · rw [addr_add, addr_add] at c1; exact c1
    obtain ⟨f, hf2⟩ : ∃ f : Nat → Nat × Nat, ∀ i, i < ln → (w.cell? ⟨ab, aoff + i * 2, none⟩ = some (.int .u8 ((f i).1 : Int)) ∧ w.cell? ⟨ab, aoff + i * 2 + 1, none⟩ = some (.int .u8 ((f i).2 : Int))) ∧ (f i).1 ≤ 255 ∧ (f i).2 ≤ 255 :=
      ⟨fun i => if h : i < ln then Classical.choose (each i h) else (0, 0), fun i hi => by simp only [dif_pos hi]; exact Classical.choose_spec (each i hi)⟩
    refine ⟨(List.range ln).map f, .inr ⟨ab, aoff, cp, by simp, by simpa using hl, hm, hblk, fun i hi => ?_⟩⟩
    have hi' : i < ln := by simpa using hi
    simpa using hf2 i hi'
end Go.Proofs.YtpnmapfabjdfjaaDoor

/-
  NaturalCubes: its inventories, and what they answer.
-/
namespace Go.Proofs.YtpnmapfabjdfjaaDoor
open Go.RowKit Go.Sort
/-- The corner x of the cube of K features. -/
def mkS (K x : Nat) : Snd := (BitVec.ofNat 32 x &&& 16777215#32, (BitVec.ofNat 32 (2 ^ K - 1) &&& 16777215#32) &&& ~~~(BitVec.ofNat 32 x))
def cubA (K x : Nat) : List Snd := (List.range x).map (mkS K)
def cubB (K j x : Nat) : List Snd := ((List.range x).filter fun i => i != j).map (mkS K)
theorem cubA_succ (K x : Nat) : cubA K (x + 1) = cubA K x ++ [mkS K x] := by unfold cubA; rw [List.range_succ, List.map_append]; rfl
theorem cubB_eq (K j : Nat) : cubB K j (j + 1) = cubB K j j := by unfold cubB; rw [List.range_succ, List.filter_append]; simp
theorem cubB_ne (K j x : Nat) (h : x ≠ j) : cubB K j (x + 1) = cubB K j x ++ [mkS K x] := by
  unfold cubB
  rw [List.range_succ, List.filter_append, List.map_append]
  have e : [x].filter (fun i => i != j) = [x] := by simp [h]
  rw [e]; rfl
theorem cubA_len (K x : Nat) : (cubA K x).length = x := by unfold cubA; rw [List.length_map, List.length_range]
theorem cubB_len (K j x : Nat) : (cubB K j x).length ≤ x := by
  unfold cubB
  rw [List.length_map]
  exact Nat.le_trans (List.length_filter_le _ _) (by rw [List.length_range]; exact Nat.le_refl _)
theorem made_k (K x : Nat) (hK : K ≤ 3) (hx : x < 8) (w : World) : Gives 42 #[.int .u32 (x : Int), .int .u32 ((2 ^ K - 1 : Nat) : Int)] w (.agg #[.int .u32 ((mkS K x).1.toNat : Int), .int .u32 ((mkS K x).2.toNat : Int)]) := by
  have h := made_any (BitVec.ofNat 32 x) (BitVec.ofNat 32 (2 ^ K - 1)) w
  have e1 : (BitVec.ofNat 32 x).toNat = x := by rw [BitVec.toNat_ofNat, Nat.mod_eq_of_lt (by omega)]
  have e2 : (BitVec.ofNat 32 (2 ^ K - 1)).toNat = 2 ^ K - 1 := by
    rw [BitVec.toNat_ofNat, Nat.mod_eq_of_lt]
    have : 2 ^ K ≤ 2 ^ 3 := Nat.pow_le_pow_right (by decide) hK
    omega
  rw [e1, e2] at h
  exact h
theorem q1 : ∀ K, K < 4 → 0 < K → ckE (cubA K (2 ^ K)) 12 = 0 ∧ cntN (cubA K (2 ^ K)) = ((3 ^ K : Nat) : Int) ∧ ckE (cubA K (2 ^ K)) 256 = 0 ∧ gapG (cubA K (2 ^ K)) = [] := by decide +kernel
theorem q2 : ∀ K, K < 4 → ∀ j, j < 2 ^ K → ckE (cubB K j (2 ^ K)) 256 = 0 := by decide +kernel
theorem q3 : ∀ j, j < 2 → gapG (cubB 1 j 2) = [] := by decide +kernel
theorem q42 : ∀ j, j < 4 → ((gapG (cubB 2 j 4)).all fun g => decide (g = mkS 2 j)) = true ∧ mkS 2 j ∈ gapG (cubB 2 j 4) := by decide +kernel
theorem q43 : ∀ j, j < 8 → ((gapG (cubB 3 j 8)).all fun g => decide (g = mkS 3 j)) = true ∧ mkS 3 j ∈ gapG (cubB 3 j 8) := by decide +kernel
theorem gaps_none {l Y : List Snd} (h : gapG l = []) (hm : ∀ g, g ∈ Y ↔ gapP l g) : Y = [] := by
  cases Y with
  | nil => rfl
  | cons g t =>
    have := (hm g).1 (by simp)
    rw [← mem_gapG, h] at this
    simp at this
theorem gaps_one {l Y : List Snd} {a : Snd} (h1 : ((gapG l).all fun g => decide (g = a)) = true) (h2 : a ∈ gapG l) (hi : IncS Y) (hm : ∀ g, g ∈ Y ↔ gapP l g) : Y = [a] := inc_one hi (fun g => by
  rw [hm g, ← mem_gapG]
  exact ⟨fun h => of_decide_eq_true (List.all_eq_true.1 h1 g h), fun h => h ▸ h2⟩)
/-- A word that is not empty lies in memory, and so does each of its sounds. -/
theorem wd_mem {W : World} {v : Value} {ss : List Snd} (h : Wd W v ss) (hn : 0 < ss.length) : ∃ g off cap, v = .slice (some ⟨g, off, none⟩) ss.length cap ∧ ss.length ≤ cap ∧ cap ≤ maxLen ∧ ∀ j (hj : j < ss.length), Wd W (.slice (some ⟨g, off + j * 2, none⟩) 1 (cap - j)) [ss[j]] := by
  rcases h with ⟨-, rfl⟩ | ⟨b, off, cap, rfl, hc, hm, hb, h3⟩
  · simp at hn
  · refine ⟨b, off, cap, rfl, hc, hm, fun j hj => .inr ⟨b, off + j * 2, cap - j, rfl, by simp; omega, by omega, hb, fun i hi => ?_⟩⟩
    obtain rfl : i = 0 := by simpa using hi
    have := h3 j hj
    simpa using this
/-- Two rows lie apart. -/
def Dj (u v : Value) : Prop := ∀ k, u.ownBlock = some k → v.ownBlock = some k → False
theorem Own.lies {W : World} {b : Nat} {v : Value} {ss : List Snd} (h : Own W b v ss) (k : Nat) (hk : v.ownBlock = some k) : k < W.heap.size := by
  obtain ⟨_, ⟨rfl, _⟩ | ⟨g, cap, cur, rfl, _, hh, _⟩⟩ := h
  · cases hk
  · cases hk; exact (Array.getElem?_eq_some_iff.1 hh).1
theorem Dj.kept {W W' : World} {b : Nat} {u v : Value} {ss : List Snd} (h : Dj u v) (hv : Own W b v ss) (hg : W.grownBy W' u.ownBlock) : Own W' b v ss := World.ownsRow.kept hv hg (by
  cases e : v.ownBlock with
  | none => exact .inl rfl
  | some k => exact .inr (fun e2 => h k e2.symm e))
theorem Dj.left {W : World} {b g m cap : Nat} {u v : Value} {ss : List Snd} (h : Dj u v) (hv : Own W b v ss) (hg : u.ownBlock = some g ∨ g = W.heap.size) : Dj (.slice (some ⟨g, 0, none⟩) m cap) v := fun k h1 h2 => by
  have e : g = k := by simpa [Value.ownBlock] using h1
  subst e
  rcases hg with hg | hg
  · exact h g hg h2
  · have := hv.lies g h2; omega
theorem Dj.symm {u v : Value} (h : Dj u v) : Dj v u := fun k a b => h k b a
/-- append of one sound to a row of the call's own: where it lies then. -/
theorem wpList_appL {ops : Array Oper} {rest : List Oper} {o : Oper} {a : Act} {w : World} {Q : Exit → Act → World → Prop} (hgd : o.guard = none) (s x : Operand)
    (ho : o.op = .call { callee := .builtin .append, args := #[s, x], argTypes := #[22, 22] })
    (base B : Nat) (v : Value) (ss : List Snd) (p : Snd) (hs : a.eval s = v) (hx : a.eval x = .slice (some ⟨B, 0, none⟩) 1 1) (hB : w.heap[B]? = some (.cells #[.int .u32 (p.1.toNat : Int), .int .u32 (p.2.toNat : Int)] 27 (0, 0))) (hown : Own w base v ss) (hlen : ss.length + 1 ≤ 1000000000000) (hbase : base ≤ w.heap.size)
    (h : ∀ g cap w', Own w' base (.slice (some ⟨g, 0, none⟩) (ss.length + 1) cap) (ss ++ [p]) → w.grownBy w' v.ownBlock → (v.ownBlock = some g ∨ g = w.heap.size) → wpList Tryd.prog ops Q rest (a.put o.dst (.slice (some ⟨g, 0, none⟩) (ss.length + 1) cap)) w') : wpList Tryd.prog ops Q (o :: rest) a w := by
  obtain ⟨i, hi, hz, hs1, hb1⟩ := info_parts infoSound
  refine wpList_append_lies w hgd s x 22 ho base 27 i _ 2 8 Tryd.underlying22 hi hz hs1 hb1 rfl (by decide) v ss.length (flat ss) hs hown ⟨B, 0, none⟩ 1 1 [.int .u32 (p.1.toNat : Int), .int .u32 (p.2.toNat : Int)] hx rfl (World.news_of_block (cs := #[.int .u32 (p.1.toNat : Int), .int .u32 (p.2.toNat : Int)]) hB) (by simp [Value.oneCell']) (by decide) (Nat.le_trans hlen (by decide)) (by omega) hbase w.heap.size rfl ?_
  intro g cap w' h1 hg hat _
  refine h g cap w' ?_ hg hat
  unfold Own
  rw [flat_append, List.length_append]
  exact h1
end Go.Proofs.YtpnmapfabjdfjaaDoor

/-
  Different: the first different sounds of pairs of bytes.
-/
namespace Go.Proofs.YtpnmapfabjdfjaaDoor
open Go.RowKit Go.Sort
def mkB (p : Nat × Nat) : Snd := (BitVec.ofNat 32 p.1 &&& 16777215#32, (BitVec.ofNat 32 p.2 &&& 16777215#32) &&& ~~~(BitVec.ofNat 32 p.1))
/-- Different valid sounds of 8 features. -/
def Good (S : List Snd) : Prop := S.Nodup ∧ ∀ s ∈ S, vld s.1 s.2 = true ∧ s.1.toNat < 256 ∧ s.2.toNat < 256
theorem mkB_good (p : Nat × Nat) (h1 : p.1 ≤ 255) (h2 : p.2 ≤ 255) : vld (mkB p).1 (mkB p).2 = true ∧ (mkB p).1.toNat < 256 ∧ (mkB p).2.toNat < 256 := by
  refine ⟨vld_made _ _, ?_, ?_⟩
  · show (BitVec.ofNat 32 p.1 &&& 16777215#32).toNat < 256
    rw [BitVec.toNat_and, BitVec.toNat_ofNat, Nat.mod_eq_of_lt (by omega)]
    exact Nat.lt_of_le_of_lt Nat.and_le_left (by omega)
  · show ((BitVec.ofNat 32 p.2 &&& 16777215#32) &&& ~~~(BitVec.ofNat 32 p.1)).toNat < 256
    rw [BitVec.toNat_and, BitVec.toNat_and, BitVec.toNat_ofNat, Nat.mod_eq_of_lt (by omega)]
    exact Nat.lt_of_le_of_lt (Nat.le_trans Nat.and_le_left Nat.and_le_left) (by omega)
theorem made_b (p : Nat × Nat) (h1 : p.1 ≤ 255) (h2 : p.2 ≤ 255) (w : World) : Gives 42 #[.int .u32 (p.1 : Int), .int .u32 (p.2 : Int)] w (.agg #[.int .u32 ((mkB p).1.toNat : Int), .int .u32 ((mkB p).2.toNat : Int)]) := by
  have h := made_any (BitVec.ofNat 32 p.1) (BitVec.ofNat 32 p.2) w
  have e1 : (BitVec.ofNat 32 p.1).toNat = p.1 := by rw [BitVec.toNat_ofNat, Nat.mod_eq_of_lt (by omega)]
  have e2 : (BitVec.ofNat 32 p.2).toNat = p.2 := by rw [BitVec.toNat_ofNat, Nat.mod_eq_of_lt (by omega)]
  rw [e1, e2] at h
  exact h
theorem Good.snoc {S : List Snd} {x : Snd} (h : Good S) (hx : x ∉ S) (hv : vld x.1 x.2 = true ∧ x.1.toNat < 256 ∧ x.2.toNat < 256) : Good (S ++ [x]) := by
  refine ⟨?_, fun s hs => ?_⟩
  · rw [List.nodup_append]
    refine ⟨h.1, by simp, fun a ha b hb => ?_⟩
    rw [List.mem_singleton] at hb
    subst hb
    exact fun e => hx (e ▸ ha)
  · rcases List.mem_append.1 hs with hs | hs
    · exact h.2 s hs
    · rw [List.mem_singleton] at hs; subst hs; exact hv
theorem mem_take_more {S : List Snd} {x : Snd} {j : Nat} (hj : j < S.length) : x ∈ S.take (j + 1) ↔ x ∈ S.take j ∨ S[j] = x := by
  rw [List.take_succ_eq_append_getElem hj, List.mem_append, List.mem_singleton]
  exact ⟨fun h => h.elim .inl (fun h => .inr h.symm), fun h => h.elim .inl (fun h => .inr h.symm)⟩
set_option maxRecDepth 100000 in
set_option maxHeartbeats 8000000 in
theorem different_any (l : List (Nat × Nat)) (v : Value) (w : World) (h : Pz w v l) : Calls Tryd.prog 33 #[v] w fun e w' => ∃ m S, e = .returned m ∧ Own w' w.heap.size m S ∧ Good S ∧ S.length ≤ 24 ∧ Below w.heap.size w w' := by
  obtain ⟨ao, cap, rfl, c1, m1, hc⟩ := h.open
  obtain ⟨N, hN⟩ : ∃ N, l.length = N := ⟨_, rfl⟩
  have HC := Lib.hid hc; have HN := Lib.hid hN
  rw [hN] at c1 ⊢
  have l1 : N ≤ 9223372036854775807 := by unfold maxLen at m1; omega
  clear hc hN h m1
  go_enter Tryd.func33, Tryd.ntmps33
  go_wp2_with fail
  go_loopw [3, 4] (fun u i wr => ∃ (k : Nat) (S : List Snd), k ≤ N ∧ i = .int .i64 (k : Int) ∧ Own wr w.heap.size u S ∧ Good S ∧ S.length ≤ 24 ∧ Below w.heap.size w wr) (fun _ i _ => N - (intOf i).toNat)
  case atStart => exact ⟨0, [], by omega, rfl, Own.nil _ _, ⟨by simp, by simp⟩, by simp, Below.refl _ _⟩
  case round =>
  obtain ⟨k, S, hk, rfl, ho, hg, hs, hw⟩ := hrel
  obtain ⟨oa, oc, hov, hoc, hom, hcell⟩ := ho.wd.open
  obtain ⟨n, hn⟩ : ∃ n, S.length = n := ⟨_, rfl⟩
  rw [hn] at hov hs hoc
  subst hov
  have HO := Lib.hid ho; have HG := Lib.hid hg; have HW := Lib.hid hw; have HNn := Lib.hid hn; have HCELL := Lib.hid hcell
  have l2 : n ≤ 9223372036854775807 := by omega
  clear ho hg hw hn hcell hom
  by_cases hlt : k < N
  · have e1 : decide ((k : Int) < (N : Int)) = true := decide_eq_true (by omega)
    have e1' : decide (k < N) = true := decide_eq_true hlt
    by_cases hfull : n < 24
    · have e2 : decide ((n : Int) < 24) = true := decide_eq_true (by omega)
      have e2' : decide (n < 24) = true := decide_eq_true hfull
      have hkl : k < l.length := by rw [HN.out]; exact hlt
      obtain ⟨b, off, hao, lb, ⟨d0, d1⟩, q0, q1⟩ := HC.out k hkl
      subst hao
      have hmk := made_b l[k] q0 q1
      have hgd := mkB_good l[k] q0 q1
      generalize mkB l[k] = x at *
      generalize l[k] = p at *
      obtain ⟨pa, pb⟩ := p
      simp only at d0 d1 q0 q1 hmk
      have hw3 : IntKind.u32.wrap (pa : Int) = (pa : Int) := by rw [IntKind.wrap_u32]; omega
      have hw4 : IntKind.u32.wrap (pb : Int) = (pb : Int) := by rw [IntKind.wrap_u32]; omega
      have hk3 : (k : Int) < (N : Int) := by omega
      have hk0 : (0 : Int) ≤ (k : Int) := by omega
      have KK : Hid (∀ W2 : World, Below wr.heap.size wr W2 → W2.cell? ⟨b, off + k * 2, none⟩ = some (.int .u8 (pa : Int)) ∧ W2.cell? ⟨b, off + k * 2 + 1, none⟩ = some (.int .u8 (pb : Int))) := Lib.hid (fun W2 hW => by
        have lb2 := Nat.lt_of_lt_of_le lb HW.out.size
        exact ⟨((hW.cell (p := ⟨b, _, none⟩) lb2).trans (HW.out.cell (p := ⟨b, _, none⟩) lb)).trans d0, ((hW.cell (p := ⟨b, _, none⟩) lb2).trans (HW.out.cell (p := ⟨b, _, none⟩) lb)).trans d1⟩)
      obtain ⟨xp, xm⟩ := x
      have HMK := Lib.hid hmk; have HGD := Lib.hid hgd
      clear d0 d1 hmk hgd HC
      go_wp2_with fail
      refine wp_region_makers 14 [(13, (.cells #[.int .u32 0, .int .u32 0] 27))] [0, 1, 2, 3, 4, 5, 6, 7, 8, 9, 10, 11, 12, 13] ?A5 _ (by kernel_rfl) (by kernel_rfl) ?hrun5 (by simp [quiets, mkOf]; rfl) ?walk5 ?fin5
      case hrun5 =>
        intro x hx
        simp only [List.mem_cons, List.not_mem_nil, or_false] at hx
        rcases hx with rfl
        exact ⟨_, rfl, rfl, fun a w => by simp [go_sem, ptr]⟩
      case walk5 =>
        intro W2 hW2
        obtain ⟨a0, a1⟩ := KK.out W2 hW2
        have p0 := cell_regrown a0
        have p1 := cell_regrown a1
        repeat (go_big_quiet_step (first
          | (go_at_call 42; with_reducible exact Calls.regrown_of (HMK.out _))))
        refine wpQuiet_nil ?_
        rfl
      intro bs w5 hb hF hN'
      obtain ⟨hq, hqb⟩ := hF (13, (.cells #[.int .u32 0, .int .u32 0] 27)) (by simp)
      simp only [List.map_cons, List.map_nil, List.foldr_cons, List.foldr_nil] at *
      generalize bs 13 = q at *
      have HB5 := Lib.hid (hb.setCell2 hq (.int .u32 (xp.toNat : Int)) (.int .u32 (xm.toNat : Int)))
      have R3 := Lib.hid (two_set (x' := .int .u32 (xp.toNat : Int)) (y' := .int .u32 (xm.toNat : Int)) hqb)
      have c0 := cell_block hqb (o := 0) rfl
      have c1 := cell_block hqb (o := 1) rfl
      have f0 := frozen_block hqb (o := 0)
      have f1 := frozen_block hqb (o := 1)
      have HQ := Lib.hid hq
      clear bs hF hN' hb hqb KK HMK hq
      simp only [dstOf, ptr, Act.put, List.getElem?_toArray, List.getElem?_cons_succ, List.getElem?_cons_zero, Option.bind_some, List.setIfInBounds_toArray, List.set_cons_zero, List.set_cons_succ, List.drop_succ_cons, List.drop_zero]
      go_wp2_with fail
      generalize ((w5.setCell ⟨q, 0, none⟩ (.int .u32 (xp.toNat : Int))).setCell ⟨q, 1, none⟩ (.int .u32 (xm.toNat : Int))) = w6 at *
      clear c0 c1 f0 f1
      have HO6 := Lib.hid (HO.out.below HB5.out); have HW6 := Lib.hid (HW.out.trans (HB5.out.mono HW.out.size))
      have lq := (Array.getElem?_eq_some_iff.1 R3.out).1
      go_loopw [6, 7] (fun c i wi => ∃ j : Nat, j ≤ n ∧ i = .int .i64 (j : Int) ∧ c = .bool (decide ((xp, xm) ∈ S.take j)) ∧ Below w6.heap.size w6 wi) (fun _ i _ => n - (intOf i).toNat)
      case atStart => exact ⟨0, by omega, rfl, by simp, Below.refl _ _⟩
      case round =>
      obtain ⟨j, hj, rfl, rfl, hwi⟩ := hrel
      by_cases hlt2 : j < n
      · have hjl : j < S.length := by rw [HNn.out]; exact hlt2
        have hmt := mem_take_more (x := (xp, xm)) hjl
        obtain ⟨g, go, hao2, lg, d0, d1⟩ := HCELL.out j hjl
        subst hao2
        have lg6 : g < w6.heap.size := Nat.lt_of_lt_of_le lg HB5.out.size
        have d0 := ((hwi.cell (p := ⟨g, _, none⟩) lg6).trans (HB5.out.cell (p := ⟨g, _, none⟩) lg)).trans d0
        have d1 := ((hwi.cell (p := ⟨g, _, none⟩) lg6).trans (HB5.out.cell (p := ⟨g, _, none⟩) lg)).trans d1
        have rq := (hwi.block q lq).trans R3.out
        have r0 := cell_block rq (o := 0) rfl
        have r1 := cell_block rq (o := 1) rfl
        have heq := fun W => snd_eql (S[j].1.toNat : Int) (S[j].2.toNat : Int) ((xp, xm) : Snd).1.toNat ((xp, xm) : Snd).2.toNat W
        rw [snd_beq] at heq
        generalize S[j] = y at *
        obtain ⟨yp, ym⟩ := y
        simp only at d0 d1 heq
        have hj0 : (0 : Int) ≤ (j : Int) := by omega
        have hj3 : (j : Int) < (n : Int) := by omega
        have HWI := Lib.hid hwi; have HMT := Lib.hid hmt
        clear hwi hmt rq HCELL
        by_cases hin : (xp, xm) ∈ S.take j
        · have hnx : decide ((xp, xm) ∈ S.take (j + 1)) = true := decide_eq_true (HMT.out.2 (.inl hin))
          rw [decide_eq_true hin]
          have HNX := Lib.hid hnx
          clear hnx heq hin
          go_wp2_with fail
          go_region
          all_goals go_wp2_with fail
          all_goals (
            go_roundw
            case rel => exact ⟨j + 1, by omega, by go_num, by rw [HNX.out], HWI.out.drew⟩
            case measure => simp [intOf]; omega)
        · have hnx : decide ((xp, xm) ∈ S.take (j + 1)) = decide (((yp, ym) : Snd) = (xp, xm)) := decide_eq_decide.2 (HMT.out.trans ⟨fun h => h.elim (fun h => absurd h hin) id, .inr⟩)
          rw [decide_eq_false hin]
          have HNX := Lib.hid hnx
          clear hnx hin
          generalize decide (((yp, ym) : Snd) = (xp, xm)) = B at *
          go_wp2_with fail
          go_region
          all_goals go_wp2_with fail
          all_goals (
            go_roundw
            case rel => exact ⟨j + 1, by omega, by go_num, by rw [HNX.out], HWI.out.drew⟩
            case measure => simp [intOf]; omega)
      · obtain rfl : j = n := by omega
        have hall : S.take j = S := List.take_of_length_le (by rw [HNn.out]; exact Nat.le_refl _)
        rw [hall]
        have HWI := Lib.hid (HW6.out.trans (hwi.mono HW6.out.size)); have HOI := Lib.hid (HO6.out.below hwi); have RQ := Lib.hid ((hwi.block q lq).trans R3.out)
        clear hwi hall hlt2
        by_cases hin : (xp, xm) ∈ S
        · rw [decide_eq_true hin]
          clear hin
          go_wp2_with fail
          go_roundw
          case rel => exact ⟨k + 1, S, by omega, by go_num, HOI.out, HG.out, by rw [HNn.out]; exact hs, HWI.out⟩
          case measure => simp [intOf]; omega
        · have HGS := Lib.hid (HG.out.snoc hin HGD.out)
          rw [decide_eq_false hin]
          clear hin
          have r0 := cell_block RQ.out (o := 0) rfl
          have r1 := cell_block RQ.out (o := 1) rfl
          have hb8 : Below wr.heap.size wr (wr.alloc (.cells #[.int .u32 (xp.toNat : Int), .int .u32 (xm.toNat : Int)] 27)) := (Below.refl _ _).alloc (Nat.le_refl _) _
          have K8 := Lib.hid (World.alloc_heap_new wr (.cells #[.int .u32 (xp.toNat : Int), .int .u32 (xm.toNat : Int)] 27)); have HO8 := Lib.hid (HOI.out.below hb8); have HW8 := Lib.hid (HWI.out.trans (hb8.mono HWI.out.size))
          clear hb8
          go_wp2_with (at_builtin; (refine wpList_appL rfl (.tmp 49) (.tmp 51) rfl w.heap.size _ _ _ (xp, xm) rfl rfl K8.out HO8.out (by rw [HNn.out]; omega) (HW8.out.size) ?_; intro g cap2 w9 ho9 hg9 hat9; have HO9 := Lib.hid ho9; have HW9 := Lib.hid (HW8.out.grown hg9 HW8.out.size (fun k e => Own.row HO8.out k e)); clear ho9 hg9 hat9))
          go_roundw
          case rel => exact ⟨k + 1, S ++ [(xp, xm)], by omega, by go_num, HO9.out, HGS.out, by rw [List.length_append, HNn.out]; simp; omega, HW9.out⟩
          case measure => simp [intOf]; omega
    · have e2 : decide ((n : Int) < 24) = false := decide_eq_false (by omega)
      have e2' : decide (n < 24) = false := decide_eq_false hfull
      clear HC HCELL
      go_wp2_with fail
      go_returns
      exact ⟨_, S, rfl, HO.out, HG.out, by rw [HNn.out]; exact hs, HW.out⟩
  · have e1 : decide ((k : Int) < (N : Int)) = false := decide_eq_false (by omega)
    have e1' : decide (k < N) = false := decide_eq_false hlt
    clear HC HCELL
    go_wp2_with fail
    go_returns
    exact ⟨_, S, rfl, HO.out, HG.out, by rw [HNn.out]; exact hs, HW.out⟩
end Go.Proofs.YtpnmapfabjdfjaaDoor

/-
  NaturalNeeds: pure facts.
-/
namespace Go.Proofs.YtpnmapfabjdfjaaDoor
open Go.RowKit Go.Sort
theorem set_len {l : List Snd} (h : l.Nodup) : (setS l).length = l.length := by
  refine Nat.le_antisymm (len_of_sub _ _ (setS_nodup l) (fun x hx => (mem_setS l x).1 hx)) (len_of_sub _ _ h (fun x hx => (mem_setS l x).2 hx))
/-- Different valid sounds are an inventory. -/
theorem Good.ck {S : List Snd} (h : Good S) {most : Nat} (hl : S.length ≤ most) : ckE S most = 0 := by
  unfold ckE
  rw [if_neg (by omega), if_pos (List.all_eq_true.2 fun s hs => (h.2 s hs).1), set_len h.1, if_neg (by omega)]
theorem pow_bits {n k : Nat} (h1 : 2 ^ k ≤ n) (h2 : n < 2 ^ (k + 1)) : n.testBit k = true := by
  rw [Nat.testBit_eq_decide_div_mod_eq]
  have h0 : 0 < 2 ^ k := Nat.two_pow_pos k
  have e : n / 2 ^ k = 1 := by
    rw [Nat.pow_succ] at h2
    exact (Nat.div_eq_iff h0).2 (by omega)
  rw [e]; rfl
theorem pred_pow {n : Nat} (h0 : n ≠ 0) (h : n &&& (n - 1) = 0) : ∃ k, n = 2 ^ k := by
  refine ⟨Nat.log2 n, Classical.byContradiction fun hne => ?_⟩
  have h1 : 2 ^ Nat.log2 n ≤ n := Nat.log2_self_le h0
  have h2 : n < 2 ^ (Nat.log2 n + 1) := Nat.lt_log2_self
  have t1 := pow_bits h1 h2
  have t2 := pow_bits (n := n - 1) (k := Nat.log2 n) (by omega) (by omega)
  have t3 : (n &&& (n - 1)).testBit (Nat.log2 n) = true := by rw [Nat.testBit_and, t1, t2]; rfl
  rw [h, Nat.zero_testBit] at t3
  cases t3
theorem pow_pred : ∀ f : Fin 24, (2 ^ f.val) &&& (2 ^ f.val - 1) = 0 := by decide +kernel
theorem one_and {D : BitVec 32} (hD : D.toNat < 16777216) (h0 : D.toNat ≠ 0) : (D.toNat &&& (D.toNat - 1) = 0) ↔ ones D.toNat = 1 := by
  constructor
  · intro h
    obtain ⟨k, hk⟩ := pred_pow h0 h
    have hk2 : k < 24 := by
      refine Classical.byContradiction fun hn => ?_
      have : 2 ^ 24 ≤ 2 ^ k := Nat.pow_le_pow_right (by decide) (by omega)
      omega
    have := oc_pow ⟨k, hk2⟩
    rw [oc_sh ⟨k, hk2⟩] at this
    rw [hk]; exact this
  · intro h
    obtain ⟨k, hk, e⟩ := one_pow hD h
    have h1 := oc_sh ⟨k, hk⟩
    simp only at h1
    rw [e, h1]
    exact pow_pred ⟨k, hk⟩
/-- How the law asks whether a difference is of one feature. -/
theorem one_asked {D : BitVec 32} (hD : D.toNat < 16777216) (h0 : D.toNat ≠ 0) : (bits .and .u32 (D.toNat : Int) ((D.toNat : Int) - 1) != 0) = !(decide (ones D.toNat = 1)) := by
  have e : bits .and .u32 (D.toNat : Int) ((D.toNat : Int) - 1) = ((D.toNat &&& (D.toNat - 1) : Nat) : Int) := by
    have e1 : (D.toNat : Int) - 1 = ((BitVec.ofNat 32 (D.toNat - 1)).toNat : Int) := by
      rw [BitVec.toNat_ofNat, Nat.mod_eq_of_lt (by omega)]
      omega
    rw [e1, bv_and, ofInt32_nat, ofInt32_nat, BitVec.toNat_and, BitVec.toNat_ofNat, Nat.mod_eq_of_lt (by omega)]
  rw [e]
  by_cases h : ones D.toNat = 1
  · rw [(one_and hD h0).2 h, h]; rfl
  · have h2 : (D.toNat &&& (D.toNat - 1)) ≠ 0 := fun e => h ((one_and hD h0).1 e)
    rw [decide_eq_false h, Bool.not_false, bne_iff_ne]
    omega
theorem dif_ne {a b : Snd} (h : a ≠ b) : (dif a b).toNat ≠ 0 := by
  intro e
  have e2 : dif a b = 0#32 := BitVec.eq_of_toNat_eq (by simpa using e)
  unfold dif at e2
  obtain ⟨h1, h2⟩ : a.1 ^^^ b.1 = 0#32 ∧ a.2 ^^^ b.2 = 0#32 := by
    constructor
    · apply BitVec.eq_of_getLsbD_eq
      intro i hi
      have := congrArg (fun x => x.getLsbD i) e2
      simp only [BitVec.getLsbD_or, BitVec.getLsbD_zero, Bool.or_eq_false_iff] at this
      rw [this.1, BitVec.getLsbD_zero]
    · apply BitVec.eq_of_getLsbD_eq
      intro i hi
      have := congrArg (fun x => x.getLsbD i) e2
      simp only [BitVec.getLsbD_or, BitVec.getLsbD_zero, Bool.or_eq_false_iff] at this
      rw [this.2, BitVec.getLsbD_zero]
  exact h (Prod.ext (BitVec.xor_eq_zero_iff.1 h1) (BitVec.xor_eq_zero_iff.1 h2))
theorem inn_pre (l : List Snd) (i : Nat) : ∀ d m, inn l i m <+: inn l i (m + d)
  | 0, _ => List.prefix_refl _
  | d + 1, m => by
    have h := inn_pre l i d m
    rw [show m + (d + 1) = (m + d) + 1 from rfl, inn_succ]
    exact h.trans (List.prefix_append _ _)
theorem outP_pre (l : List Snd) : ∀ d k, outP l k <+: outP l (k + d)
  | 0, _ => List.prefix_refl _
  | d + 1, k => by
    have h := outP_pre l d k
    rw [show k + (d + 1) = (k + d) + 1 from rfl, outP_succ]
    exact h.trans (List.prefix_append _ _)
/-- The pairs that were met so far stand at the head of all. -/
theorem met_pre {l : List Snd} {k j : Nat} (hk : k < l.length) (hj : j ≤ l.length) : outP l k ++ inn l k j <+: prs l := by
  have h1 : inn l k j <+: inn l k l.length := by
    have := inn_pre l k (l.length - j) j
    rw [show j + (l.length - j) = l.length from by omega] at this
    exact this
  have h2 := outP_pre l (l.length - (k + 1)) (k + 1)
  rw [show k + 1 + (l.length - (k + 1)) = l.length from by omega, outP_succ] at h2
  obtain ⟨t, ht⟩ := h1
  refine List.IsPrefix.trans ⟨t, ?_⟩ h2
  rw [List.append_assoc, ht]
/-- The pair at hand is the next one. -/
theorem met_next {l : List Snd} {k j : Nat} (hk : k < j) (hj : j < l.length) (h1 : one (l.getD k zs) (l.getD j zs) = true) : ∃ h : (outP l k ++ inn l k j).length < (prs l).length, (prs l)[(outP l k ++ inn l k j).length] = (k, j) := by
  have hp := met_pre (l := l) (k := k) (j := j + 1) (by omega) (by omega)
  rw [inn_succ, if_pos (by rw [h1, decide_eq_true hk]; rfl), ← List.append_assoc] at hp
  obtain ⟨t, ht⟩ := hp
  have hlen : (outP l k ++ inn l k j).length < (prs l).length := by
    rw [← ht]
    simp
  refine ⟨hlen, ?_⟩
  have h2 : (prs l)[(outP l k ++ inn l k j).length]? = some (k, j) := by
    rw [← ht, List.getElem?_append_left (by simp), List.getElem?_append_right (Nat.le_refl _), Nat.sub_self]
    rfl
  rw [List.getElem?_eq_getElem hlen] at h2
  exact Option.some.inj h2
theorem pair_eqRun (a b c d : Int) (w : World) : (Op.equalIn (9999 + 1) 44 (.agg #[.int .i64 a, .int .i64 b]) (.agg #[.int .i64 c, .int .i64 d])).run Tryd.prog w = .ok (a == c && b == d) w := by
  have hu := Tryd.underlying3
  have hg := Tryd.isAgg3
  have hz := Tryd.sizeOf3
  rw [Op.equalIn]
  simp only [Sem.run_bind, run_underlying Tryd.underlying44, Result.andThen_ok]
  simp only [Std.Legacy.Range.forIn_eq_forIn_range', Std.Legacy.Range.size, Nat.sub_zero, Nat.add_sub_cancel, Nat.div_one, List.range'_succ, List.range'_zero, List.forIn_cons, List.forIn_nil]
  go_simp
  by_cases h1 : a = c
  · by_cases h2 : b = d
    · simp [h1, h2]
    · simp [h1, h2]
  · simp [h1]
theorem pair_neql (a b c d : Int) (w : World) : (binOp .neq 44 (.agg #[.int .i64 a, .int .i64 b]) (.agg #[.int .i64 c, .int .i64 d])).run Tryd.prog w = .ok (.bool (!(a == c && b == d))) w := by
  rw [run_neq_struct, pair_eqRun]; rfl
theorem ndM_good {S : List Snd} (h : ckE S 256 = 0) : ndM S = ndF S (prs S) := if_pos h
theorem prsM_good {S : List Snd} (h : ckE S 256 = 0) : prsM S = prs S := if_pos h
theorem prs_len2 (S : List Snd) : (prs S).length ≤ S.length * S.length := outP_len S S.length
end Go.Proofs.YtpnmapfabjdfjaaDoor

/-
  NaturalNeeds, walked.
-/
namespace Go.Proofs.YtpnmapfabjdfjaaDoor
open Go.RowKit Go.Sort
attribute [local go_sem ↓] pair_neql
attribute [local go_sem] bv_or ofInt32_nat
set_option maxRecDepth 100000 in
set_option maxHeartbeats 8000000 in
theorem needs_any (l0 : List (Nat × Nat)) (v0 : Value) (w : World) (h0 : Pz w v0 l0) (hT : Tab w) (lT : 0 < w.heap.size) : Gives 9 #[v0] w (.bool true) := by
  unfold Gives
  have HT := Lib.hid hT; have LT := Lib.hid lT; have HDI := Lib.hid (different_any l0 v0 w h0)
  clear hT lT
  obtain ⟨ao0, cap0, rfl, -, -, -⟩ := h0.open
  clear h0
  go_enter Tryd.func9, Tryd.ntmps9
  go_wp2_with fail
  go_at_call 33
  refine HDI.out.mono ?_
  rintro e w1 ⟨m1, l, rfl, ho1, hg1, hs1, hb1⟩
  have hck := hg1.ck (most := 256) (by omega)
  have hne := needed_any l m1 w1 ho1.wd
  rw [hck, ndM_good hck] at hne
  obtain ⟨ao, cap, hv1, c1, cm1, hc⟩ := ho1.wd.open
  obtain ⟨N, hN⟩ : ∃ N, l.length = N := ⟨_, rfl⟩
  have hwd := ho1.wd
  rw [hN] at hv1 hs1
  subst hv1
  have l1 : N ≤ 9223372036854775807 := by omega
  have HC := Lib.hid hc; have HNE := Lib.hid hne; have HN := Lib.hid hN; have HWD := Lib.hid hwd; have HG := Lib.hid hg1; have HCK := Lib.hid hck; have HW1 := Lib.hid hb1
  clear hc hne hN hwd hg1 hck hb1 ho1 HDI c1 cm1
  go_wp2_with fail
  go_at_call 27
  refine Gives.then HNE.out ?_
  intro w2 hb2
  have HWD2 := Lib.hid (HWD.out.below hb2); have HW2 := Lib.hid (HW1.out.trans (hb2.mono HW1.out.size)); have HB2 := Lib.hid hb2
  clear hb2 HNE
  go_wp2_with fail
  go_at_call 25
  refine (pairs_any l _ w2 HWD2.out).mono ?_
  rintro e w3 ⟨m3, rfl, ho3, hb3⟩
  rw [prsM_good HCK.out] at ho3
  obtain ⟨a3, k3, hm3, hk3, hk4, hp3⟩ := ho3.ps.open
  obtain ⟨M, hM⟩ : ∃ M, (prs l).length = M := ⟨_, rfl⟩
  have hM2 : M ≤ 576 := by
    have := prs_len2 l
    rw [hM, HN.out] at this
    exact Nat.le_trans this (Nat.mul_le_mul hs1 hs1)
  rw [hM] at hm3 hk3
  subst hm3
  rw [HCK.out]
  have HB3 := Lib.hid (HB2.out.trans (hb3.mono HB2.out.size)); have HW3 := Lib.hid (HW2.out.trans (hb3.mono HW2.out.size)); have HP := Lib.hid hp3; have HM := Lib.hid hM
  clear hb3 ho3 hp3 hM hk4 HWD HWD2 HB2
  go_wp2_with fail
  go_loopw [8, 9, 10] (fun u i x wr => ∃ k : Nat, k ≤ N ∧ x = .int .i64 (k : Int) ∧ u = .int .u32 ((ndF l (outP l k)).toNat : Int) ∧ i = .int .i64 ((outP l k).length : Int) ∧ Below w3.heap.size w3 wr) (fun _ _ x _ => N - (intOf x).toNat)
  case atStart => exact ⟨0, by omega, rfl, rfl, rfl, Below.refl _ _⟩
  case round =>
    obtain ⟨k, hk, rfl, rfl, rfl, hw⟩ := hrel
    by_cases hlt : k < N
    · have hkl : k < l.length := by rw [HN.out]; exact hlt
      obtain ⟨b, off, hao, lb, d0, d1⟩ := HC.out k hkl
      subst hao
      have lb3 := Nat.lt_of_lt_of_le lb HB3.out.size
      have hxd : l.getD k zs = l[k] := by simp [List.getD, List.getElem?_eq_getElem hkl]
      have hxv := (HG.out.2 l[k] (List.getElem_mem hkl)).1
      have hxn : ∀ j (hj : j < l.length), k < j → l[k] ≠ l[j] := fun j hj hkj e => by
        have := (List.pairwise_iff_getElem.1 (List.nodup_iff_pairwise_ne.1 HG.out.1)) k j hkl hj hkj
        exact this e
      obtain ⟨x, hx⟩ : ∃ x, l[k] = x := ⟨_, rfl⟩
      have hxn2 : ∀ j (hj : j < l.length), k < j → x ≠ l[j] := fun j hj hkj => by rw [← hx]; exact hxn j hj hkj
      rw [hx] at d0 d1 hxd hxv
      have d0 := (HB3.out.cell (p := ⟨b, _, none⟩) lb).trans d0
      have d1 := (HB3.out.cell (p := ⟨b, _, none⟩) lb).trans d1
      have HXD := Lib.hid hxd; have HXV := Lib.hid hxv; have HXN := Lib.hid hxn2; have HW := Lib.hid hw
      clear hxd hxv hx hw hxn hxn2
      obtain ⟨p, m⟩ := x
      simp only at d0 d1
      have D0 := Lib.hid d0; have D1 := Lib.hid d1; have LB3 := Lib.hid lb3; have LB := Lib.hid lb
      clear d0 d1 lb3 lb
      go_wp2_with fail
      go_loopw [8, 9, 11] (fun u i x wi => ∃ j : Nat, k + 1 ≤ j ∧ j ≤ N ∧ x = .int .i64 (j : Int) ∧ u = .int .u32 ((ndF l (outP l k ++ inn l k j)).toNat : Int) ∧ i = .int .i64 ((outP l k ++ inn l k j).length : Int) ∧ Below w3.heap.size w3 wi) (fun _ _ x _ => N - (intOf x).toNat)
      case atStart => exact ⟨k + 1, Nat.le_refl _, by omega, by go_num, by rw [inn_start, List.append_nil], by rw [inn_start, List.append_nil], HW.out⟩
      case round =>
        obtain ⟨j, hj1, hj2, rfl, rfl, rfl, hwi⟩ := hrel
        by_cases hlt2 : j < N
        · have hjl : j < l.length := by rw [HN.out]; exact hlt2
          obtain ⟨b', off', hao', lb', d0, d1⟩ := HC.out j hjl
          cases hao'
          have d0 := (hwi.cell (p := ⟨b, _, none⟩) LB3.out).trans ((HB3.out.cell (p := ⟨b, _, none⟩) LB.out).trans d0)
          have d1 := (hwi.cell (p := ⟨b, _, none⟩) LB3.out).trans ((HB3.out.cell (p := ⟨b, _, none⟩) LB.out).trans d1)
          have c0 := (hwi.cell (p := ⟨b, _, none⟩) LB3.out).trans D0.out
          have c1 := (hwi.cell (p := ⟨b, _, none⟩) LB3.out).trans D1.out
          have hyd : l.getD j zs = l[j] := by simp [List.getD, List.getElem?_eq_getElem hjl]
          have hyv := (HG.out.2 l[j] (List.getElem_mem hjl)).1
          have hyn := HXN.out j hjl (by omega)
          have hsn := inn_succ l k j
          have hmn := met_next (l := l) (k := k) (j := j) (by omega) hjl
          rw [HXD.out, hyd] at hmn
          rw [HXD.out, hyd, decide_eq_true (show k < j by omega), Bool.true_and] at hsn
          have hns := ndF_snoc l (outP l k ++ inn l k j) (k, j)
          simp only at hns
          rw [HXD.out, hyd] at hns
          obtain ⟨y, hy⟩ : ∃ y, l[j] = y := ⟨_, rfl⟩
          rw [hy] at d0 d1 hyv hyn hsn hns
          have hmn : one (p, m) y = true → ∃ h : (outP l k ++ inn l k j).length < (prs l).length, (prs l)[(outP l k ++ inn l k j).length] = (k, j) := fun h => hmn (by rw [hy]; exact h)
          have hdl := dif_lt (a := (p, m)) (b := y) HXV.out hyv
          have hdn := dif_ne hyn
          have hda := one_asked hdl hdn
          have hdf := gv_dif (p, m) y HXV.out hyv
          have hor : one (p, m) y = decide (ones (dif (p, m) y).toNat = 1) := rfl
          rw [← hor] at hda
          generalize one (p, m) y = on at *
          have HSN := Lib.hid hsn; have HMN := Lib.hid hmn; have HDF := Lib.hid hdf
          obtain ⟨ND, hND⟩ : ∃ ND, ndF l (outP l k ++ inn l k j) = ND := ⟨_, rfl⟩
          rw [hND] at hns ⊢
          have HND := Lib.hid hND
          clear hND
          generalize dif (p, m) y = df at *
          have hw9 : IntKind.u32.wrap ((df.toNat : Int) - 1) = (df.toNat : Int) - 1 := by rw [IntKind.wrap_u32]; omega
          have hor9 := or_nat ND df
          have HNS := Lib.hid hns
          clear hsn hmn hdf hor hyn hyd hyv hy hns hdl
          obtain ⟨n2, hn2⟩ : ∃ n2, (outP l k ++ inn l k j).length = n2 := ⟨_, rfl⟩
          have HN2 := Lib.hid hn2
          rw [hn2]
          clear hn2
          obtain ⟨yp, ym⟩ := y
          simp only at d0 d1 HDF
          have HWI := Lib.hid hwi
          have hj0 : (0 : Int) ≤ (j : Int) := by omega
          have hj3 : (j : Int) < (N : Int) := by omega
          have hk3' : (k : Int) < (N : Int) := by omega
          clear hwi
          go_wp2_with fail
          go_region_with (go_at_call 39; (with_reducible refine Gives.then (HDF.out _) ?_); intro w10 hb10; have HW10 := Lib.hid (HWI.out.drew.trans (hb10.mono HWI.out.size)); clear hb10)
          all_goals clear d0 d1 c0 c1 HWI HDF
          all_goals (
            rcases on with _ | _
            · rw [if_neg (by decide), List.append_nil] at HSN
              rw [Bool.not_false] at hda
              go_wp2_with fail
              go_roundw
              case rel => exact ⟨j + 1, by omega, by omega, by go_num, by rw [HSN.out, HND.out], by rw [HSN.out, HN2.out], HW10.out⟩
              case measure => simp [intOf]; omega
            · rw [if_pos rfl] at HSN
              rw [Bool.not_true] at hda
              obtain ⟨hl9, he9⟩ := HMN.out rfl
              obtain ⟨b9, hao9, lb9, q0, q1⟩ := HP.out _ hl9
              rw [he9] at q0 q1
              simp only [HN2.out] at q0 q1
              subst hao9
              have q0 := (HW10.out.cell (p := ⟨b9, _, none⟩) lb9).trans q0
              have q1 := (HW10.out.cell (p := ⟨b9, _, none⟩) lb9).trans q1
              rw [HN2.out, HM.out] at hl9
              have g1 : decide ((M : Int) ≤ (n2 : Int)) = false := decide_eq_false (by omega)
              have g2 : decide (M ≤ n2) = false := decide_eq_false (by omega)
              have g3 : (n2 : Int) < (M : Int) := by omega
              have g4 : (0 : Int) ≤ (n2 : Int) := by omega
              clear he9 lb9
              go_wp2_with fail
              go_roundw
              case rel => exact ⟨j + 1, by omega, by omega, by go_num, by rw [HSN.out, ← List.append_assoc, HNS.out, BitVec.toNat_or], by rw [HSN.out, ← List.append_assoc, List.length_append, HN2.out]; go_num, HW10.out⟩
              case measure => simp [intOf]; omega)
        · obtain rfl : j = N := by omega
          have HWI := Lib.hid hwi
          clear hwi hlt2
          have hsk := outP_succ l k
          rw [HN.out] at hsk
          have HSK := Lib.hid hsk
          clear hsk
          go_wp2_with fail
          go_roundw
          case rel => exact ⟨k + 1, by omega, by go_num, by rw [HSK.out], by rw [HSK.out], HWI.out⟩
          case measure => simp [intOf]; omega
    · obtain rfl : k = N := by omega
      have HW := Lib.hid (HW3.out.trans (hw.mono HW3.out.size))
      have hpe : outP l k = prs l := by unfold prs; rw [HN.out]
      rw [hpe, HM.out]
      clear hw hlt
      go_wp2_with fail
      go_at_call 14
      refine Gives.then (works_any _ (HT.out.below HW.out LT.out) (Nat.lt_of_lt_of_le LT.out HW.out.size)) ?_
      intro w6 hb6
      have HW6 := Lib.hid (HW.out.trans (hb6.mono HW.out.size))
      clear hb6
      go_wp2_with fail
      go_returns
      exact ⟨rfl, HW6.out⟩
end Go.Proofs.YtpnmapfabjdfjaaDoor
