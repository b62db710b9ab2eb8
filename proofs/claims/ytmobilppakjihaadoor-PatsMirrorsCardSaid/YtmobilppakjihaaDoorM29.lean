/-
  Lemmas that the theorem of this claim rests on: 3 texts, one behind the other.
-/
import Derived.Maps.AppendAt
import Derived.Test.YtmobilppakjihaaDoorM27
set_option linter.unusedSimpArgs false
set_option linter.unusedVariables false
/-
  Patterns that are repeated: what they match, and how they lie in memory.
-/
namespace Go.Proofs.YtmobilppakjihaaDoor
open Go.RowKit Go.Sort
theorem pw_add {n : Nat} {x : Tb} (hn : n < 64) (hx : OkT n x) (m : Nat) : ∀ k, thnT n (pwT n x m) (pwT n x k) = pwT n x (m + k)
  | 0 => thn_same hn (OkT.pw hn hx m)
  | k + 1 => by
    show thnT n (pwT n x m) (thnT n (pwT n x k) x) = thnT n (pwT n x (m + k)) x
    rw [← thn_assoc, pw_add hn hx m k]
theorem rep_same {n : Nat} {x : Tb} (hn : n ≤ 32) (hx : OkT n x) (q : Nat) : repT n x q (q : Int) = pwT n x q := by
  apply Tb.ext
  intro a b
  rw [rep_bit hn hx (.inr (Int.le_refl _))]
  constructor
  · rintro ⟨k, h1, h2, h3⟩
    obtain rfl : k = q := by omega
    exact h3
  · intro h
    exact ⟨q, Nat.le_refl _, .inr (Int.le_refl _), h⟩
theorem rep_more {n : Nat} {x : Tb} (hn : n ≤ 32) (hx : OkT n x) (q : Nat) : thnT n (repT n x q (q : Int)) (repT n x 0 1) = repT n x q ((q : Int) + 1) := by
  rw [rep_same hn hx]
  apply Tb.ext
  intro a c
  rw [thn_bit, rep_bit hn hx (.inr (by omega))]
  constructor
  · rintro ⟨b, h1, h2, h3⟩
    obtain ⟨k, k1, k2, k3⟩ := (rep_bit hn hx (lo := 0) (hi := 1) (.inr (by omega)) b c).1 h3
    refine ⟨q + k, by omega, .inr (by omega), ?_⟩
    rw [← pw_add (by omega) hx, thn_bit]
    exact ⟨b, h1, h2, k3⟩
  · rintro ⟨k, k1, k2, k3⟩
    obtain ⟨e, rfl⟩ : ∃ e, k = q + e := ⟨k - q, by omega⟩
    rw [← pw_add (by omega) hx, thn_bit] at k3
    obtain ⟨b, h1, h2, h3⟩ := k3
    exact ⟨b, h1, h2, (rep_bit hn hx (lo := 0) (hi := 1) (.inr (by omega)) b c).2 ⟨e, by omega, .inr (by omega), h3⟩⟩
theorem rep_on {n : Nat} {x : Tb} (hn : n ≤ 32) (hx : OkT n x) (q : Nat) : thnT n (repT n x q (-1)) (repT n x 0 (-1)) = repT n x q (-1) := by
  apply Tb.ext
  intro a c
  rw [thn_bit, rep_bit hn hx (.inl rfl)]
  constructor
  · rintro ⟨b, h1, h2, h3⟩
    obtain ⟨m, m1, m2, m3⟩ := (rep_bit hn hx (lo := q) (hi := -1) (.inl rfl) a b).1 h2
    obtain ⟨k, k1, k2, k3⟩ := (rep_bit hn hx (lo := 0) (hi := -1) (.inl rfl) b c).1 h3
    refine ⟨m + k, by omega, .inl rfl, ?_⟩
    rw [← pw_add (by omega) hx, thn_bit]
    exact ⟨b, h1, m3, k3⟩
  · rintro ⟨k, k1, k2, k3⟩
    have hok := OkT.pw (by omega) hx k a c k3
    exact ⟨c, by omega, (rep_bit hn hx (lo := q) (hi := -1) (.inl rfl) a c).2 ⟨k, k1, .inl rfl, k3⟩, (rep_bit hn hx (lo := 0) (hi := -1) (.inl rfl) c c).2 ⟨0, Nat.le_refl _, .inl rfl, (same_bit (by omega) c c).2 ⟨rfl, by omega⟩⟩⟩
theorem rep_sub {n : Nat} {x : Tb} (hn : n ≤ 32) (hx : OkT n x) (q : Nat) (a b : Nat) : (mem (repT n x q (q : Int)) a b → mem (repT n x q ((q : Int) + 1)) a b) ∧ (mem (repT n x q ((q : Int) + 1)) a b → mem (repT n x q (-1)) a b) := by
  rw [rep_bit hn hx (.inr (by omega)), rep_bit hn hx (.inr (by omega)), rep_bit hn hx (.inl rfl)]
  constructor
  · rintro ⟨k, k1, k2, k3⟩; exact ⟨k, k1, .inr (by omega), k3⟩
  · rintro ⟨k, k1, k2, k3⟩; exact ⟨k, k1, .inl rfl, k3⟩
/-- A pattern so many times. -/
def repF (d : Nd) (k : Fo) : Nat → Fo
  | 0 => .nil
  | q + 1 => .cons d k (repF d k q)
theorem repF_len (d : Nd) (k : Fo) : ∀ q, (repF d k q).len = q
  | 0 => rfl
  | q + 1 => by simp only [repF, Fo.len, repF_len d k q]
theorem repF_size (d : Nd) (k : Fo) : ∀ q, (repF d k q).size = q * (k.size + 1)
  | 0 => by simp [repF, Fo.size]
  | q + 1 => by simp only [repF, Fo.size, repF_size d k q]; rw [Nat.add_mul]; omega
theorem repF_good {d : Nd} {k : Fo} (h1 : ndE d k.len = 0) (h2 : k.good) : ∀ q, (repF d k q).good
  | 0 => trivial
  | q + 1 => ⟨h1, h2, repF_good h1 h2 q⟩
theorem repF_tab (ss : List Snd) (d : Nd) (k : Fo) : ∀ q, tabF ss (repF d k q) = List.replicate q (tabP ss d k)
  | 0 => rfl
  | q + 1 => by
    show tabP ss d k :: tabF ss (repF d k q) = _
    rw [repF_tab ss d k q, List.replicate_succ]
theorem fold_rep (n : Nat) (x : Tb) : ∀ (q m : Nat), (List.replicate q x).foldl (thnT n) (pwT n x m) = pwT n x (m + q)
  | 0, m => rfl
  | q + 1, m => by
    rw [List.replicate_succ, List.foldl_cons]
    show (List.replicate q x).foldl (thnT n) (pwT n x (m + 1)) = _
    rw [fold_rep n x q (m + 1), show m + 1 + q = m + (q + 1) from by omega]
theorem tab_list (ss : List Snd) (v : Value) (d : Nd) (k : Fo) (q : Nat) : tabP ss ⟨3, (0#32, 0#32), false, 0, 0, v⟩ (repF d k q) = pwT ss.length (tabP ss d k) q := by
  unfold tabP tabN
  rw [if_neg (show ¬ (3 : Int) = 0 by decide), if_neg (show ¬ (3 : Int) = 1 by decide), if_neg (show ¬ (3 : Int) = 2 by decide), if_pos rfl, repF_tab]
  have := fold_rep ss.length (tabP ss d k) q 0
  rw [Nat.zero_add] at this
  exact this
/-- The seven cells of a pattern. -/
def c7 (d : Nd) : List Value := [.int .i64 d.kind, .int .u32 (d.is.1.toNat : Int), .int .u32 (d.is.2.toNat : Int), .bool d.neg, .int .i64 d.mi, .int .i64 d.ma, d.sl]
def rowP (d : Nd) (q : Nat) : List Value := (List.replicate q (c7 d)).flatten
theorem rowP_succ (d : Nd) (q : Nat) : rowP d (q + 1) = rowP d q ++ c7 d := by
  unfold rowP
  rw [List.replicate_succ', List.flatten_append]
  simp
theorem rowP_length (d : Nd) : ∀ q, (rowP d q).length = q * 7
  | 0 => rfl
  | q + 1 => by rw [rowP_succ, List.length_append, rowP_length d q]; simp [c7]; omega
theorem rowP_get (d : Nd) : ∀ (q i c : Nat), i < q → c < 7 → (rowP d q)[i * 7 + c]? = (c7 d)[c]?
  | 0, i, c, h, _ => by omega
  | q + 1, i, c, h, hc => by
    rw [rowP_succ]
    by_cases hi : i < q
    · rw [List.getElem?_append_left (by rw [rowP_length]; omega)]
      exact rowP_get d q i c hi hc
    · obtain rfl : i = q := by omega
      rw [List.getElem?_append_right (by rw [rowP_length]; omega), rowP_length, show i * 7 + c - i * 7 = c from by omega]
def OwnP (W : World) (base : Nat) (v : Value) (d : Nd) (q : Nat) : Prop := W.ownsRow base 27 7 v q (rowP d q)
theorem OwnP.nil (w : World) (base : Nat) (d : Nd) : OwnP w base (.slice none 0 0) d 0 := ⟨rfl, .inl ⟨rfl, rfl⟩⟩
theorem OwnP.below {w w' : World} {base : Nat} {v : Value} {d : Nd} {q : Nat} (h : OwnP w base v d q) (hb : Below w.heap.size w w') : OwnP w' base v d q := by
  obtain ⟨hl, h0 | ⟨g, cap, cur, hv, hg, hh, hr⟩⟩ := h
  · exact ⟨hl, .inl h0⟩
  · exact ⟨hl, .inr ⟨g, cap, cur, hv, hg, (hb.block g (Array.getElem?_eq_some_iff.1 hh).1).trans hh, hr⟩⟩
theorem infoPat : (Tryd.prog.info? 27).map (fun i => (i.zero, i.size, i.bytes)) = some (some (.agg #[.int .i64 0, .int .u32 0, .int .u32 0, .bool false, .int .i64 0, .int .i64 0, .slice none 0 0]), 7, 64) := by kernel_rfl
theorem pf_rep {W : World} {d : Nd} {k : Fo} (hp : Pt W d k) : ∀ (q b o : Nat), (∀ i, i < q → ∀ c, c < 7 → W.cell? ⟨b, o + (i * 7 + c), none⟩ = (c7 d)[c]?) → Pf W (repF d k q) b o
  | 0, _, _, _ => trivial
  | q + 1, b, o, h => by
    have h0 := fun c hc => h 0 (by omega) c hc
    simp only [Nat.zero_mul, Nat.zero_add] at h0
    refine ⟨h0 0 (by omega), h0 1 (by omega), h0 2 (by omega), h0 3 (by omega), h0 4 (by omega), h0 5 (by omega), h0 6 (by omega), hp, pf_rep hp q b (o + 7) fun i hi c hc => ?_⟩
    have := h (i + 1) (by omega) c hc
    rwa [show o + ((i + 1) * 7 + c) = o + 7 + (i * 7 + c) from by omega] at this
theorem OwnP.pt {W : World} {base : Nat} {v : Value} {d : Nd} {k : Fo} {q : Nat} (h : OwnP W base v d q) (hp : Pt W d k) (d' : Nd) (hs : d'.sl = v) : Pt W d' (repF d k q) := by
  obtain ⟨hl, ⟨rfl, rfl⟩ | ⟨g, cap, cur, rfl, hg, hh, hn, hm, hsz, ht⟩⟩ := h
  · exact .inl ⟨.inl hs, rfl⟩
  · refine .inr ⟨g, 0, cap, by rw [hs, repF_len], by rw [repF_len]; exact hn, hm, (Array.getElem?_eq_some_iff.1 hh).1, pf_rep hp q g 0 fun i hi c hc => ?_⟩
    rw [Nat.zero_add, ← rowP_get d q i c hi hc, ← ht, List.getElem?_take_of_lt (by omega), Array.getElem?_toList]
    have hlt : i * 7 + c < cur.size := by rw [hsz]; omega
    rw [Array.getElem?_eq_getElem hlt]
    exact cell_block hh (Array.getElem?_eq_getElem hlt)
theorem wpList_appP {ops : Array Oper} {rest : List Oper} {o : Oper} {a : Act} {w : World} {Q : Exit → Act → World → Prop} (hgd : o.guard = none) (s x : Operand)
    (ho : o.op = .call { callee := .builtin .append, args := #[s, x], argTypes := #[25, 25] })
    (base D : Nat) (v : Value) (d : Nd) (q : Nat) (hone : ∀ u ∈ c7 d, u.oneCell' = true) (hs : a.eval s = v) (hx : a.eval x = .slice (some ⟨D, 0, none⟩) 1 1) (hc : w.heap[D]? = some (.cells #[.int .i64 d.kind, .int .u32 (d.is.1.toNat : Int), .int .u32 (d.is.2.toNat : Int), .bool d.neg, .int .i64 d.mi, .int .i64 d.ma, d.sl] 27)) (hown : OwnP w base v d q) (hlen : q + 1 ≤ 1000000) (hbase : base ≤ w.heap.size)
    (h : ∀ v' w', OwnP w' base v' d (q + 1) → w.grownBy w' v.ownBlock → wpList Tryd.prog ops Q rest (a.put o.dst v') w') : wpList Tryd.prog ops Q (o :: rest) a w := by
  obtain ⟨i, hi, hz, hs1, hb1⟩ := info_parts infoPat
  refine wpList_append_own_at w hgd s x 25 ho base _ i _ 7 64 Tryd.underlying25 hi hz hs1 hb1 rfl (by decide) v q (rowP d q) hs hown ⟨D, 0, none⟩ 1 1 (c7 d) hx rfl ?_ hone (Nat.le_trans hlen (by decide)) (by omega) hbase ?_
  · intro j u hu
    have hj : j < 7 := (List.getElem?_eq_some_iff.1 hu).1
    have hj' : j = 0 ∨ j = 1 ∨ j = 2 ∨ j = 3 ∨ j = 4 ∨ j = 5 ∨ j = 6 := by omega
    rcases hj' with rfl | rfl | rfl | rfl | rfl | rfl | rfl <;> (cases hu; exact cell_block hc rfl)
  · intro v' w' ho' hg _ _
    refine h v' w' ?_ hg
    unfold OwnP
    rw [rowP_succ]
    exact ho'
end Go.Proofs.YtmobilppakjihaaDoor

/-
  What the statement on repeated patterns calls, as contracts.
-/
namespace Go.Proofs.YtmobilppakjihaaDoor
open Go.RowKit Go.Sort
/-- The law's ends of a pattern gives a table's rows. -/
def EndsT (sv : Value) (L : Nat) (W : World) (x : Value) (T : Tb) : Prop := Calls Tryd.prog 40 #[x, sv] W fun e w' => ∃ v, e = .returned (.tuple #[v, .bool true]) ∧ Mat w' v L T ∧ Below W.heap.size W w'
def repV (lo hi : Int) (B : Nat) : Value := .agg #[.int .i64 5, .int .u32 0, .int .u32 0, .bool false, .int .i64 lo, .int .i64 hi, .slice (some ⟨B, 0, none⟩) 1 1]
def seqV (v : Value) : Value := .agg #[.int .i64 3, .int .u32 0, .int .u32 0, .bool false, .int .i64 0, .int .i64 0, v]
def two5 (lo hi : Int) (B : Nat) (lo' hi' : Int) (B' : Nat) : Obj := .cells #[.int .i64 5, .int .u32 0, .int .u32 0, .bool false, .int .i64 lo, .int .i64 hi, .slice (some ⟨B, 0, none⟩) 1 1, .int .i64 5, .int .u32 0, .int .u32 0, .bool false, .int .i64 lo', .int .i64 hi', .slice (some ⟨B', 0, none⟩) 1 1] 27
theorem times_facts (d : Nd) (k : Fo) (ss : List Snd) (sv : Value) (w : World) (hp : Pt w d k) (hW : Wd w sv ss) (hT : Tab64 w) (ht0 : 0 < w.heap.size) (hE : mtE d k ss = 0) (h12 : k.size + 1 ≤ 12) (q : Nat) (hq : q ≤ 3) :
    ∃ (TA TC TE : Tb) (RP : Int → Int → World → Nat → Prop), (∀ a b, mem TA a b → mem TC a b) ∧ (∀ a b, mem TC a b → mem TE a b) ∧
      (∀ lo hi W W' B, RP lo hi W B → Below W.heap.size W W' → RP lo hi W' B) ∧
      (∀ lo hi W, Below w.heap.size w W → Calls Tryd.prog 42 #[ndV d, .int .i64 lo, .int .i64 hi] W fun e w' => ∃ B, e = .returned (repV lo hi B) ∧ RP lo hi w' B ∧ Below W.heap.size W w') ∧
      (∀ W B, Below w.heap.size w W → RP q q W B → EndsT sv ss.length W (repV q q B) TA) ∧
      (∀ W base v, Below w.heap.size w W → OwnP W base v d q → EndsT sv ss.length W (seqV v) TA) ∧
      (∀ W B, Below w.heap.size w W → RP q (q + 1) W B → EndsT sv ss.length W (repV q (q + 1) B) TC) ∧
      (∀ W D B B', Below w.heap.size w W → W.heap[D]? = some (two5 q q B 0 1 B') → RP q q W B → RP 0 1 W B' → EndsT sv ss.length W (seqV (.slice (some ⟨D, 0, none⟩) 2 2)) TC) ∧
      (∀ W B, Below w.heap.size w W → RP q (-1) W B → EndsT sv ss.length W (repV q (-1) B) TE) ∧
      (∀ W D B B', Below w.heap.size w W → W.heap[D]? = some (two5 q (-1) B 0 (-1) B') → RP q (-1) W B → RP 0 (-1) W B' → EndsT sv ss.length W (seqV (.slice (some ⟨D, 0, none⟩) 2 2)) TE) := by
  have hk := (node_ok hE).2
  have h32 := chk_len hk
  obtain ⟨g1, g2, -⟩ := pkE_good (node_ok hE).1
  have hok := OkT.pat h32 d k
  have hen := fun (d : Nd) (k : Fo) (hE : mtE d k ss = 0) (W : World) (hb : Below w.heap.size w W) (hp : Pt W d k) => lends_any d k ss sv W hp (hW.below hb) (hT.below hb ht0) (by have := hb.size; omega) hE
  have hone : ∀ (lo hi : Int) (v : Value), 0 ≤ lo → lo ≤ 32 → (hi = -1 ∨ lo ≤ hi ∧ hi ≤ 32) → mtE ⟨5, (0#32, 0#32), false, lo, hi, v⟩ (.cons d k .nil) ss = 0 := fun lo hi v h1 h2 h3 => mtE_of (nd_rep h1 h2 h3 v) ⟨g1, g2, trivial⟩ (by simp only [Fo.size]; omega) hk
  have htwo : ∀ (lo hi lo' hi' : Int) (v u u' : Value), 0 ≤ lo → lo ≤ 32 → (hi = -1 ∨ lo ≤ hi ∧ hi ≤ 32) → 0 ≤ lo' → lo' ≤ 32 → (hi' = -1 ∨ lo' ≤ hi' ∧ hi' ≤ 32) →
      mtE ⟨3, (0#32, 0#32), false, 0, 0, v⟩ (.cons ⟨5, (0#32, 0#32), false, lo, hi, u⟩ (.cons d k .nil) (.cons ⟨5, (0#32, 0#32), false, lo', hi', u'⟩ (.cons d k .nil) .nil)) ss = 0 := fun lo hi lo' hi' v u u' h1 h2 h3 h4 h5 h6 =>
    mtE_of (nd_seq 2 v) ⟨nd_rep h1 h2 h3 u, ⟨g1, g2, trivial⟩, nd_rep h4 h5 h6 u', ⟨g1, g2, trivial⟩, trivial⟩ (by simp only [Fo.size]; omega) hk
  have hlist : ∀ v, mtE ⟨3, (0#32, 0#32), false, 0, 0, v⟩ (repF d k q) ss = 0 := fun v => mtE_of (by rw [repF_len]; exact nd_seq q v) (repF_good g1 g2 q) (by rw [repF_size]; have := Nat.mul_le_mul hq h12; omega) hk
  refine ⟨repT ss.length (tabP ss d k) q (q : Int), repT ss.length (tabP ss d k) q ((q : Int) + 1), repT ss.length (tabP ss d k) q (-1), fun lo hi W B => Pt W ⟨5, (0#32, 0#32), false, lo, hi, .slice (some ⟨B, 0, none⟩) 1 1⟩ (.cons d k .nil),
    fun a b => (rep_sub h32 hok q a b).1, fun a b => (rep_sub h32 hok q a b).2, fun lo hi W W' B h hb => Pt.below h hb, fun lo hi W hb => lrep_any d k lo hi W (hp.below hb), fun W B hb hr => ?_, fun W base v hb ho => ?_, fun W B hb hr => ?_, fun W D B B' hb hD hr hr' => ?_, fun W B hb hr => ?_, fun W D B B' hb hD hr hr' => ?_⟩
  · have h := hen _ _ (hone q q (.slice (some ⟨B, 0, none⟩) 1 1) (by omega) (by omega) (.inr (by omega))) W hb hr
    rw [tab_rep, Int.toNat_natCast] at h
    exact h
  · have h := hen _ _ (hlist v) W hb (OwnP.pt ho (hp.below hb) _ rfl)
    rw [tab_list, ← rep_same h32 hok q] at h
    exact h
  · have h := hen _ _ (hone q (q + 1) (.slice (some ⟨B, 0, none⟩) 1 1) (by omega) (by omega) (.inr (by omega))) W hb hr
    rw [tab_rep, Int.toNat_natCast] at h
    exact h
  · have h := hen _ _ (htwo q q 0 1 (.slice (some ⟨D, 0, none⟩) 2 2) (.slice (some ⟨B, 0, none⟩) 1 1) (.slice (some ⟨B', 0, none⟩) 1 1) (by omega) (by omega) (.inr (by omega)) (by omega) (by omega) (.inr (by omega))) W hb (pt_two hD hr hr' rfl)
    rw [tab_seq h32, tab_rep, tab_rep, Int.toNat_natCast, Int.toNat_zero, rep_more h32 hok q] at h
    exact h
  · have h := hen _ _ (hone q (-1) (.slice (some ⟨B, 0, none⟩) 1 1) (by omega) (by omega) (.inl rfl)) W hb hr
    rw [tab_rep, Int.toNat_natCast] at h
    exact h
  · have h := hen _ _ (htwo q (-1) 0 (-1) (.slice (some ⟨D, 0, none⟩) 2 2) (.slice (some ⟨B, 0, none⟩) 1 1) (.slice (some ⟨B', 0, none⟩) 1 1) (by omega) (by omega) (.inl rfl) (by omega) (by omega) (.inl rfl)) W hb (pt_two hD hr hr' rfl)
    rw [tab_seq h32, tab_rep, tab_rep, Int.toNat_natCast, Int.toNat_zero, rep_on h32 hok q] at h
    exact h
end Go.Proofs.YtmobilppakjihaaDoor

/-
  PatsTimes: the comparison of six truth values (one statement of the loop).
-/
namespace Go.Proofs.YtmobilppakjihaaDoor
open Go.RowKit Go.Sort
/-- A region of a piece of code, by its number. -/
def findR (id : Nat) : Code → Option Code
  | .region i ops d => if i = id then some (.region i ops d) else none
  | .seq a b => match findR id a with
    | some c => some c
    | none => findR id b
  | .cond _ a b => match findR id a with
    | some c => some c
    | none => findR id b
  | .block _ a => findR id a
  | .loop a => findR id a
  | .scope a => findR id a
  | _ => none
noncomputable def reg23 : Code := ((Tryd.f10.body.bind (findR 23)).getD .skip)
def Six (L i y : Nat) (wr : World) (z1 z2 z3 : Bool) (lb1 lb2 lb3 lb4 lb5 lb6 : Nat) : Prop := ∃ c1 c2 c3 c4 c5 c6,
  wr.cell? ⟨lb1, i, none⟩ = some (.slice (some ⟨c1, 0, none⟩) (L + 1) (L + 1)) ∧ wr.cell? ⟨c1, y, none⟩ = some (.bool z1) ∧   wr.cell? ⟨lb2, i, none⟩ = some (.slice (some ⟨c2, 0, none⟩) (L + 1) (L + 1)) ∧ wr.cell? ⟨c2, y, none⟩ = some (.bool z1) ∧   wr.cell? ⟨lb3, i, none⟩ = some (.slice (some ⟨c3, 0, none⟩) (L + 1) (L + 1)) ∧ wr.cell? ⟨c3, y, none⟩ = some (.bool z2) ∧   wr.cell? ⟨lb4, i, none⟩ = some (.slice (some ⟨c4, 0, none⟩) (L + 1) (L + 1)) ∧ wr.cell? ⟨c4, y, none⟩ = some (.bool z2) ∧   wr.cell? ⟨lb5, i, none⟩ = some (.slice (some ⟨c5, 0, none⟩) (L + 1) (L + 1)) ∧ wr.cell? ⟨c5, y, none⟩ = some (.bool z3) ∧   wr.cell? ⟨lb6, i, none⟩ = some (.slice (some ⟨c6, 0, none⟩) (L + 1) (L + 1)) ∧ wr.cell? ⟨c6, y, none⟩ = some (.bool z3)
def After23 (L i y lb1 lc1 lb2 lc2 lb3 lc3 lb4 lc4 lb5 lc5 lb6 lc6 : Nat) (x0 x1 x2 x3 x4 x5 x6 x7 x8 x9 x11 x13 x15 x17 x19 x21 x24 x25 x26 x27 x28 x29 x30 x31 x32 x33 x34 x35 x36 x37 x38 x39 x40 x41 x42 x43 x44 x45 x46 x47 x48 x49 x50 x51 x52 x53 x54 x55 x56 x57 x58 x59 x60 x61 x62 x63 x64 x65 x66 x67 x68 x69 x70 x71 x72 x73 x74 x75 x76 x77 x78 x79 x80 x81 x82 x83 x84 x85 x86 x87 x88 x89 x90 x91 x92 x93 x94 x95 x96 x97 x98 x99 x100 x101 x102 x103 x104 x105 x106 x107 x108 x109 x110 x111 x112 x113 x114 x115 x116 x117 x118 x119 x120 x121 x122 x123 x124 x125 x126 x127 x128 x129 x130 x131 x132 x133 x134 x135 x136 x137 x138 x139 x140 x141 x142 x143 x144 x145 x146 x147 x148 x149 x150 x151 x152 x153 x154 x155 x156 x157 x158 x159 x160 x161 x162 x163 x164 x165 x166 x167 x168 x169 x170 x171 x172 x173 x174 x175 x176 x177 x178 x179 x180 x181 x182 x183 x184 x185 x186 x187 x188 x189 x190 x191 x192 x193 x194 x195 x196 x197 x198 x199 x200 x201 x202 x203 x204 x205 x206 x207 x208 x209 x210 x211 x212 x213 x214 x215 x216 x217 x218 x219 x220 x221 x222 x223 x224 x225 x226 : Value) (a2 : Act) : Prop := ∃ v139 v140 v141 v142 v143 v144 v145 v146 v147 v148 v149 v150 v151 v152 v153 v154 v155 v156 v157 v158 v159 v160 v161 v162 v163 v164 v165 v166 v167 v168 v169 v170 v171 v172 v173 v174 v175 v176 v177 v178 v179 v180 v181 v182 v183 v184 v185 v186 v187 v188 v189 v190 v191 v192 v193 v194 v195 v196 v197 v198 v199 v200 v201 v202 v203 v204 v205 v206 v207 v208 v209 v210 v211 v212 v213 v214 v215 v216 v217 v218 v219 v220 v221 v222 v223 v224 : Value, a2 = { tmps := #[x0, x1, x2, x3, x4, x5, x6, x7, x8, x9, .slice (some ⟨lb1, 0, none⟩) (L + 1) lc1, x11, .slice (some ⟨lb2, 0, none⟩) (L + 1) lc2, x13, .slice (some ⟨lb3, 0, none⟩) (L + 1) lc3, x15, .slice (some ⟨lb4, 0, none⟩) (L + 1) lc4, x17, .slice (some ⟨lb5, 0, none⟩) (L + 1) lc5, x19, .slice (some ⟨lb6, 0, none⟩) (L + 1) lc6, x21, .int .i64 (i : Int), .int .i64 (y : Int), x24, x25, x26, x27, x28, x29, x30, x31, x32, x33, x34, x35, x36, x37, x38, x39, x40, x41, x42, x43, x44, x45, x46, x47, x48, x49, x50, x51, x52, x53, x54, x55, x56, x57, x58, x59, x60, x61, x62, x63, x64, x65, x66, x67, x68, x69, x70, x71, x72, x73, x74, x75, x76, x77, x78, x79, x80, x81, x82, x83, x84, x85, x86, x87, x88, x89, x90, x91, x92, x93, x94, x95, x96, x97, x98, x99, x100, x101, x102, x103, x104, x105, x106, x107, x108, x109, x110, x111, x112, x113, x114, x115, x116, x117, x118, x119, x120, x121, x122, x123, x124, x125, x126, x127, x128, x129, x130, x131, x132, x133, x134, x135, x136, x137, x138, v139, v140, v141, v142, v143, v144, v145, v146, v147, v148, v149, v150, v151, v152, v153, v154, v155, v156, v157, v158, v159, v160, v161, v162, v163, v164, v165, v166, v167, v168, v169, v170, v171, v172, v173, v174, v175, v176, v177, v178, v179, v180, v181, v182, v183, v184, v185, v186, v187, v188, v189, v190, v191, v192, v193, v194, v195, v196, v197, v198, v199, v200, v201, v202, v203, v204, v205, v206, v207, v208, v209, v210, v211, v212, v213, v214, v215, v216, v217, v218, v219, v220, v221, v222, v223, v224, .bool false, x226], defers := [] }
set_option maxRecDepth 100000 in
set_option maxHeartbeats 8000000 in
theorem reg23_a (L i y : Nat) (hi : i ≤ L) (hy : y ≤ L) (lb1 lc1 lb2 lc2 lb3 lc3 lb4 lc4 lb5 lc5 lb6 lc6 : Nat) (wr : World) (hs : Six L i y wr false false false lb1 lb2 lb3 lb4 lb5 lb6) (x0 x1 x2 x3 x4 x5 x6 x7 x8 x9 x11 x13 x15 x17 x19 x21 x24 x25 x26 x27 x28 x29 x30 x31 x32 x33 x34 x35 x36 x37 x38 x39 x40 x41 x42 x43 x44 x45 x46 x47 x48 x49 x50 x51 x52 x53 x54 x55 x56 x57 x58 x59 x60 x61 x62 x63 x64 x65 x66 x67 x68 x69 x70 x71 x72 x73 x74 x75 x76 x77 x78 x79 x80 x81 x82 x83 x84 x85 x86 x87 x88 x89 x90 x91 x92 x93 x94 x95 x96 x97 x98 x99 x100 x101 x102 x103 x104 x105 x106 x107 x108 x109 x110 x111 x112 x113 x114 x115 x116 x117 x118 x119 x120 x121 x122 x123 x124 x125 x126 x127 x128 x129 x130 x131 x132 x133 x134 x135 x136 x137 x138 x139 x140 x141 x142 x143 x144 x145 x146 x147 x148 x149 x150 x151 x152 x153 x154 x155 x156 x157 x158 x159 x160 x161 x162 x163 x164 x165 x166 x167 x168 x169 x170 x171 x172 x173 x174 x175 x176 x177 x178 x179 x180 x181 x182 x183 x184 x185 x186 x187 x188 x189 x190 x191 x192 x193 x194 x195 x196 x197 x198 x199 x200 x201 x202 x203 x204 x205 x206 x207 x208 x209 x210 x211 x212 x213 x214 x215 x216 x217 x218 x219 x220 x221 x222 x223 x224 x225 x226 : Value) :
    reg23.wp Tryd.prog (fun e a' w' => e = .normal ∧ After23 L i y lb1 lc1 lb2 lc2 lb3 lc3 lb4 lc4 lb5 lc5 lb6 lc6 x0 x1 x2 x3 x4 x5 x6 x7 x8 x9 x11 x13 x15 x17 x19 x21 x24 x25 x26 x27 x28 x29 x30 x31 x32 x33 x34 x35 x36 x37 x38 x39 x40 x41 x42 x43 x44 x45 x46 x47 x48 x49 x50 x51 x52 x53 x54 x55 x56 x57 x58 x59 x60 x61 x62 x63 x64 x65 x66 x67 x68 x69 x70 x71 x72 x73 x74 x75 x76 x77 x78 x79 x80 x81 x82 x83 x84 x85 x86 x87 x88 x89 x90 x91 x92 x93 x94 x95 x96 x97 x98 x99 x100 x101 x102 x103 x104 x105 x106 x107 x108 x109 x110 x111 x112 x113 x114 x115 x116 x117 x118 x119 x120 x121 x122 x123 x124 x125 x126 x127 x128 x129 x130 x131 x132 x133 x134 x135 x136 x137 x138 x139 x140 x141 x142 x143 x144 x145 x146 x147 x148 x149 x150 x151 x152 x153 x154 x155 x156 x157 x158 x159 x160 x161 x162 x163 x164 x165 x166 x167 x168 x169 x170 x171 x172 x173 x174 x175 x176 x177 x178 x179 x180 x181 x182 x183 x184 x185 x186 x187 x188 x189 x190 x191 x192 x193 x194 x195 x196 x197 x198 x199 x200 x201 x202 x203 x204 x205 x206 x207 x208 x209 x210 x211 x212 x213 x214 x215 x216 x217 x218 x219 x220 x221 x222 x223 x224 x225 x226 a' ∧ Below wr.heap.size wr w') { tmps := #[x0, x1, x2, x3, x4, x5, x6, x7, x8, x9, .slice (some ⟨lb1, 0, none⟩) (L + 1) lc1, x11, .slice (some ⟨lb2, 0, none⟩) (L + 1) lc2, x13, .slice (some ⟨lb3, 0, none⟩) (L + 1) lc3, x15, .slice (some ⟨lb4, 0, none⟩) (L + 1) lc4, x17, .slice (some ⟨lb5, 0, none⟩) (L + 1) lc5, x19, .slice (some ⟨lb6, 0, none⟩) (L + 1) lc6, x21, .int .i64 (i : Int), .int .i64 (y : Int), x24, x25, x26, x27, x28, x29, x30, x31, x32, x33, x34, x35, x36, x37, x38, x39, x40, x41, x42, x43, x44, x45, x46, x47, x48, x49, x50, x51, x52, x53, x54, x55, x56, x57, x58, x59, x60, x61, x62, x63, x64, x65, x66, x67, x68, x69, x70, x71, x72, x73, x74, x75, x76, x77, x78, x79, x80, x81, x82, x83, x84, x85, x86, x87, x88, x89, x90, x91, x92, x93, x94, x95, x96, x97, x98, x99, x100, x101, x102, x103, x104, x105, x106, x107, x108, x109, x110, x111, x112, x113, x114, x115, x116, x117, x118, x119, x120, x121, x122, x123, x124, x125, x126, x127, x128, x129, x130, x131, x132, x133, x134, x135, x136, x137, x138, x139, x140, x141, x142, x143, x144, x145, x146, x147, x148, x149, x150, x151, x152, x153, x154, x155, x156, x157, x158, x159, x160, x161, x162, x163, x164, x165, x166, x167, x168, x169, x170, x171, x172, x173, x174, x175, x176, x177, x178, x179, x180, x181, x182, x183, x184, x185, x186, x187, x188, x189, x190, x191, x192, x193, x194, x195, x196, x197, x198, x199, x200, x201, x202, x203, x204, x205, x206, x207, x208, x209, x210, x211, x212, x213, x214, x215, x216, x217, x218, x219, x220, x221, x222, x223, x224, x225, x226], defers := [] } wr := by
  obtain ⟨c1, c2, c3, c4, c5, c6, a1, b1, a2, b2, a3, b3, a4, b4, a5, b5, a6, b6⟩ := hs
  have hii : (i : Int) < (L : Int) + 1 := by omega
  have hyy : (y : Int) < (L : Int) + 1 := by omega
  have hii2 : i < L + 1 := by omega
  have hyy2 : y < L + 1 := by omega
  have t1 := cell_regrown a1; have t2 := cell_regrown a2; have t3 := cell_regrown a3; have t4 := cell_regrown a4; have t5 := cell_regrown a5; have t6 := cell_regrown a6; have u1 := cell_regrown b1; have u2 := cell_regrown b2; have u3 := cell_regrown b3; have u4 := cell_regrown b4; have u5 := cell_regrown b5; have u6 := cell_regrown b6
  clear a1 a2 a3 a4 a5 a6 b1 b2 b3 b4 b5 b6
  have hrw : ∃ ops, reg23 = Code.region 23 ops true := ⟨_, rfl⟩
  conv => arg 2; whnf
  refine wp_region_quiet_below (by kernel_rfl) (by kernel_rfl) ?_
  try simp only [List.append]
  repeat (go_big_quiet_step (fail))
  refine wpQuiet_nil ?_
  intro wz hwz
  refine ⟨by trivial, ⟨_, _, _, _, _, _, _, _, _, _, _, _, _, _, _, _, _, _, _, _, _, _, _, _, _, _, _, _, _, _, _, _, _, _, _, _, _, _, _, _, _, _, _, _, _, _, _, _, _, _, _, _, _, _, _, _, _, _, _, _, _, _, _, _, _, _, _, _, _, _, _, _, _, _, _, _, _, _, _, _, _, _, _, _, _, _, rfl⟩, by obtain ⟨qq, rfl⟩ := hwz; exact below_regrown _ _ _⟩
end Go.Proofs.YtmobilppakjihaaDoor
