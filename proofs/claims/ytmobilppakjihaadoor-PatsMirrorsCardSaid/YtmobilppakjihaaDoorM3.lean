/-
  Lemmas that the theorem of this claim rests on: 3 texts, one behind the other.
-/
import Derived.Test.YtmobilppakjihaaDoorM1
import Derived.Test.YtmobilppakjihaaDoorRows
import Derived.ProofKit
import Derived.OpenShut
import Derived.Deep.DeepHandedRow
import Derived.Lib.SmallJoins
import Derived.Carry
import Derived.Test.YtmobilppakjihaaDoorM2
import Derived.Lib.LaidTab
set_option linter.unusedSimpArgs false
set_option linter.unusedVariables false
/-
  What every one of the laws asks: how words are read, and what a law that returns true and turns nothing leaves.
-/
namespace Go.Proofs.YtmobilppakjihaaDoor
set_option maxRecDepth 100000
open Go.ChangeShapes Go.WideShapes Go.ChangeAt Go.RowKit Go.Joins
theorem ownK : ownKnob Tryd.prog.godebug = none := by kernel_rfl
theorem laidOutP : laidOutB Tryd.prog = true := by kernel_rfl
section
variable {H : Type} {enc : TypeId × Value → H} {P : Program}
theorem trodAll_below {W W' : World} {sp : Nat → Bool} (hl : laidOutB P = true) (hb : Below W.heap.size W W') : ∀ {ts : List TypeId} {vs : List Value} {ds : List (DataW H)} {p : List MemPlace},
    (∀ t ∈ ts, P.readableRec t = true ∧ t < P.types.size) → DataW.TrodAll enc P W 0 (fun _ => true) true ts vs ds p → (∀ x ∈ p, x.block < W.heap.size) → (∀ x ∈ p, sp x.block = true) → DataW.TrodAll enc P W' 0 sp true ts vs ds p
  | [], _, _, _, _, h, _, _ => by
    obtain ⟨rfl, rfl, rfl⟩ := trodAll_nil h
    exact trodAll_mk0
  | t :: ts, _, _, _, hr, h, hlt, hs => by
    obtain ⟨v, vs, d, ds, p, q, rfl, rfl, rfl, h1, h2⟩ := trodAll_cons h
    have hr1 := hr t (by simp)
    exact trodAll_cons_mk (WideElems.Trod_stays hl hr1.1 hr1.2 h1 (fun x hx => hb.same (hlt x (by simp [hx]))) (fun x hx => hs x (by simp [hx])))
      (trodAll_below hl hb (fun t ht => hr t (by simp [ht])) h2 (fun x hx => hlt x (by simp [hx])) (fun x hx => hs x (by simp [hx])))
/-- What a law that returns true and turns nothing leaves. -/
theorem post_law {f : Func} {s : ChangeSpec} {W W' : World} {args : Array Value} {ds gs : List (DataW H)} {before : List MemPlace} {tb : TypeId}
    (hrt : f.resultTypes = #[tb]) (htb : P.underlying tb = some .bool) (hsv : s.vars = []) (hl : laidOutB P = true) (hr : ∀ t ∈ f.params.toList, P.readableRec t = true ∧ t < P.types.size)
    (hW : DataW.Whole enc P f.params.toList s.vars false W args.toList ds gs before) (hfn : s.fn H (ds ++ gs) = { results := [.lit (.bool true)], args := ds }) (hb : Below W.heap.size W W') :
    s.post enc P f false true false false W args (.bool true) W' := by
  have hlt := hW.lt
  have hW0 := hW
  obtain ⟨p, q, hA, hV, hp, hfz, hn⟩ := hW
  rw [hsv] at hV
  obtain ⟨hgs, hq⟩ := trodVars_none hV
  subst hq
  rw [List.append_nil] at hp
  subst hp
  refine ⟨ds, gs, before, [], before, [], hW0, ?_, ?_, ?_, Below.frame hb _, fun h => by cases h⟩
  · rw [hfn, hrt]
    exact trodAll_cons_mk (shut_bool htb _) trodAll_mk0
  · rw [hfn]
    exact trodAll_below hl hb hr hA hlt (fun x hx => by simpa using hlt x hx)
  · rw [hsv, hfn]
    rfl
/-- A law's walk, for every argument: what the row asks. -/
theorem law_of_walk {f : Func} {s : ChangeSpec} {k : FuncId} {W : World} {args : Array Value} {ds gs : List (DataW H)} {before : List MemPlace} {tb : TypeId}
    (hrt : f.resultTypes = #[tb]) (htb : Tryd.prog.underlying tb = some .bool) (hsv : s.vars = []) (hr : ∀ t ∈ f.params.toList, Tryd.prog.readableRec t = true ∧ t < Tryd.prog.types.size)
    (hW : DataW.Whole enc Tryd.prog f.params.toList s.vars false W args.toList ds gs before) (hfn : s.fn H (ds ++ gs) = { results := [.lit (.bool true)], args := ds }) (walk : Gives k args W (.bool true)) :
    Calls Tryd.prog k args W fun e W' => ∃ v, e = .returned v ∧ s.post enc Tryd.prog f false true false false W args v W' :=
  Calls.mono walk fun e W' ⟨he, hb⟩ => ⟨_, he, post_law hrt htb hsv laidOutP hr hW hfn hb⟩
end
theorem u32_bv {n : Int} (h : (Lit.int .u32 n).wf = true) : ∃ x : BitVec 32, n = x.toNat := by
  have b := bounds_u32 h
  exact ⟨BitVec.ofNat 32 n.toNat, by simp; omega⟩
/-- How a sound is read. -/
theorem open_sound {H : Type} {enc : TypeId × Value → H} {w : World} {base : Nat} {spare : Nat → Bool} {held : Bool} {r : Reach} {b0 : Nat} {v : Value} {d : DataW H} {p : List MemPlace}
    (hv : Value.okWide Tryd.prog w r b0 24 v) (h : DataW.Trod enc Tryd.prog w base spare held 24 v d p) : ∃ x y : BitVec 32, v = sn x.toNat y.toNat := by
  obtain ⟨v0, v1, y0, y1, n, rfl, _, _, h0, h1⟩ := open_agg2 Tryd.underlying24 (by kernel_rfl) (by kernel_rfl) hv h
  obtain ⟨a, e0, _, w0⟩ := DataW.trod_int Tryd.underlying22 h0
  obtain ⟨b, e1, _, w1⟩ := DataW.trod_int Tryd.underlying22 h1
  obtain ⟨x, rfl⟩ := u32_bv w0
  obtain ⟨y, rfl⟩ := u32_bv w1
  simp only [List.cons.injEq, and_true] at e0 e1
  subst e0; subst e1
  exact ⟨x, y, rfl⟩
theorem open_byte {H : Type} {enc : TypeId × Value → H} {w : World} {base : Nat} {spare : Nat → Bool} {held : Bool} {r : Reach} {b0 : Nat} {v : Value} {d : DataW H} {p : List MemPlace}
    (hv : Value.okWide Tryd.prog w r b0 5 v) (h : DataW.Trod enc Tryd.prog w base spare held 5 v d p) : ∃ x : Nat, x ≤ 255 ∧ v = .int .u8 x := by
  obtain ⟨n, rfl, _, _, hw⟩ := open_int Tryd.underlying5 hv h
  have b := bounds_u8 hw
  exact ⟨n.toNat, by omega, by rw [show ((n.toNat : Nat) : Int) = n from by omega]⟩
theorem open_i64 {H : Type} {enc : TypeId × Value → H} {w : World} {base : Nat} {spare : Nat → Bool} {held : Bool} {r : Reach} {b0 : Nat} {v : Value} {d : DataW H} {p : List MemPlace}
    (hv : Value.okWide Tryd.prog w r b0 3 v) (h : DataW.Trod enc Tryd.prog w base spare held 3 v d p) : ∃ x : Int, v = .int .i64 x := by
  obtain ⟨n, rfl, _, _, hw⟩ := open_int Tryd.underlying3 hv h
  exact ⟨n, rfl⟩
theorem addr_add (b o j : Nat) : (⟨b, o, none⟩ : Addr).add j = ⟨b, o + j, none⟩ := by
  unfold Addr.add
  first | rfl | (split <;> simp_all) | (simp; omega)
/-- The two cells of a sound in memory. -/
theorem sound_cells {H : Type} {enc : TypeId × Value → H} {w : World} {base n : Nat} {spare : Nat → Bool} {held : Bool} {a : Addr} {y : DataW H × List MemPlace}
    (h : (w.cells? base a 2).bind (DataW.trod enc Tryd.prog w base spare held n 24) = some y) : ∃ s : Snd, w.cell? a = some (.int .u32 s.1.toNat) ∧ w.cell? (a.add 1) = some (.int .u32 s.2.toNat) := by
  rw [Option.bind_eq_some_iff] at h
  obtain ⟨cs, hc, ht⟩ := h
  unfold World.cells? at hc
  split at hc
  · rw [show List.range 2 = [0, 1] from rfl] at hc
    simp only [List.mapM_cons, List.mapM_nil, Option.bind_eq_bind, Option.pure_def, Option.bind_eq_some_iff, Option.some.injEq] at hc
    obtain ⟨c0, h0, l1, ⟨c1, h1, l2, rfl, rfl⟩, rfl⟩ := hc
    obtain ⟨y0, y1, m, _, _, t0, t1⟩ := trod_struct2 Tryd.underlying24 ht
    have k1 : Tryd.prog.cellsOf 22 = 1 := by kernel_rfl
    simp only [k1] at t0 t1
    obtain ⟨z0, e0, _, w0⟩ := DataW.trod_int Tryd.underlying22 t0
    obtain ⟨z1, e1, _, w1⟩ := DataW.trod_int Tryd.underlying22 t1
    obtain ⟨x0, rfl⟩ := u32_bv w0
    obtain ⟨x1, rfl⟩ := u32_bv w1
    simp at e0 e1
    subst e0; subst e1
    refine ⟨(x0, x1), ?_, h1⟩
    simpa [Addr.add] using h0
  · cases hc
/-- How a word is read: by its slice and its sounds. -/
theorem open_words {H : Type} {enc : TypeId × Value → H} {w : World} {base : Nat} {spare : Nat → Bool} {held : Bool} {r : Reach} {b0 : Nat} {v : Value} {d : DataW H} {p : List MemPlace}
    (hv : Value.okWide Tryd.prog w r b0 34 v) (h : DataW.Trod enc Tryd.prog w base spare held 34 v d p) : ∃ ss : List Snd, Wd w v ss := by
  obtain ⟨fuel, hf⟩ := h
  have hk : Tryd.prog.cellsOf 24 = 2 := by kernel_rfl
  rcases DataW.trod_slice Tryd.underlying34 hf with ⟨h0, _⟩ | ⟨a, len, cap, elems, rest, n, _, hcs, _, _, hl, hm, hlen, hel, _, _⟩
  · simp [Value.cells] at h0
    obtain ⟨ao, ln, cp, rfl⟩ := okWide_slice Tryd.underlying34 hv
    simp at h0
    obtain ⟨rfl, rfl, rfl⟩ := h0
    exact ⟨[], Wd.nil w⟩
  · obtain ⟨ao, ln, cp, rfl⟩ := okWide_slice Tryd.underlying34 hv
    simp [Value.cells] at hcs
    obtain ⟨rfl, rfl, rfl⟩ := hcs
    have hok : Cell.ok Tryd.prog w r b0 34 (.slice (some a) ln cp) := by
      simpa [Value.okWide, Cell.okWide, Tryd.underlying34] using hv
    have hhas : ln ≤ cp ∧ (cp : Int) ≤ IntKind.i64.max ∧ w.has Tryd.prog r b0 a 24 cp := by
      simpa [Cell.ok, Tryd.underlying34] using hok
    obtain ⟨_, hsp, row, cells, hsh, _⟩ := hhas.2.2
    obtain ⟨ab, aoff, asp⟩ := a
    simp only at hsp
    subst hsp
    have hblk : ab < w.heap.size := by
      unfold World.shape? at hsh
      simp only at hsh
      rcases Nat.lt_or_ge ab w.heap.size with h1 | h1
      · exact h1
      · rw [Array.getElem?_eq_none h1] at hsh; cases hsh
    have each : ∀ i, i < ln → ∃ s : Snd, w.cell? ⟨ab, aoff + i * 2, none⟩ = some (.int .u32 s.1.toNat) ∧ w.cell? ⟨ab, aoff + i * 2 + 1, none⟩ = some (.int .u32 s.2.toNat) := fun i hi => by
      have h1 := hel i hi
      rw [hk, List.getElem?_eq_getElem (by omega)] at h1
      obtain ⟨s, c0, c1⟩ := sound_cells h1
      refine ⟨s, ?_, ?_⟩
      · rw [addr_add] at c0; exact c0
      · rw [addr_add, addr_add] at c1; exact c1
    obtain ⟨f, hf2⟩ : ∃ f : Nat → Snd, ∀ i, i < ln → w.cell? ⟨ab, aoff + i * 2, none⟩ = some (.int .u32 (f i).1.toNat) ∧ w.cell? ⟨ab, aoff + i * 2 + 1, none⟩ = some (.int .u32 (f i).2.toNat) :=
      ⟨fun i => if h : i < ln then Classical.choose (each i h) else (0#32, 0#32), fun i hi => by simp only [dif_pos hi]; exact Classical.choose_spec (each i hi)⟩
    refine ⟨(List.range ln).map f, .inr ⟨ab, aoff, cp, by simp, by simpa using hl, hm, hblk, fun i hi => ?_⟩⟩
    have hi' : i < ln := by simpa using hi
    simpa using hf2 i hi'
end Go.Proofs.YtmobilppakjihaaDoor

/-
  How a pattern is read: by its cells, and the patterns below it.
-/
namespace Go.Proofs.YtmobilppakjihaaDoor
set_option maxRecDepth 100000
open Go.ChangeShapes Go.WideShapes Go.ChangeAt Go.RowKit Go.Joins
def ndC (d : Nd) : List Value := [.int .i64 d.kind, .int .u32 (d.is.1.toNat : Int), .int .u32 (d.is.2.toNat : Int), .bool d.neg, .int .i64 d.mi, .int .i64 d.ma, d.sl]
theorem cell_live7 {w : World} {a : Addr} {u : Value} (h : w.cell? a = some u) : a.block < w.heap.size ∧ a.spot = none := by
  unfold World.cell? at h
  split at h
  · rename_i c t z hb
    refine ⟨(Array.getElem?_eq_some_iff.1 hb).1, ?_⟩
    by_cases hs : a.spot.isSome = true
    · rw [if_pos hs] at h; cases h
    · cases hq : a.spot with
      | none => rfl
      | some x => rw [hq] at hs; simp at hs
  · cases h
theorem fo_build {w : World} {b : Nat} : ∀ (len off : Nat), (∀ i, i < len → ∃ d k, (∀ j (hj : j < 7), w.cell? ⟨b, off + i * 7 + j, none⟩ = some ((ndC d)[j]'hj)) ∧ Pt w d k) → ∃ F : Fo, F.len = len ∧ Pf w F b off
  | 0, _, _ => ⟨.nil, rfl, trivial⟩
  | len + 1, off, h => by
    obtain ⟨d, k, hc, hp⟩ := h 0 (by omega)
    obtain ⟨F, hF, hq⟩ := fo_build len (off + 7) (fun i hi => by
      obtain ⟨d', k', hc', hp'⟩ := h (i + 1) (by omega)
      refine ⟨d', k', fun j hj => ?_, hp'⟩
      have := hc' j hj
      rw [show off + 7 + i * 7 + j = off + (i + 1) * 7 + j by omega]
      exact this)
    simp only [Nat.zero_mul, Nat.add_zero] at hc
    exact ⟨.cons d k F, by simp only [Fo.len, hF], hc 0 (by omega), hc 1 (by omega), hc 2 (by omega), hc 3 (by omega), hc 4 (by omega), hc 5 (by omega), hc 6 (by omega), hp, hq⟩
theorem cells7 {w : World} {base : Nat} {a : Addr} {cs : List Value} (h : w.cells? base a 7 = some cs) : cs.length = 7 ∧ ∀ j (hj : j < cs.length), w.cell? (a.add j) = some (cs[j]'hj) := by
  unfold World.cells? at h
  split at h
  · rw [show List.range 7 = [0, 1, 2, 3, 4, 5, 6] from rfl] at h
    simp only [List.mapM_cons, List.mapM_nil, Option.bind_eq_bind, Option.pure_def, Option.bind_eq_some_iff, Option.some.injEq] at h
    obtain ⟨c0, h0, l0, ⟨c1, h1, l1, ⟨c2, h2, l2, ⟨c3, h3, l3, ⟨c4, h4, l4, ⟨c5, h5, l5, ⟨c6, h6, l6, rfl, rfl⟩, rfl⟩, rfl⟩, rfl⟩, rfl⟩, rfl⟩, rfl⟩ := h
    refine ⟨rfl, fun j hj => ?_⟩
    match j, hj with
    | 0, _ => exact h0
    | 1, _ => exact h1
    | 2, _ => exact h2
    | 3, _ => exact h3
    | 4, _ => exact h4
    | 5, _ => exact h5
    | 6, _ => exact h6
  · cases h
theorem pat_read {H : Type} {enc : TypeId × Value → H} {w : World} {base : Nat} {spare : Nat → Bool} {held : Bool} (hspare : ∀ b, spare b = true) : ∀ (s n : Nat), n ≤ s → ∀ (cs : List Value) (y : DataW H × List MemPlace), DataW.trod enc Tryd.prog w base spare held n 27 cs = some y → ∃ d k, cs = ndC d ∧ Pt w d k := by
  intro s
  induction s with
  | zero =>
    intro n hn cs y h
    obtain rfl : n = 0 := by omega
    simp [DataW.trod] at h
  | succ s ih =>
  intro n hn cs y h
  obtain ⟨xs, m, hm, -, hl, hlen, hf⟩ := DataW.trod_struct Tryd.underlying27 h
  have kP : Tryd.prog.cellsOf 27 = 7 := by kernel_rfl
  have k1 : Tryd.prog.cellsOf 3 = 1 := by kernel_rfl
  have k2 : Tryd.prog.cellsOf 24 = 2 := by kernel_rfl
  have k3 : Tryd.prog.cellsOf 4 = 1 := by kernel_rfl
  have k4 : Tryd.prog.cellsOf 25 = 1 := by kernel_rfl
  have k5 : Tryd.prog.cellsOf 22 = 1 := by kernel_rfl
  rw [kP] at hl
  match cs, hl with
  | [c0, c1, c2, c3, c4, c5, c6], _ =>
  match xs, hlen with
  | [y0, y1, y2, y3, y4, y5], _ =>
  have f0 : DataW.trod enc Tryd.prog w base spare held m 3 [c0] = some y0 := by
    have h1 : DataW.trod enc Tryd.prog w base spare held m 3 (List.take (Tryd.prog.cellsOf 3) (List.drop 0 [c0, c1, c2, c3, c4, c5, c6])) = some y0 := hf 0 _ rfl
    rw [k1] at h1
    exact h1
  have f1 : DataW.trod enc Tryd.prog w base spare held m 24 [c1, c2] = some y1 := by
    have h1 : DataW.trod enc Tryd.prog w base spare held m 24 (List.take (Tryd.prog.cellsOf 24) (List.drop 1 [c0, c1, c2, c3, c4, c5, c6])) = some y1 := hf 1 _ rfl
    rw [k2] at h1
    exact h1
  have f2 : DataW.trod enc Tryd.prog w base spare held m 4 [c3] = some y2 := by
    have h1 : DataW.trod enc Tryd.prog w base spare held m 4 (List.take (Tryd.prog.cellsOf 4) (List.drop 3 [c0, c1, c2, c3, c4, c5, c6])) = some y2 := hf 2 _ rfl
    rw [k3] at h1
    exact h1
  have f3 : DataW.trod enc Tryd.prog w base spare held m 3 [c4] = some y3 := by
    have h1 : DataW.trod enc Tryd.prog w base spare held m 3 (List.take (Tryd.prog.cellsOf 3) (List.drop 4 [c0, c1, c2, c3, c4, c5, c6])) = some y3 := hf 3 _ rfl
    rw [k1] at h1
    exact h1
  have f4 : DataW.trod enc Tryd.prog w base spare held m 3 [c5] = some y4 := by
    have h1 : DataW.trod enc Tryd.prog w base spare held m 3 (List.take (Tryd.prog.cellsOf 3) (List.drop 5 [c0, c1, c2, c3, c4, c5, c6])) = some y4 := hf 4 _ rfl
    rw [k1] at h1
    exact h1
  have f5 : DataW.trod enc Tryd.prog w base spare held m 25 [c6] = some y5 := by
    have h1 : DataW.trod enc Tryd.prog w base spare held m 25 (List.take (Tryd.prog.cellsOf 25) (List.drop 6 [c0, c1, c2, c3, c4, c5, c6])) = some y5 := hf 5 _ rfl
    rw [k4] at h1
    exact h1
  obtain ⟨z0, e0, _, _⟩ := DataW.trod_int Tryd.underlying3 f0
  obtain ⟨u0, u1, m1, _, _, t0', t1'⟩ := trod_struct2 Tryd.underlying24 f1
  have t0 : DataW.trod enc Tryd.prog w base spare held m1 22 [c1] = some u0 := by
    have h1 : DataW.trod enc Tryd.prog w base spare held m1 22 (List.take (Tryd.prog.cellsOf 22) [c1, c2]) = some u0 := t0'
    rw [k5] at h1
    exact h1
  have t1 : DataW.trod enc Tryd.prog w base spare held m1 22 [c2] = some u1 := by
    have h1 : DataW.trod enc Tryd.prog w base spare held m1 22 (List.take (Tryd.prog.cellsOf 22) [c2]) = some u1 := t1'
    rw [k5] at h1
    exact h1
  obtain ⟨a0, q0, _, w0⟩ := DataW.trod_int Tryd.underlying22 t0
  obtain ⟨a1, q1, _, w1⟩ := DataW.trod_int Tryd.underlying22 t1
  obtain ⟨x0, rfl⟩ := u32_bv w0
  obtain ⟨x1, rfl⟩ := u32_bv w1
  obtain ⟨b2, e2, _⟩ := DataW.trod_bool Tryd.underlying4 f2
  obtain ⟨z3, e3, _, _⟩ := DataW.trod_int Tryd.underlying3 f3
  obtain ⟨z4, e4, _, _⟩ := DataW.trod_int Tryd.underlying3 f4
  simp at e0 q0 q1 e2 e3 e4
  subst e0 q0 q1 e2 e3 e4
  rcases DataW.trod_slice Tryd.underlying25 f5 with ⟨e5, _⟩ | ⟨a, len, cap, elems, rest, n', hn', e5, _, _, hl', hm', hlen', hel, hre, _⟩
  · simp at e5
    subst e5
    exact ⟨⟨z0, (x0, x1), b2, z3, z4, .slice none 0 0⟩, .nil, rfl, .inl ⟨.inl rfl, rfl⟩⟩
  · simp at e5
    subst e5
    rw [kP] at hel hre
    obtain ⟨hrl, hrc⟩ := hre (hspare _)
    by_cases h00 : cap = 0
    · subst h00
      obtain rfl : len = 0 := by omega
      exact ⟨⟨z0, (x0, x1), b2, z3, z4, .slice (some a) 0 0⟩, .nil, rfl, .inl ⟨.inr ⟨a, rfl⟩, rfl⟩⟩
    · have each : ∀ i (x : DataW H × List MemPlace), (w.cells? base (a.add (i * 7)) 7).bind (DataW.trod enc Tryd.prog w base spare held n' 27) = some x → ∃ d k, (∀ j (hj : j < 7), w.cell? ((a.add (i * 7)).add j) = some ((ndC d)[j]'hj)) ∧ Pt w d k := fun i x hx => by
        rw [Option.bind_eq_some_iff] at hx
        obtain ⟨cs, hc, ht⟩ := hx
        obtain ⟨d, k, rfl, hp⟩ := ih n' (by omega) cs x ht
        exact ⟨d, k, fun j hj => (cells7 hc).2 j hj, hp⟩
      obtain ⟨ab, aoff, asp⟩ := a
      have hlive : ∃ o u, w.cell? ⟨ab, o, asp⟩ = some u := by
        by_cases h01 : len = 0
        · have h1 := hrc 0 (by omega)
          rw [List.getElem?_eq_getElem (by omega)] at h1
          obtain ⟨d, k, hc, -⟩ := each _ _ h1
          have := hc 0 (by omega)
          unfold Addr.add at this
          exact ⟨aoff, _, by simpa [h01] using this⟩
        · have h1 := hel 0 (by omega)
          rw [List.getElem?_eq_getElem (by omega)] at h1
          obtain ⟨d, k, hc, -⟩ := each _ _ h1
          have := hc 0 (by omega)
          unfold Addr.add at this
          exact ⟨aoff, _, by simpa using this⟩
      obtain ⟨_, _, c0⟩ := hlive
      obtain ⟨hbl, hsp⟩ := cell_live7 c0
      have hsp : asp = none := hsp
      have hbl : ab < w.heap.size := hbl
      subst hsp
      obtain ⟨F, hF, hq⟩ := fo_build (w := w) (b := ab) len aoff (fun i hi => by
        have h1 := hel i hi
        rw [List.getElem?_eq_getElem (by omega)] at h1
        obtain ⟨d, k, hc, hp⟩ := each _ _ h1
        refine ⟨d, k, fun j hj => ?_, hp⟩
        have := hc j hj
        rw [addr_add, addr_add] at this
        exact this)
      exact ⟨⟨z0, (x0, x1), b2, z3, z4, .slice (some ⟨ab, aoff, none⟩) len cap⟩, F, rfl, .inr ⟨ab, aoff, cap, by rw [hF], by omega, hm', hbl, hq⟩⟩
/-- How a pattern is read. -/
theorem open_pat {H : Type} {enc : TypeId × Value → H} {w : World} {base : Nat} {spare : Nat → Bool} {held : Bool} {r : Reach} {b0 : Nat} {v : Value} {d : DataW H} {p : List MemPlace} (hspare : ∀ b, spare b = true)
    (hv : Value.okWide Tryd.prog w r b0 27 v) (h : DataW.Trod enc Tryd.prog w base spare held 27 v d p) : ∃ (n : Nd) (k : Fo), v = ndV n ∧ Pt w n k := by
  obtain ⟨cs, rfl, hsz⟩ := okWide_struct Tryd.underlying27 hv
  obtain ⟨fuel, hf⟩ := h
  obtain ⟨n, k, e, hp⟩ := pat_read hspare fuel fuel (Nat.le_refl _) _ _ hf
  refine ⟨n, k, ?_, hp⟩
  unfold ndV
  have e2 : cs.toList = ndC n := e
  congr 1
  apply Array.toList_inj.1
  rw [e2]
  rfl
end Go.Proofs.YtmobilppakjihaaDoor

/-
  What the listed table gives.
-/
namespace Go.Proofs.YtmobilppakjihaaDoor
set_option maxRecDepth 100000
open Go.ChangeShapes Go.WideShapes Go.ChangeAt Go.RowKit Go.Joins
theorem gTab : Tryd.prog.globalNamed "math/bits.deBruijn64tab" = some 0 := by kernel_rfl
theorem gTabType : (Tryd.prog.globals[0]?).map (·.type) = some 117 := by kernel_rfl
theorem cellsTab : Tryd.prog.cellsOf 117 = 64 := by kernel_rfl
theorem cellsByte : Tryd.prog.cellsOf 5 = 1 := by kernel_rfl
/-- The table's numbers. -/
def tabZ : List Int := Lib.deBruijn64tab.map fun x => ((x : Nat) : Int)
theorem tab_nums : ∀ j, j < 64 → tabZ.getD j 0 = ((Lib.deBruijn64tab.getD j 0 : Nat) : Int) := by decide +kernel
/-- What the list of a row gives: the table's cells. -/
theorem tab_of {W : World} (h : laidMetH Tryd.prog [("math/bits.deBruijn64tab", Rows.laid_math_bits_deBruijn64tab)] W) : Tab64 W := by
  have t : Lib.TabIs Tryd.prog W "math/bits.deBruijn64tab" .u8 tabZ := Lib.tabIs_of_head (rest := []) gTab gTabType Tryd.underlying117 Tryd.underlying5 cellsByte cellsTab h
  intro j hj
  have := t.cell gTab j (by simpa [tabZ, Lib.deBruijn64tab] using hj)
  rw [this, tab_nums j hj]
theorem tab_lt {W : World} (h : Tab64 W) : 0 < W.heap.size := by
  have h0 := h 0 (by decide)
  refine Classical.byContradiction fun hn => ?_
  have e : W.heap[0]? = none := Array.getElem?_eq_none (by omega)
  simp [World.cell?, e] at h0
end Go.Proofs.YtmobilppakjihaaDoor
