/-
  Lemmas that the theorem of this claim rests on: 3 texts, one behind the other.
-/
import Derived.Test.YtmgikhldkebjbaaM1
import Derived.ChangeMaps5
import Derived.SliceStrings
import Derived.Test.YtmgikhldkebjbaaRows
import Derived.ProofKit
import Derived.OpenShut
import Derived.Deep.DeepHandedRow
import Derived.Lib.SmallJoins
import Derived.Carry
import Derived.JoinedCond
import Derived.Test.YtmgikhldkebjbaaM5

/-
  What every one of the laws asks: how texts and lists of texts are read, and what a law that returns true and turns nothing leaves.
-/
namespace Go.Proofs.Ytmgikhldkebjbaa
set_option maxRecDepth 100000
open Go.ChangeShapes Go.WideShapes Go.ChangeAt Go.RowKit Go.Joins
theorem ownK : ownKnob Try.prog.godebug = none := by kernel_rfl
theorem laidOutP : laidOutB Try.prog = true := by kernel_rfl
section
variable {H : Type} {enc : TypeId × Value → H} {P : Program}
theorem trodAll_below {W W' : World} {sp : Nat → Bool} (hl : laidOutB P = true) (hb : Below W.heap.size W W') : ∀ {ts : List TypeId} {vs : List Value} {ds : List (DataW H)} {p : List MemPlace},
    (∀ t ∈ ts, P.readableRec t = true ∧ t < P.types.size) → DataW.TrodAll enc P W 0 (fun _ => true) true ts vs ds p → (∀ x ∈ p, x.block < W.heap.size) → (∀ x ∈ p, sp x.block = true) → DataW.TrodAll enc P W' 0 sp true ts vs ds p
  | [], _, _, _, _, h, _, _ => by
    obtain ⟨rfl, rfl, rfl⟩ := trodAll_nil h
    exact trodAll_mk0
  | t :: ts, _, _, _, hr, h, hlt, hs => by
    obtain ⟨v, vs, d, ds, p, q, rfl, rfl, rfl, h1, h2⟩ := trodAll_cons h
    have hr1 := hr t (by simp)
    exact trodAll_cons_mk (WideElems.Trod_stays hl hr1.1 hr1.2 h1 (fun x hx => hb.same (hlt x (by simp [hx]))) (fun x hx => hs x (by simp [hx])))
      (trodAll_below hl hb (fun t ht => hr t (by simp [ht])) h2 (fun x hx => hlt x (by simp [hx])) (fun x hx => hs x (by simp [hx])))
/-- What a law that returns true and turns nothing leaves. -/
theorem post_law {f : Func} {s : ChangeSpec} {W W' : World} {args : Array Value} {ds gs : List (DataW H)} {before : List MemPlace} {tb : TypeId}
    (hrt : f.resultTypes = #[tb]) (htb : P.underlying tb = some .bool) (hsv : s.vars = []) (hl : laidOutB P = true) (hr : ∀ t ∈ f.params.toList, P.readableRec t = true ∧ t < P.types.size)
    (hW : DataW.Whole enc P f.params.toList s.vars false W args.toList ds gs before) (hfn : s.fn H (ds ++ gs) = { results := [.lit (.bool true)], args := ds }) (hb : Below W.heap.size W W') :
    s.post enc P f false true false false W args (.bool true) W' := by
  have hlt := hW.lt
  have hW0 := hW
  obtain ⟨p, q, hA, hV, hp, hfz, hn⟩ := hW
  rw [hsv] at hV
  obtain ⟨hgs, hq⟩ := trodVars_none hV
  subst hq
  rw [List.append_nil] at hp
  subst hp
  refine ⟨ds, gs, before, [], before, [], hW0, ?_, ?_, ?_, Below.frame hb _, fun h => by cases h⟩
  · rw [hfn, hrt]
    exact trodAll_cons_mk (shut_bool htb _) trodAll_mk0
  · rw [hfn]
    exact trodAll_below hl hb hr hA hlt (fun x hx => by simpa using hlt x hx)
  · rw [hsv, hfn]
    rfl
/-- A law's walk, for every argument: what the row asks. -/
theorem law_of_walk {f : Func} {s : ChangeSpec} {k : FuncId} {W : World} {args : Array Value} {ds gs : List (DataW H)} {before : List MemPlace} {tb : TypeId}
    (hrt : f.resultTypes = #[tb]) (htb : Try.prog.underlying tb = some .bool) (hsv : s.vars = []) (hr : ∀ t ∈ f.params.toList, Try.prog.readableRec t = true ∧ t < Try.prog.types.size)
    (hW : DataW.Whole enc Try.prog f.params.toList s.vars false W args.toList ds gs before) (hfn : s.fn H (ds ++ gs) = { results := [.lit (.bool true)], args := ds }) (walk : Gives k args W (.bool true)) :
    Calls Try.prog k args W fun e W' => ∃ v, e = .returned v ∧ s.post enc Try.prog f false true false false W args v W' :=
  Calls.mono walk fun e W' ⟨he, hb⟩ => ⟨_, he, post_law hrt htb hsv laidOutP hr hW hfn hb⟩
end
theorem u32_bv {n : Int} (h : (Lit.int .u32 n).wf = true) : ∃ x : BitVec 32, n = x.toNat := by
  have b := bounds_u32 h
  exact ⟨BitVec.ofNat 32 n.toNat, by simp; omega⟩
/-- How a sound is read. -/
theorem open_sound {H : Type} {enc : TypeId × Value → H} {w : World} {base : Nat} {spare : Nat → Bool} {held : Bool} {r : Reach} {b0 : Nat} {v : Value} {d : DataW H} {p : List MemPlace}
    (hv : Value.okWide Try.prog w r b0 39 v) (h : DataW.Trod enc Try.prog w base spare held 39 v d p) : ∃ x y : BitVec 32, v = sn x.toNat y.toNat := by
  obtain ⟨v0, v1, y0, y1, n, rfl, _, _, h0, h1⟩ := open_agg2 Try.underlying39 (by kernel_rfl) (by kernel_rfl) hv h
  obtain ⟨a, e0, _, w0⟩ := DataW.trod_int Try.underlying37 h0
  obtain ⟨b, e1, _, w1⟩ := DataW.trod_int Try.underlying37 h1
  obtain ⟨x, rfl⟩ := u32_bv w0
  obtain ⟨y, rfl⟩ := u32_bv w1
  simp only [List.cons.injEq, and_true] at e0 e1
  subst e0; subst e1
  exact ⟨x, y, rfl⟩
theorem open_byte {H : Type} {enc : TypeId × Value → H} {w : World} {base : Nat} {spare : Nat → Bool} {held : Bool} {r : Reach} {b0 : Nat} {v : Value} {d : DataW H} {p : List MemPlace}
    (hv : Value.okWide Try.prog w r b0 5 v) (h : DataW.Trod enc Try.prog w base spare held 5 v d p) : ∃ x : Nat, x ≤ 255 ∧ v = .int .u8 x := by
  obtain ⟨n, rfl, _, _, hw⟩ := open_int Try.underlying5 hv h
  have b := bounds_u8 hw
  exact ⟨n.toNat, by omega, by rw [show ((n.toNat : Nat) : Int) = n from by omega]⟩
theorem open_i64 {H : Type} {enc : TypeId × Value → H} {w : World} {base : Nat} {spare : Nat → Bool} {held : Bool} {r : Reach} {b0 : Nat} {v : Value} {d : DataW H} {p : List MemPlace}
    (hv : Value.okWide Try.prog w r b0 3 v) (h : DataW.Trod enc Try.prog w base spare held 3 v d p) : ∃ x : Int, v = .int .i64 x := by
  obtain ⟨n, rfl, _, _, hw⟩ := open_int Try.underlying3 hv h
  exact ⟨n, rfl⟩
/-- How a list of texts is read. -/
theorem open_strs {H : Type} {enc : TypeId × Value → H} {w : World} {base : Nat} {spare : Nat → Bool} {held : Bool} {r : Reach} {b0 : Nat} {v : Value} {d : DataW H} {p : List MemPlace}
    (hv : Value.okWide Try.prog w r b0 22 v) (h : DataW.Trod enc Try.prog w base spare held 22 v d p) : ∃ l : List ByteArray, Ss w v l ∧ ∀ x ∈ l, x.size ≤ maxLen := by
  obtain ⟨fuel, hf⟩ := h
  have hk : Try.prog.cellsOf 9 = 1 := by kernel_rfl
  rcases open_strings Try.underlying22 Try.underlying9 hk hf with ⟨hcs, _⟩ | ⟨a, len, cap, ss, hcs, _, hl, hm, hz, _, hcell, hsz⟩
  · obtain ⟨ao, ln, cp, rfl⟩ := okWide_slice Try.underlying22 hv
    simp [Value.cells] at hcs
    obtain ⟨rfl, rfl, rfl⟩ := hcs
    exact ⟨[], .inl ⟨rfl, rfl⟩, fun x hx => by cases hx⟩
  · obtain ⟨ao, ln, cp, rfl⟩ := okWide_slice Try.underlying22 hv
    simp [Value.cells] at hcs
    obtain ⟨rfl, rfl, rfl⟩ := hcs
    have hok : Cell.ok Try.prog w r b0 22 (.slice (some a) ln cp) := by
      simpa [Value.okWide, Cell.okWide, Try.underlying22] using hv
    have hhas : ln ≤ cp ∧ (cp : Int) ≤ IntKind.i64.max ∧ w.has Try.prog r b0 a 9 cp := by
      simpa [Cell.ok, Try.underlying22] using hok
    obtain ⟨_, hsp, row, cells, hsh, _⟩ := hhas.2.2
    obtain ⟨ab, aoff, asp⟩ := a
    simp only at hsp
    subst hsp
    have hblk : ab < w.heap.size := by
      unfold World.shape? at hsh
      simp only at hsh
      rcases Nat.lt_or_ge ab w.heap.size with h1 | h1
      · exact h1
      · rw [Array.getElem?_eq_none h1] at hsh; cases hsh
    have hln : ln ≤ ss.length := by rw [hz]; split <;> omega
    have htk : (ss.take ln).length = ln := by rw [List.length_take]; omega
    refine ⟨ss.take ln, .inr ⟨ab, aoff, cp, by rw [htk], by rw [htk]; exact hl, hm, hblk, fun i hi => ?_⟩, fun x hx => hsz x (List.mem_of_mem_take hx)⟩
    have hi2 : i < ss.length := by omega
    have := hcell i hi2
    rw [addr_addS, List.getD_eq_getElem?_getD, List.getElem?_eq_getElem hi2] at this
    rw [this]
    simp
end Go.Proofs.Ytmgikhldkebjbaa

/-
  What the bound on the arguments says of a text and of lists.
-/
namespace Go.Proofs.Ytmgikhldkebjbaa
open Go.ChangeShapes
theorem bulk_pos {H : Type} (d : DataW H) : 1 ≤ Rows.uptoBulk d := by
  rcases d with l | _ | _ | _ | _ | _ | _ | _
  · cases l <;> simp [Rows.uptoBulk]
  all_goals simp [Rows.uptoBulk]
theorem bulk_mem {H : Type} {d : DataW H} : ∀ {l : List (DataW H)}, d ∈ l → Rows.uptoBulk d ≤ Rows.uptoBulkAll l
  | x :: l, h => by
    simp only [Rows.uptoBulkAll]
    rcases List.mem_cons.1 h with rfl | h
    · omega
    · have := bulk_mem h; omega
theorem bulk_len {H : Type} : ∀ (l : List (DataW H)), l.length ≤ Rows.uptoBulkAll l
  | [] => Nat.zero_le _
  | x :: l => by
    have h1 := bulk_len l
    have h2 := bulk_pos x
    simp only [Rows.uptoBulkAll, List.length_cons]; omega
/-- A text among the arguments. -/
theorem bulk_text {H : Type} {ds : List (DataW H)} {d : DataW H} {t : ByteArray} (hk : Rows.uptoSmall H ds = true) (hm : d ∈ ds) (hd : d = .lit (.string t.data.toList)) : t.size ≤ 1048576 := by
  have h : Rows.uptoBulkAll ds ≤ 1048576 := of_decide_eq_true hk
  have h1 := bulk_mem hm
  subst hd
  have e : t.data.toList.length = t.size := by rw [Array.length_toList]; rfl
  simp only [Rows.uptoBulk] at h1
  omega
/-- A list among the arguments. -/
theorem bulk_list {H : Type} {ds : List (DataW H)} {es sp : List (DataW H)} (hk : Rows.uptoSmall H ds = true) (hm : DataW.slice es sp ∈ ds) : es.length ≤ 1048576 := by
  have h : Rows.uptoBulkAll ds ≤ 1048576 := of_decide_eq_true hk
  have h1 := bulk_mem hm
  have h2 := bulk_len es
  simp only [Rows.uptoBulk] at h1
  omega
end Go.Proofs.Ytmgikhldkebjbaa

/-
  How a list of steps is read.
-/
namespace Go.Proofs.Ytmgikhldkebjbaa
set_option maxRecDepth 100000
open Go.ChangeShapes Go.WideShapes Go.ChangeAt Go.RowKit Go.Joins
/-- The three cells of a step in memory. -/
theorem step_cells {H : Type} {enc : TypeId × Value → H} {w : World} {base n : Nat} {spare : Nat → Bool} {held : Bool} {a : Addr} {y : DataW H × List MemPlace}
    (h : (w.cells? base a 3).bind (DataW.trod enc Try.prog w base spare held n 41) = some y) : ∃ x : ByteArray × Snd, w.cell? a = some (.string x.1) ∧ w.cell? (a.add 1) = some (.int .u32 x.2.1.toNat) ∧ w.cell? (a.add 2) = some (.int .u32 x.2.2.toNat) ∧ x.1.size ≤ maxLen := by
  rw [Option.bind_eq_some_iff] at h
  obtain ⟨cs, hc, ht⟩ := h
  unfold World.cells? at hc
  split at hc
  · rw [show List.range 3 = [0, 1, 2] from rfl] at hc
    simp only [List.mapM_cons, List.mapM_nil, Option.bind_eq_bind, Option.pure_def, Option.bind_eq_some_iff, Option.some.injEq] at hc
    obtain ⟨c0, h0, l1, ⟨c1, h1, l2, ⟨c2, h2, l3, rfl, rfl⟩, rfl⟩, rfl⟩ := hc
    obtain ⟨y0, y1, m, _, _, t0, t1⟩ := trod_struct2 Try.underlying41 ht
    have k1 : Try.prog.cellsOf 9 = 1 := by kernel_rfl
    have k2 : Try.prog.cellsOf 39 = 2 := by kernel_rfl
    have k3 : Try.prog.cellsOf 37 = 1 := by kernel_rfl
    simp only [k1, k2, List.take_succ_cons, List.take_zero, List.drop_succ_cons, List.drop_zero] at t0 t1
    obtain ⟨s, e0, _, hs⟩ := DataW.trod_string Try.underlying9 t0
    obtain ⟨z0, z1, m2, _, _, u0, u1⟩ := trod_struct2 Try.underlying39 t1
    simp only [k3] at u0 u1
    obtain ⟨a0, f0, _, w0⟩ := DataW.trod_int Try.underlying37 u0
    obtain ⟨a1, f1, _, w1⟩ := DataW.trod_int Try.underlying37 u1
    obtain ⟨x0, rfl⟩ := u32_bv w0
    obtain ⟨x1, rfl⟩ := u32_bv w1
    simp at e0 f0 f1
    subst e0; subst f0; subst f1
    refine ⟨(s, (x0, x1)), ?_, h1, h2, hs⟩
    simpa [Addr.add] using h0
  · cases hc
/-- How a list of steps is read: by its slice and its cells. -/
theorem open_steps {H : Type} {enc : TypeId × Value → H} {w : World} {base : Nat} {spare : Nat → Bool} {held : Bool} {r : Reach} {b0 : Nat} {v : Value} {d : DataW H} {p : List MemPlace}
    (hv : Value.okWide Try.prog w r b0 36 v) (h : DataW.Trod enc Try.prog w base spare held 36 v d p) : ∃ l : List (ByteArray × Snd), Sp w v l ∧ ∀ x ∈ l, x.1.size ≤ maxLen := by
  obtain ⟨fuel, hf⟩ := h
  have hk : Try.prog.cellsOf 41 = 3 := by kernel_rfl
  rcases DataW.trod_slice Try.underlying36 hf with ⟨h0, _⟩ | ⟨a, len, cap, elems, rest, n, _, hcs, _, _, hl, hm, hlen, hel, _, _⟩
  · simp [Value.cells] at h0
    obtain ⟨ao, ln, cp, rfl⟩ := okWide_slice Try.underlying36 hv
    simp at h0
    obtain ⟨rfl, rfl, rfl⟩ := h0
    exact ⟨[], .inl ⟨rfl, rfl⟩, fun x hx => by cases hx⟩
  · obtain ⟨ao, ln, cp, rfl⟩ := okWide_slice Try.underlying36 hv
    simp [Value.cells] at hcs
    obtain ⟨rfl, rfl, rfl⟩ := hcs
    have hok : Cell.ok Try.prog w r b0 36 (.slice (some a) ln cp) := by
      simpa [Value.okWide, Cell.okWide, Try.underlying36] using hv
    have hhas : ln ≤ cp ∧ (cp : Int) ≤ IntKind.i64.max ∧ w.has Try.prog r b0 a 41 cp := by
      simpa [Cell.ok, Try.underlying36] using hok
    obtain ⟨_, hsp, row, cells, hsh, _⟩ := hhas.2.2
    obtain ⟨ab, aoff, asp⟩ := a
    simp only at hsp
    subst hsp
    have hblk : ab < w.heap.size := by
      unfold World.shape? at hsh
      simp only at hsh
      rcases Nat.lt_or_ge ab w.heap.size with h1 | h1
      · exact h1
      · rw [Array.getElem?_eq_none h1] at hsh; cases hsh
    have each : ∀ i, i < ln → ∃ x : ByteArray × Snd, w.cell? ⟨ab, aoff + i * 3, none⟩ = some (.string x.1) ∧ w.cell? ⟨ab, aoff + i * 3 + 1, none⟩ = some (.int .u32 x.2.1.toNat) ∧ w.cell? ⟨ab, aoff + i * 3 + 2, none⟩ = some (.int .u32 x.2.2.toNat) ∧ x.1.size ≤ maxLen := fun i hi => by
      have h1 := hel i hi
      rw [hk, List.getElem?_eq_getElem (by omega)] at h1
      obtain ⟨x, c0, c1, c2, hs⟩ := step_cells h1
      refine ⟨x, ?_, ?_, ?_, hs⟩
      · rw [addr_addS] at c0; exact c0
      · rw [addr_addS, addr_addS] at c1; exact c1
      · rw [addr_addS, addr_addS] at c2; exact c2
    obtain ⟨f, hf2⟩ : ∃ f : Nat → ByteArray × Snd, ∀ i, i < ln → w.cell? ⟨ab, aoff + i * 3, none⟩ = some (.string (f i).1) ∧ w.cell? ⟨ab, aoff + i * 3 + 1, none⟩ = some (.int .u32 (f i).2.1.toNat) ∧ w.cell? ⟨ab, aoff + i * 3 + 2, none⟩ = some (.int .u32 (f i).2.2.toNat) ∧ (f i).1.size ≤ maxLen :=
      ⟨fun i => if h : i < ln then Classical.choose (each i h) else (⟨#[]⟩, (0#32, 0#32)), fun i hi => by simp only [dif_pos hi]; exact Classical.choose_spec (each i hi)⟩
    refine ⟨(List.range ln).map f, .inr ⟨ab, aoff, cp, by simp, by simpa using hl, hm, hblk, fun i hi => ?_⟩, fun x hx => ?_⟩
    · have hi' : i < ln := by simpa using hi
      have := hf2 i hi'
      simp only [List.getElem_map, List.getElem_range]
      exact ⟨this.1, this.2.1, this.2.2.1⟩
    · obtain ⟨i, hi, rfl⟩ := List.mem_map.1 hx
      exact (hf2 i (by simpa using hi)).2.2.2
end Go.Proofs.Ytmgikhldkebjbaa
