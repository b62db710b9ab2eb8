/-
  The state of an inventory, and what its look-ups return.
-/
import Derived.Test.YtmgikhldkebjbaaIf
import Derived.Test.YtmgikhldkebjbaaIg
import Derived.LaidEqlPtr
namespace Go.Proofs.Ytmgikhldkebjbaa
open Go.RowKit Go.Sort
def flatN : List (ByteArray × Snd) → List Value
  | [] => []
  | x :: l => .string x.1 :: .int .u32 x.2.1.toNat :: .int .u32 x.2.2.toNat :: flatN l
theorem flatN_length : ∀ l, (flatN l).length = l.length * 3
  | [] => rfl
  | x :: l => by simp only [flatN, List.length_cons, flatN_length l]; omega
/-- The sounds of a list with their symbols, in a row of the call's own. -/
def OwnN (w : World) (base : Nat) (v : Value) (a : List (ByteArray × Snd)) : Prop := w.ownsRow base 47 3 v a.length (flatN a)
theorem OwnN.below {w w' : World} {base : Nat} {v : Value} {l : List (ByteArray × Snd)} (h : OwnN w base v l) (hb : Below w.heap.size w w') : OwnN w' base v l := by
  obtain ⟨hl, h0 | ⟨g, cap, cur, hv, hg, hh, hr⟩⟩ := h
  · exact ⟨hl, .inl h0⟩
  · exact ⟨hl, .inr ⟨g, cap, cur, hv, hg, (hb.block g (Array.getElem?_eq_some_iff.1 hh).1).trans hh, hr⟩⟩
theorem OwnN.slice {w : World} {base : Nat} {v : Value} {l : List (ByteArray × Snd)} (h : OwnN w base v l) : ∃ ao cap, v = .slice ao l.length cap := by
  obtain ⟨hl, ⟨rfl, h0⟩ | ⟨g, cap, cur, rfl, _⟩⟩ := h
  · exact ⟨none, 0, by rw [h0]⟩
  · exact ⟨_, cap, rfl⟩
/-- An inventory with these features, and these sounds. -/
structure Inv (w : World) (base B : Nat) (l : List ByteArray) (a : List (ByteArray × Snd)) (nv av : Value) (bf bs by_ : Nat) : Prop where
  blk : w.heap[B]? = some (.cells #[.pointer (some ⟨B, 0, none⟩), nv, .map (some bf), av, .map (some bs), .map (some by_)] 59 (0, 0))
  names : OwnS w base nv l
  feats : SMap w bf (numT l l.length)
  added : OwnN w base av a
  sounds : SMap w bs (a.map fun x => (x.1, snv x.2))
  symbols : YMap w by_ (a.map fun x => (x.2, Value.string x.1))
  hB : base ≤ B
  hf : base ≤ bf
  hs : base ≤ bs
  hy : base ≤ by_
  n1 : bf ≠ bs
  n2 : bs ≠ by_
  n3 : bf ≠ by_
theorem InvNew.inv {w : World} {base B : Nat} {l : List ByteArray} (h : InvNew w base B l) : ∃ nv bf bs by_, Inv w base B l [] nv (.slice none 0 0) bf bs by_ := by
  obtain ⟨nv, bf, bs, by_, h1, h2, h3, h4, h5, h6, h7, h8, h9, h10, h11, h12⟩ := h
  exact ⟨nv, bf, bs, by_, ⟨h1, h2, h3, ⟨rfl, .inl ⟨rfl, rfl⟩⟩, h4, ⟨#[], 0, h5, rfl⟩, h9, h6, h7, h8, h10, h11, h12⟩⟩
theorem Inv.below {w w' : World} {base B : Nat} {l : List ByteArray} {a : List (ByteArray × Snd)} {nv av : Value} {bf bs by_ : Nat} (h : Inv w base B l a nv av bf bs by_) (hb : Below w.heap.size w w') : Inv w' base B l a nv av bf bs by_ :=
  ⟨(hb.block B (Array.getElem?_eq_some_iff.1 h.blk).1).trans h.blk, h.names.below hb, h.feats.below hb, h.added.below hb, h.sounds.below hb, h.symbols.below hb, h.hB, h.hf, h.hs, h.hy, h.n1, h.n2, h.n3⟩
theorem Inv.lt {w : World} {base B : Nat} {l : List ByteArray} {a : List (ByteArray × Snd)} {nv av : Value} {bf bs by_ : Nat} (h : Inv w base B l a nv av bf bs by_) : B < w.heap.size := (Array.getElem?_eq_some_iff.1 h.blk).1
theorem Inv.cells {w : World} {base B : Nat} {l : List ByteArray} {a : List (ByteArray × Snd)} {nv av : Value} {bf bs by_ : Nat} (h : Inv w base B l a nv av bf bs by_) :
    w.cell? ⟨B, 0, none⟩ = some (.pointer (some ⟨B, 0, none⟩)) ∧ w.cell? ⟨B, 1, none⟩ = some nv ∧ w.cell? ⟨B, 2, none⟩ = some (.map (some bf)) ∧ w.cell? ⟨B, 3, none⟩ = some av ∧ w.cell? ⟨B, 4, none⟩ = some (.map (some bs)) ∧ w.cell? ⟨B, 5, none⟩ = some (.map (some by_)) :=
  ⟨cell_block h.blk rfl, cell_block h.blk rfl, cell_block h.blk rfl, cell_block h.blk rfl, cell_block h.blk rfl, cell_block h.blk rfl⟩
theorem infoInv : (Try.prog.info? 59).isSome = true := by kernel_rfl
set_option maxRecDepth 100000 in
theorem valid_yes (B : Nat) (w : World) (h : w.cell? ⟨B, 0, none⟩ = some (.pointer (some ⟨B, 0, none⟩))) : Gives 44 #[.pointer (some ⟨B, 0, none⟩)] w (.bool true) := by
  unfold Gives
  obtain ⟨j, hj⟩ := Option.isSome_iff_exists.1 infoInv
  have heq := fun (a : Addr) (w : World) => run_eql_ptr_same (P := Try.prog) (w := w) (j := j) a Try.underlying26 hj
  go_enter Try.func44, Try.ntmps44
  go_wp2
  go_returns
  exact ⟨rfl, Below.refl _ _⟩
theorem valid_nil (w : World) : Gives 44 #[.pointer none] w (.bool false) := by
  unfold Gives
  go_enter Try.func44, Try.ntmps44
  go_wp2
  go_returns
  exact ⟨rfl, Below.refl _ _⟩
theorem eql_nil_left {P : Program} {tp te : TypeId} (a : Addr) (w : World) (hp : P.underlying tp = some (.pointer te)) : (binOp .eql tp (.pointer none) (.pointer (some a))).run P w = .ok (.bool false) w := by
  have h : ∀ d : Nat, (Op.equalIn (d + 1) tp (.pointer none) (.pointer (some a))).run P w = .ok false w := fun d => by
    simp [Op.equalIn, run_underlying hp]
  simp only [binOp]
  simp [Op.equal, Op.maxDepth, h 9999]
set_option maxRecDepth 100000 in
theorem valid_zero (B : Nat) (w : World) (h : w.cell? ⟨B, 0, none⟩ = some (.pointer none)) : Gives 44 #[.pointer (some ⟨B, 0, none⟩)] w (.bool false) := by
  unfold Gives
  have heq := fun (a : Addr) (w : World) => eql_nil_left (P := Try.prog) a w Try.underlying26
  go_enter Try.func44, Try.ntmps44
  go_wp2
  go_returns
  exact ⟨rfl, Below.refl _ _⟩
theorem wpList_lookup_s {P : Program} {ops : Array Oper} {rest : List Oper} {o : Oper} {a : Act} {w : World} {Q : Exit → Act → World → Prop} (hg : o.guard = none) (m x : Operand) (t : TypeId) (hop : o.op = Op.lookup t m x true) {K E : TypeId} (hT : P.underlying t = some (.map K E)) (hK : P.underlying K = some .string) {z : Value} (hz : ∀ w, (zeroValue E).run P w = .ok z w)
    (b : Nat) (l : List (ByteArray × Value)) (k : ByteArray) (u : Value) (q : Bool) (hm : a.eval m = .map (some b)) (hx : a.eval x = .string k) (h : SMap w b l) (hu : ((fnd k l 0).map (·.2)).getD z = u) (hq : (fnd k l 0).isSome = q)
    (hk : wpList P ops Q rest (a.put o.dst (.tuple #[u, .bool q])) w) : wpList P ops Q (o :: rest) a w := by
  refine wpList_plain hg fun K' hK' => ?_
  have hrun := run_lookup_s hT hK hz h k
  rw [hu, hq] at hrun
  unfold Oper.wp
  simp [execOp, hop, hm, hx, hrun, Result.andThen]
  exact hK' _ _ hk
/-- The number of a name. -/
def featN (l : List ByteArray) (k : ByteArray) : Value := ((fnd k (numT l l.length) 0).map (·.2)).getD (.int .i64 0)
def featB (l : List ByteArray) (k : ByteArray) : Bool := (fnd k (numT l l.length) 0).isSome
theorem feat_any {w : World} {base B : Nat} {l : List ByteArray} {a : List (ByteArray × Snd)} {nv av : Value} {bf bs by_ : Nat} (h : Inv w base B l a nv av bf bs by_) (k : ByteArray) : Gives 18 #[.pointer (some ⟨B, 0, none⟩), .string k] w (.tuple #[featN l k, .bool (featB l k)]) := by
  unfold Gives
  have HI := Lib.hid h
  have hw := Below.refl w.heap.size w
  clear h
  go_enter Try.func18, Try.ntmps18
  go_wp2_with fail
  go_at_call 44
  refine Gives.then (valid_yes B w HI.out.cells.1) ?_
  intro w1 hb
  have HI1 := Lib.hid (HI.out.below hb)
  have hw1 := hw.trans (hb.mono hw.size)
  have q2 := HI1.out.cells.2.2.1
  clear hb hw HI
  go_wp2_with (at_lookup; refine wpList_lookup_s rfl (.tmp 15) (.tmp 16) 55 rfl Try.underlying55 Try.underlying9 (z := .int .i64 0) (fun _ => by kernel_rfl) bf (numT l l.length) k (featN l k) (featB l k) rfl rfl HI1.out.feats rfl rfl ?_)
  go_ret2
  exact ⟨rfl, hw1⟩
theorem len_any {w : World} {base B : Nat} {l : List ByteArray} {a : List (ByteArray × Snd)} {nv av : Value} {bf bs by_ : Nat} (h : Inv w base B l a nv av bf bs by_) : Gives 22 #[.pointer (some ⟨B, 0, none⟩)] w (.int .i64 (a.length : Int)) := by
  unfold Gives
  obtain ⟨ao, ac, rfl⟩ := h.added.slice
  have HI := Lib.hid h
  have hw := Below.refl w.heap.size w
  clear h
  go_enter Try.func22, Try.ntmps22
  go_wp2_with fail
  go_at_call 44
  refine Gives.then (valid_yes B w HI.out.cells.1) ?_
  intro w1 hb
  have HI1 := Lib.hid (HI.out.below hb)
  have hw1 := hw.trans (hb.mono hw.size)
  have q3 := HI1.out.cells.2.2.2.1
  clear hb hw HI
  go_wp2_with fail
  go_returns
  exact ⟨rfl, hw1⟩
end Go.Proofs.Ytmgikhldkebjbaa
