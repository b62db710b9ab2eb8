/-
  Lemmas that the theorem of this claim rests on: 6 texts, one behind the other.
-/
import Derived.Test.YtpnmapfabjdfjaaDoorM3
import Derived.Lib.BitFns
import Derived.Deep.RegionHeld3
set_option linter.unusedSimpArgs false
set_option linter.unusedVariables false

/-
  math/bits.OnesCount32.
-/
namespace Go.Proofs.YtpnmapfabjdfjaaDoor
open Go.RowKit Go.Sort
theorem pop_fold (X : Array UInt8) (h : ByteArray.mk X = Lib.pop8tab) : ByteArray.mk X = Lib.pop8tab := h
theorem and255 (y : Nat) (h : y < 4294967296) : bits .and .u32 (y : Int) 255 = (y : Int) % 256 := by
  have e : ((255 : Nat) : Int) = 255 := rfl
  have e2 : (255 : Nat) % 2 ^ 32 = 2 ^ 8 - 1 := by decide
  rw [bv_and, ← e, BitVec.ofInt_natCast, BitVec.ofInt_natCast, BitVec.toNat_and, BitVec.toNat_ofNat, BitVec.toNat_ofNat, Nat.mod_eq_of_lt (show y < 2 ^ 32 from h), e2, Nat.and_two_pow_sub_one_eq_mod]
  omega
/-- How many bits a number of 32 bits has, byte by byte. -/
def ones (x : Nat) : Nat := Lib.onesCount (x / 16777216) + Lib.onesCount (x / 65536 % 256) + Lib.onesCount (x / 256 % 256) + Lib.onesCount (x % 256)
theorem pop_nat (y : Nat) (h : y < 256) : Lib.pop8 (y : Int) = (Lib.onesCount y : Int) ∧ Lib.onesCount y ≤ 8 := ⟨Lib.pop8_eq ⟨y, h⟩, Lib.onesCount_le8 ⟨y, h⟩⟩
set_option maxRecDepth 100000 in
set_option maxHeartbeats 4000000 in
theorem ones_any (x : Nat) (hx : x < 4294967296) (w : World) : Gives 60 #[.int .u32 (x : Int)] w (.int .i64 (ones x : Int)) := by
  unfold Gives
  have a0 := and255 x hx
  have a1 := and255 (x / 256) (by omega)
  have a2 := and255 (x / 65536) (by omega)
  rw [Int.natCast_ediv] at a1 a2
  have c1 : ((256 : Nat) : Int) = 256 := rfl
  have c2 : ((65536 : Nat) : Int) = 65536 := rfl
  rw [c1] at a1
  rw [c2] at a2
  have b1 : (0 : Int) ≤ (x : Int) / 16777216 := by omega
  have b2 : (x : Int) / 16777216 ≤ 255 := by omega
  obtain ⟨p3, h3⟩ := pop_nat (x / 16777216) (by omega)
  obtain ⟨p2, h2⟩ := pop_nat (x / 65536 % 256) (by omega)
  obtain ⟨p1, h1⟩ := pop_nat (x / 256 % 256) (by omega)
  obtain ⟨p0, h0⟩ := pop_nat (x % 256) (by omega)
  have e3 : ((x / 16777216 : Nat) : Int) = (x : Int) / 16777216 := by omega
  have e2 : ((x / 65536 % 256 : Nat) : Int) = (x : Int) / 65536 % 256 := by omega
  have e1 : ((x / 256 % 256 : Nat) : Int) = (x : Int) / 256 % 256 := by omega
  have e0 : ((x % 256 : Nat) : Int) = (x : Int) % 256 := by omega
  rw [e3] at p3
  rw [e2] at p2
  rw [e1] at p1
  rw [e0] at p0
  have hones : ones x = Lib.onesCount (x / 16777216) + Lib.onesCount (x / 65536 % 256) + Lib.onesCount (x / 256 % 256) + Lib.onesCount (x % 256) := rfl
  generalize Lib.onesCount (x / 16777216) = n3 at *
  generalize Lib.onesCount (x / 65536 % 256) = n2 at *
  generalize Lib.onesCount (x / 256 % 256) = n1 at *
  generalize Lib.onesCount (x % 256) = n0 at *
  have w1 : ((n3 : Int) + (n2 : Int)) % 256 = (n3 : Int) + (n2 : Int) := by omega
  have w2 : ((n3 : Int) + (n2 : Int) + (n1 : Int)) % 256 = (n3 : Int) + (n2 : Int) + (n1 : Int) := by omega
  have w3 : ((n3 : Int) + (n2 : Int) + (n1 : Int) + (n0 : Int)) % 256 = (n3 : Int) + (n2 : Int) + (n1 : Int) + (n0 : Int) := by omega
  have HO := Lib.hid hones
  clear e0 e1 e2 e3 c1 c2 hones
  go_enter Tryd.func60, Tryd.ntmps60
  go_wp2_with fail
  rw [pop_fold]
  rotate_left
  · decide +kernel
  go_region
  go_wp2_with fail
  go_returns
  refine ⟨?_, by go_grown⟩
  rw [HO.out]
  first | rfl | simp
end Go.Proofs.YtpnmapfabjdfjaaDoor

/-
  Pairs of package natural: rows of pairs.
-/
namespace Go.Proofs.YtpnmapfabjdfjaaDoor
open Go.RowKit Go.Sort
def flatP : List (Nat × Nat) → List Value
  | [] => []
  | x :: l => .int .i64 (x.1 : Int) :: .int .i64 (x.2 : Int) :: flatP l
theorem flatP_length : ∀ l, (flatP l).length = l.length * 2
  | [] => rfl
  | x :: l => by simp only [flatP, List.length_cons, flatP_length l]; omega
theorem flatP_append : ∀ a b, flatP (a ++ b) = flatP a ++ flatP b
  | [], _ => rfl
  | x :: l, b => by simp only [List.cons_append, flatP, flatP_append l b]
theorem flatP_get0 : ∀ (l : List (Nat × Nat)) (i : Nat) (h : i < l.length), (flatP l)[i * 2]? = some (.int .i64 (l[i].1 : Int))
  | s :: l, 0, _ => by simp [flatP]
  | s :: l, i + 1, h => by
    have := flatP_get0 l i (by simpa using h)
    rw [show (i + 1) * 2 = i * 2 + 1 + 1 from by omega]
    simpa [flatP] using this
theorem flatP_get1 : ∀ (l : List (Nat × Nat)) (i : Nat) (h : i < l.length), (flatP l)[i * 2 + 1]? = some (.int .i64 (l[i].2 : Int))
  | s :: l, 0, _ => by simp [flatP]
  | s :: l, i + 1, h => by
    have := flatP_get1 l i (by simpa using h)
    rw [show (i + 1) * 2 + 1 = i * 2 + 1 + 1 + 1 from by omega]
    simpa [flatP] using this
/-- A row of pairs of indexes that the call has made. -/
def OwnP (w : World) (base : Nat) (v : Value) (xs : List (Nat × Nat)) : Prop := w.ownsRow base 44 2 v xs.length (flatP xs)
/-- A slice that reads as a list of pairs. -/
def Ps (w : World) (v : Value) (xs : List (Nat × Nat)) : Prop :=
  (v = .slice none 0 0 ∧ xs = []) ∨ ∃ b cap, v = .slice (some ⟨b, 0, none⟩) xs.length cap ∧ xs.length ≤ cap ∧ cap ≤ maxLen ∧ b < w.heap.size ∧ ∀ i (h : i < xs.length), w.cell? ⟨b, i * 2, none⟩ = some (.int .i64 (xs[i].1 : Int)) ∧ w.cell? ⟨b, i * 2 + 1, none⟩ = some (.int .i64 (xs[i].2 : Int))
theorem Ps.below {w w' : World} {v : Value} {xs : List (Nat × Nat)} (h : Ps w v xs) (hb : Below w.heap.size w w') : Ps w' v xs := by
  rcases h with h | ⟨b, cap, h1, hc, hm, h2, h3⟩
  · exact .inl h
  · exact .inr ⟨b, cap, h1, hc, hm, by have := hb.size; omega, fun i hi => ⟨(hb.cell (p := ⟨b, _, none⟩) h2).trans (h3 i hi).1, (hb.cell (p := ⟨b, _, none⟩) h2).trans (h3 i hi).2⟩⟩
theorem Ps.open {w : World} {v : Value} {xs : List (Nat × Nat)} (h : Ps w v xs) : ∃ ao cap, v = .slice ao xs.length cap ∧ xs.length ≤ cap ∧ cap ≤ maxLen ∧ ∀ i (h : i < xs.length), ∃ b, ao = some ⟨b, 0, none⟩ ∧ b < w.heap.size ∧ w.cell? ⟨b, i * 2, none⟩ = some (.int .i64 (xs[i].1 : Int)) ∧ w.cell? ⟨b, i * 2 + 1, none⟩ = some (.int .i64 (xs[i].2 : Int)) := by
  rcases h with ⟨rfl, rfl⟩ | ⟨b, cap, rfl, hc, hm, h2, h3⟩
  · exact ⟨none, 0, rfl, by simp, by simp, fun i hi => by simp at hi⟩
  · exact ⟨_, cap, rfl, hc, hm, fun i hi => ⟨b, rfl, h2, h3 i hi⟩⟩
theorem OwnP.nil (w : World) (base : Nat) : OwnP w base (.slice none 0 0) [] := ⟨rfl, .inl ⟨rfl, rfl⟩⟩
theorem OwnP.below {w w' : World} {base : Nat} {v : Value} {xs : List (Nat × Nat)} (h : OwnP w base v xs) (hb : Below w.heap.size w w') : OwnP w' base v xs := by
  obtain ⟨hl, h0 | ⟨g, cap, cur, hv, hg, hh, hr⟩⟩ := h
  · exact ⟨hl, .inl h0⟩
  · exact ⟨hl, .inr ⟨g, cap, cur, hv, hg, (hb.block g (Array.getElem?_eq_some_iff.1 hh).1).trans hh, hr⟩⟩
theorem OwnP.ps {w : World} {base : Nat} {v : Value} {xs : List (Nat × Nat)} (h : OwnP w base v xs) : Ps w v xs := by
  obtain ⟨hl, ⟨rfl, h0⟩ | ⟨g, cap, cur, rfl, hg, hh, hn, hm, hs, ht⟩⟩ := h
  · exact .inl ⟨rfl, List.eq_nil_of_length_eq_zero h0⟩
  · refine .inr ⟨g, cap, rfl, hn, hm, (Array.getElem?_eq_some_iff.1 hh).1, fun i hi => ⟨cell_block hh ?_, cell_block hh ?_⟩⟩
    · rw [← flatP_get0 xs i hi, ← ht, List.getElem?_take_of_lt (by omega), Array.getElem?_toList]
    · rw [← flatP_get1 xs i hi, ← ht, List.getElem?_take_of_lt (by omega), Array.getElem?_toList]
theorem OwnP.slice {w : World} {base : Nat} {v : Value} {xs : List (Nat × Nat)} (h : OwnP w base v xs) : ∃ ao cap, v = .slice ao xs.length cap := by
  obtain ⟨hl, ⟨rfl, h0⟩ | ⟨g, cap, cur, rfl, _⟩⟩ := h
  · exact ⟨none, 0, by rw [h0]⟩
  · exact ⟨_, cap, rfl⟩
theorem own_row {w : World} {base n : Nat} {e : TypeId} {size : Nat} {v : Value} {xs : List Value} (h : w.ownsRow base e size v n xs) (k : Nat) (hk : v.ownBlock = some k) : base ≤ k := by
  obtain ⟨_, ⟨rfl, _⟩ | ⟨g, cap, cur, rfl, hg, _⟩⟩ := h
  · simp [Value.ownBlock] at hk
  · simp only [Value.ownBlock, Option.some.injEq] at hk
    subst hk
    exact hg
theorem own_far {w : World} {base b n : Nat} {e : TypeId} {size : Nat} {v : Value} {xs : List Value} {o : Obj} (h : w.ownsRow base e size v n xs) (hb : w.heap[b]? = some o) (hne : ∀ cs fz, o ≠ .cells cs e fz) : v.ownBlock ≠ some b := by
  obtain ⟨_, ⟨rfl, _⟩ | ⟨g, cap, cur, rfl, _, hh, _⟩⟩ := h
  · simp [Value.ownBlock]
  · intro he
    simp only [Value.ownBlock, Option.some.injEq] at he
    subst he
    rw [hb] at hh
    exact hne _ _ (Option.some.inj hh)
theorem infoPair : (Tryd.prog.info? 44).map (fun i => (i.zero, i.size, i.bytes)) = some (some (.agg #[.int .i64 0, .int .i64 0]), 2, 16) := by kernel_rfl
theorem wpList_appP {ops : Array Oper} {rest : List Oper} {o : Oper} {a : Act} {w : World} {Q : Exit → Act → World → Prop} (hgd : o.guard = none) (s x : Operand)
    (ho : o.op = .call { callee := .builtin .append, args := #[s, x], argTypes := #[41, 41] })
    (base D : Nat) (v : Value) (xs : List (Nat × Nat)) (z : Nat × Nat) (hs : a.eval s = v) (hx : a.eval x = .slice (some ⟨D, 0, none⟩) 1 1) (hc : w.heap[D]? = some (.cells #[.int .i64 (z.1 : Int), .int .i64 (z.2 : Int)] 44 (0, 0))) (hown : OwnP w base v xs) (hlen : xs.length + 1 ≤ 1000000000) (hbase : base ≤ w.heap.size)
    (h : ∀ v' w', OwnP w' base v' (xs ++ [z]) → w.grownBy w' v.ownBlock → wpList Tryd.prog ops Q rest (a.put o.dst v') w') : wpList Tryd.prog ops Q (o :: rest) a w := by
  obtain ⟨i, hi, hz, hs1, hb1⟩ := info_parts infoPair
  refine wpList_append_own w hgd s x 41 ho base _ i _ 2 16 Tryd.underlying41 hi hz hs1 hb1 rfl (by decide) v xs.length (flatP xs) hs hown ⟨D, 0, none⟩ 1 1 [.int .i64 (z.1 : Int), .int .i64 (z.2 : Int)] hx (by simp) ?_ ?_ (Nat.le_trans hlen (by decide)) (by omega) hbase ?_
  · intro j y hy
    obtain ⟨hj, rfl⟩ := List.getElem?_eq_some_iff.1 hy
    match j, hj with
    | 0, _ => exact cell_block hc rfl
    | 1, _ => exact cell_block hc rfl
  · intro y hy
    simp only [List.mem_cons, List.not_mem_nil, or_false] at hy
    rcases hy with rfl | rfl <;> rfl
  · intro v' w' ho' hg _
    refine h v' w' ?_ hg
    unfold OwnP
    rw [flatP_append, List.length_append]
    exact ho'
def dif (a b : Snd) : BitVec 32 := (a.1 ^^^ b.1) ||| (a.2 ^^^ b.2)
/-- Whether two sounds differ in one feature. -/
def one (a b : Snd) : Bool := decide (ones (dif a b).toNat = 1)
def zs : Snd := (0#32, 0#32)
/-- The pairs of the sound at i with later ones, before the place m. -/
def inn (l : List Snd) (i m : Nat) : List (Nat × Nat) := ((List.range m).filter fun j => decide (i < j) && one (l.getD i zs) (l.getD j zs)).map fun j => (i, j)
/-- The pairs of the first k sounds with later ones. -/
def outP (l : List Snd) (k : Nat) : List (Nat × Nat) := (List.range k).flatMap fun i => inn l i l.length
theorem inn_succ (l : List Snd) (i m : Nat) : inn l i (m + 1) = inn l i m ++ (if decide (i < m) && one (l.getD i zs) (l.getD m zs) then [(i, m)] else []) := by
  unfold inn
  rw [List.range_succ, List.filter_append, List.map_append]
  congr 1
  by_cases h : (decide (i < m) && one (l.getD i zs) (l.getD m zs)) = true
  · rw [if_pos h, List.filter_cons_of_pos (p := fun j => decide (i < j) && one (l.getD i zs) (l.getD j zs)) h]
    rfl
  · rw [if_neg h, List.filter_cons_of_neg (p := fun j => decide (i < j) && one (l.getD i zs) (l.getD j zs)) h]
    rfl
theorem inn_start (l : List Snd) (i : Nat) : inn l i (i + 1) = [] := by
  unfold inn
  rw [List.map_eq_nil_iff, List.filter_eq_nil_iff]
  intro j hj
  rw [List.mem_range] at hj
  simp
  intro h
  omega
theorem outP_succ (l : List Snd) (k : Nat) : outP l (k + 1) = outP l k ++ inn l k l.length := by
  unfold outP
  rw [List.range_succ, List.flatMap_append]
  simp
theorem inn_len (l : List Snd) (i m : Nat) : (inn l i m).length ≤ m := by
  unfold inn
  rw [List.length_map]
  exact Nat.le_trans (List.length_filter_le _ _) (by simp)
theorem outP_len (l : List Snd) : ∀ k, (outP l k).length ≤ k * l.length
  | 0 => by simp [outP]
  | k + 1 => by
    rw [outP_succ, List.length_append, Nat.succ_mul]
    have := outP_len l k
    have := inn_len l k l.length
    omega
theorem gv_dif (a b : Snd) (h1 : vld a.1 a.2 = true) (h2 : vld b.1 b.2 = true) (w : World) : Gives 39 #[.agg #[.int .u32 (a.1.toNat : Int), .int .u32 (a.2.toNat : Int)], .agg #[.int .u32 (b.1.toNat : Int), .int .u32 (b.2.toNat : Int)]] w (.int .u32 ((dif a b).toNat : Int)) := gv_diff _ _ _ _ h1 h2 w
end Go.Proofs.YtpnmapfabjdfjaaDoor

/-
  Pairs of package natural: the walk.
-/
namespace Go.Proofs.YtpnmapfabjdfjaaDoor
open Go.RowKit Go.Sort
def prs (l : List Snd) : List (Nat × Nat) := outP l l.length
def prsM (l : List Snd) : List (Nat × Nat) := if ckE l 256 = 0 then prs l else []
set_option maxRecDepth 100000 in
set_option maxHeartbeats 8000000 in
theorem pairs_any (l : List Snd) (v : Value) (w : World) (h : Wd w v l) : Calls Tryd.prog 25 #[v] w fun e w' => ∃ m, e = .returned (.tuple #[m, .int .i64 (ckE l 256)]) ∧ OwnP w' w.heap.size m (prsM l) ∧ Below w.heap.size w w' := by
  have hck := check_any l v 256 w (by decide) h
  rw [show ((256 : Nat) : Int) = 256 from rfl] at hck
  have hvl := fun (h1 : ckE l 256 = 0) => ckE_vld h1
  have hln := fun (h1 : ckE l 256 = 0) => ckE_len h1
  have hP : prsM l = if ckE l 256 = 0 then outP l l.length else [] := rfl
  obtain ⟨ao, cap, rfl, c1, m1, hc⟩ := h.open
  obtain ⟨N, hN⟩ : ∃ N, l.length = N := ⟨_, rfl⟩
  have HC := Lib.hid hc; have HCK := Lib.hid hck; have HVL := Lib.hid hvl; have HLN := Lib.hid hln; have HN := Lib.hid hN
  rw [hN] at c1 hP HCK HLN ⊢
  clear hc hck hvl hln h hN
  generalize prsM l = PR at *
  generalize hE : ckE l 256 = E at *
  clear hE
  by_cases h0 : E = 0
  · subst h0
    rw [if_pos rfl] at hP
    subst hP
    have l2 : N ≤ 256 := HLN.out rfl
    have l1 : N ≤ 9223372036854775807 := by omega
    have HV := Lib.hid (HVL.out rfl)
    clear HLN HVL m1
    go_enter Tryd.func25, Tryd.ntmps25
    go_wp2_with fail
    go_at_call 46
    refine Gives.then HCK.out ?_
    intro w1 hb1
    have HW1 := Lib.hid hb1
    clear hb1 HCK
    go_wp2_with fail
    go_loopw [5, 16] (fun u i wr => ∃ k : Nat, k ≤ N ∧ i = .int .i64 (k : Int) ∧ OwnP wr w.heap.size u (outP l k) ∧ Below w.heap.size w wr) (fun _ i _ => N - (intOf i).toNat)
    case atStart => exact ⟨0, by omega, rfl, OwnP.nil _ _, HW1.out⟩
    case round =>
      obtain ⟨k, hk, rfl, ho, hw⟩ := hrel
      obtain ⟨oa, oc, hov⟩ := ho.slice
      obtain ⟨n, hn⟩ : ∃ n, (outP l k).length = n := ⟨_, rfl⟩
      rw [hn] at hov
      subst hov
      have HNn := Lib.hid hn
      clear hn
      by_cases hlt : k < N
      · have hkl : k < l.length := by rw [HN.out]; exact hlt
        obtain ⟨b, off, hao, lb, d0, d1⟩ := HC.out k hkl
        subst hao
        have d0 := (hw.cell (p := ⟨b, _, none⟩) lb).trans d0
        have d1 := (hw.cell (p := ⟨b, _, none⟩) lb).trans d1
        have hxd : l.getD k zs = l[k] := by simp [List.getD, List.getElem?_eq_getElem hkl]
        have hxv := HV.out l[k] (List.getElem_mem hkl)
        obtain ⟨x, hx⟩ : ∃ x, l[k] = x := ⟨_, rfl⟩
        rw [hx] at d0 d1 hxd hxv
        have hb8 := (Below.refl wr.heap.size wr).alloc (Nat.le_refl _) (.cells #[.int .u32 (x.1.toNat : Int), .int .u32 (x.2.toNat : Int)] 27)
        have hw8 := hw.alloc hw.size (.cells #[.int .u32 (x.1.toNat : Int), .int .u32 (x.2.toNat : Int)] 27)
        have k8 := World.alloc_heap_new wr (.cells #[.int .u32 (x.1.toNat : Int), .int .u32 (x.2.toNat : Int)] 27)
        have ho8 := ho.below hb8
        have HXD := Lib.hid hxd; have HXV := Lib.hid hxv; have HW8 := Lib.hid hw8; have K8 := Lib.hid k8; have HO8 := Lib.hid ho8; have HZ := Lib.hid hw.size
        clear hxd hxv hx hb8 hw8 k8 ho8 ho hw
        obtain ⟨p, m⟩ := x
        simp only at d0 d1 HW8 K8 HO8
        go_wp2_with fail
        generalize wr.heap.size = B7 at *
        generalize (wr.alloc (.cells #[.int .u32 (p.toNat : Int), .int .u32 (m.toNat : Int)] 27)) = w8 at *
        clear d0 d1
        go_loopw [5, 8] (fun u i wi => ∃ j : Nat, k + 1 ≤ j ∧ j ≤ N ∧ i = .int .i64 (j : Int) ∧ OwnP wi w.heap.size u (outP l k ++ inn l k j) ∧ wi.heap[B7]? = some (.cells #[.int .u32 (p.toNat : Int), .int .u32 (m.toNat : Int)] 27 (0, 0)) ∧ Below w.heap.size w wi) (fun _ i _ => N - (intOf i).toNat)
        case atStart => exact ⟨k + 1, Nat.le_refl _, by omega, by go_num, by rw [inn_start, List.append_nil]; exact HO8.out, K8.out, HW8.out⟩
        case round =>
          obtain ⟨j, hj1, hj2, rfl, hoi, hqi, hwi⟩ := hrel
          obtain ⟨oa2, oc2, hov2⟩ := hoi.slice
          obtain ⟨n2, hn2⟩ : ∃ n2, (outP l k ++ inn l k j).length = n2 := ⟨_, rfl⟩
          have hn3 : n2 ≤ 100000 := by
            rw [← hn2, List.length_append]
            have e1 := outP_len l k
            have e2 := inn_len l k j
            rw [HN.out] at e1
            have e3 : k * N ≤ 256 * 256 := Nat.mul_le_mul (by omega) l2
            omega
          rw [hn2] at hov2
          subst hov2
          have HN2 := Lib.hid hn2
          clear hn2
          have z7 := (Array.getElem?_eq_some_iff.1 hqi).1
          by_cases hlt2 : j < N
          · have hjl : j < l.length := by rw [HN.out]; exact hlt2
            obtain ⟨b', off', hao', lb', d0, d1⟩ := HC.out j hjl
            cases hao'
            have d0 := (hwi.cell (p := ⟨b, _, none⟩) lb).trans d0
            have d1 := (hwi.cell (p := ⟨b, _, none⟩) lb).trans d1
            have hyd : l.getD j zs = l[j] := by simp [List.getD, List.getElem?_eq_getElem hjl]
            have hyv := HV.out l[j] (List.getElem_mem hjl)
            obtain ⟨y, hy⟩ : ∃ y, l[j] = y := ⟨_, rfl⟩
            rw [hy] at d0 d1 hyd hyv
            have hsn := inn_succ l k j
            rw [HXD.out, hyd, decide_eq_true (show k < j by omega), Bool.true_and] at hsn
            have hdf := gv_dif (p, m) y HXV.out hyv
            have hon := ones_any (dif (p, m) y).toNat (dif (p, m) y).isLt
            have hor : one (p, m) y = decide (ones (dif (p, m) y).toNat = 1) := rfl
            rw [hor] at hsn
            clear hor hyd hyv hy
            generalize (dif (p, m) y).toNat = df at *
            generalize ones df = on at *
            obtain ⟨yp, ym⟩ := y
            simp only at d0 d1 hdf
            have e0 := cell_block hqi (o := 0) rfl
            have e1 := cell_block hqi (o := 1) rfl
            have HSN := Lib.hid hsn; have HDF := Lib.hid hdf; have HON := Lib.hid hon
            have HOI := Lib.hid hoi; have HQI := Lib.hid hqi; have HWI := Lib.hid hwi
            have hj0 : (0 : Int) ≤ (j : Int) := by omega
            have hj3 : (j : Int) < (N : Int) := by omega
            have KK : Hid (∀ W : World, Below wr.heap.size wr W → (W.cell? ⟨B7, 0, none⟩ = some (.int .u32 (p.toNat : Int)) ∧ W.cell? ⟨B7, 1, none⟩ = some (.int .u32 (m.toNat : Int))) ∧ W.cell? ⟨b, off + j * 2, none⟩ = some (.int .u32 (yp.toNat : Int)) ∧ W.cell? ⟨b, off + j * 2 + 1, none⟩ = some (.int .u32 (ym.toNat : Int))) := Lib.hid (fun W hW => ⟨⟨(hW.cell (p := ⟨B7, 0, none⟩) z7).trans e0, (hW.cell (p := ⟨B7, 1, none⟩) z7).trans e1⟩, (hW.cell (p := ⟨b, _, none⟩) (Nat.lt_of_lt_of_le lb HWI.out.size)).trans d0, (hW.cell (p := ⟨b, _, none⟩) (Nat.lt_of_lt_of_le lb HWI.out.size)).trans d1⟩)
            have hB0 : Below wr.heap.size wr wr.drew := Below.drew (Below.refl _ _)
            clear hsn hdf hon hoi hqi hwi
            go_wp2_with fail
            go_region_held3 (fun W => (W.cell? ⟨B7, 0, none⟩ = some (.int .u32 (p.toNat : Int)) ∧ W.cell? ⟨B7, 1, none⟩ = some (.int .u32 (m.toNat : Int))) ∧ W.cell? ⟨b, off + j * 2, none⟩ = some (.int .u32 (yp.toNat : Int)) ∧ W.cell? ⟨b, off + j * 2 + 1, none⟩ = some (.int .u32 (ym.toNat : Int)))
              (first | exact KK.out _ hB1 | exact KK.out _ hB0)
              (first
                | (go_at_call 39; (with_reducible refine Gives.then (HDF.out _) ?_); intro w9 hb9; have hB1 : Below wr.heap.size wr w9 := hB0.trans (hb9.mono hB0.size))
                | (go_at_call 60; (with_reducible refine Gives.then (HON.out _) ?_); intro w10 hb10; have hB1 : Below wr.heap.size wr w10 := hB1.trans (hb10.mono hB1.size)))
            have HB1 := Lib.hid hB1
            have HW10 := Lib.hid (HWI.out.trans (hB1.mono HWI.out.size)); have HO10 := Lib.hid (HOI.out.below hB1); have HQ10 := Lib.hid ((hB1.block _ z7).trans HQI.out)
            have z10 := Nat.lt_of_lt_of_le z7 hB1.size
            clear hB0 hB1 hb9 hb10 KK d0 d1 e0 e1 HWI HOI HQI HDF HON
            by_cases h1 : on = 1
            · subst h1
              rw [decide_eq_true rfl, if_pos rfl] at HSN
              have g1 : (((1 : Nat) : Int) == 1) = true := by decide
              have hpr := World.alloc_heap_new w10 (.cells #[.int .i64 (k : Int), .int .i64 (j : Int)] 44)
              have hbp := (Below.refl w10.heap.size w10).alloc (Nat.le_refl _) (.cells #[.int .i64 (k : Int), .int .i64 (j : Int)] 44)
              have HPR := Lib.hid hpr; have HBP := Lib.hid hbp
              clear hpr hbp
              go_wp2_with (at_builtin; refine wpList_appP rfl (.tmp 37) (.tmp 41) rfl w.heap.size w10.heap.size (.slice oa2 n2 oc2) (outP l k ++ inn l k j) (k, j) rfl rfl HPR.out (HO10.out.below HBP.out) (by rw [HN2.out]; omega) (by have := HW10.out.size; rw [World.size_alloc]; omega) ?_; intro v11 w11 ho11 hg11; have hbb := (HW10.out.trans (HBP.out.mono HW10.out.size)).grown hg11 (by rw [World.size_alloc]; have := HW10.out.size; omega) (fun q e => own_row HO10.out q e); have hq11 := (hg11.block B7 (by rw [World.size_alloc]; omega) (fun e => own_far HO10.out HQ10.out (by intro cs fz e2; simp at e2) e.symm)).trans ((HBP.out.block _ z10).trans HQ10.out); have HO11 := Lib.hid ho11; have HW11 := Lib.hid hbb; have HQ11 := Lib.hid hq11; clear ho11 hg11 hbb hq11)
              go_roundw
              case rel => exact ⟨j + 1, by omega, by omega, by go_num, by rw [HSN.out, ← List.append_assoc]; exact HO11.out, HQ11.out, HW11.out⟩
              case measure => simp [intOf]; omega
            · rw [decide_eq_false h1] at HSN
              have g1 : ((on : Int) == 1) = false := beq_false_of_ne (by omega)
              go_wp2_with fail
              go_roundw
              case rel => exact ⟨j + 1, by omega, by omega, by go_num, by rw [HSN.out]; simpa using HO10.out, HQ10.out, HW10.out⟩
              case measure => simp [intOf]; omega
          · obtain rfl : j = N := by omega
            have HOI := Lib.hid hoi; have HWI := Lib.hid hwi
            clear hoi hwi hqi hlt2
            have hsk := outP_succ l k
            rw [HN.out] at hsk
            have HSK := Lib.hid hsk
            clear hsk
            go_wp2_with fail
            go_roundw
            case rel => exact ⟨k + 1, by omega, by go_num, by rw [HSK.out]; exact HOI.out, HWI.out⟩
            case measure => simp [intOf]; omega
      · obtain rfl : k = N := by omega
        have HO := Lib.hid ho; have HW := Lib.hid hw
        clear ho hw hlt
        go_wp2_with fail
        go_ret2
        exact ⟨_, rfl, HO.out, HW.out⟩
  · rw [if_neg h0] at hP
    subst hP
    have g1 : (E == 0) = false := by simpa using h0
    clear HVL HLN
    go_enter Tryd.func25, Tryd.ntmps25
    go_wp2_with fail
    go_at_call 46
    refine Gives.then HCK.out ?_
    intro w1 hb1
    go_wp2_with fail
    go_ret2
    exact ⟨_, rfl, OwnP.nil _ _, hb1⟩
end Go.Proofs.YtpnmapfabjdfjaaDoor

/-
  Needed of package natural.
-/
namespace Go.Proofs.YtpnmapfabjdfjaaDoor
open Go.RowKit Go.Sort
attribute [local go_sem] bv_or ofInt32_nat
theorem inn_mem {l : List Snd} {i m : Nat} {x : Nat × Nat} (h : x ∈ inn l i m) : x.1 = i ∧ x.2 < m := by
  unfold inn at h
  obtain ⟨j, hj, rfl⟩ := List.mem_map.1 h
  have := (List.mem_filter.1 hj).1
  exact ⟨rfl, List.mem_range.1 this⟩
theorem prs_mem {l : List Snd} {x : Nat × Nat} (h : x ∈ prs l) : x.1 < l.length ∧ x.2 < l.length := by
  unfold prs outP at h
  obtain ⟨i, hi, hx⟩ := List.mem_flatMap.1 h
  obtain ⟨h1, h2⟩ := inn_mem hx
  rw [List.mem_range] at hi
  exact ⟨by omega, h2⟩
/-- The features in which some pair differs. -/
def ndF (l : List Snd) (ps : List (Nat × Nat)) : BitVec 32 := ps.foldl (fun s x => s ||| dif (l.getD x.1 zs) (l.getD x.2 zs)) 0#32
def ndM (l : List Snd) : BitVec 32 := if ckE l 256 = 0 then ndF l (prs l) else 0#32
theorem ndF_snoc (l : List Snd) (ps : List (Nat × Nat)) (x : Nat × Nat) : ndF l (ps ++ [x]) = ndF l ps ||| dif (l.getD x.1 zs) (l.getD x.2 zs) := by unfold ndF; rw [List.foldl_append]; rfl
theorem or_nat (a b : BitVec 32) : bits .or .u32 (a.toNat : Int) (b.toNat : Int) = ((a ||| b).toNat : Int) := by rw [bv_or, ofInt32_nat, ofInt32_nat]
set_option maxRecDepth 100000 in
set_option maxHeartbeats 8000000 in
theorem needed_any (l : List Snd) (v : Value) (w : World) (h : Wd w v l) : Gives 27 #[v] w (.tuple #[.int .u32 ((ndM l).toNat : Int), .int .i64 (ckE l 256)]) := by
  unfold Gives
  have hpa := pairs_any l v w h
  have hvl := fun (h1 : ckE l 256 = 0) => ckE_vld h1
  have hP : prsM l = if ckE l 256 = 0 then prs l else [] := rfl
  have hM : ndM l = if ckE l 256 = 0 then ndF l (prs l) else 0#32 := rfl
  obtain ⟨ao, cap, rfl, c1, m1, hc⟩ := h.open
  obtain ⟨N, hN⟩ : ∃ N, l.length = N := ⟨_, rfl⟩
  have HC := Lib.hid hc; have HPA := Lib.hid hpa; have HVL := Lib.hid hvl; have HN := Lib.hid hN
  rw [hN] at c1 HPA ⊢
  clear hc hpa hvl h hN
  generalize ndM l = ND at *
  generalize prsM l = PR at *
  generalize hE : ckE l 256 = E at *
  clear hE
  by_cases h0 : E = 0
  · subst h0
    rw [if_pos rfl] at hP hM
    have HV := Lib.hid (HVL.out rfl)
    have hin : ∀ x ∈ PR, x.1 < l.length ∧ x.2 < l.length := fun x hx => prs_mem (by rw [← hP]; exact hx)
    rw [← hP] at hM
    have HIN := Lib.hid hin; have HM := Lib.hid hM
    clear HVL hP hM hin
    go_enter Tryd.func27, Tryd.ntmps27
    go_wp2_with fail
    go_at_call 25
    refine HPA.out.mono ?_
    rintro e w1 ⟨v1, rfl, ho1, hb1⟩
    obtain ⟨a1, k1, hv1, hk1, hk2, hp1⟩ := ho1.ps.open
    obtain ⟨M, hMl⟩ : ∃ M, PR.length = M := ⟨_, rfl⟩
    rw [hMl] at hv1 hk1
    subst hv1
    have HP1 := Lib.hid hp1; have HW1 := Lib.hid hb1; have HML := Lib.hid hMl
    have l1 : M ≤ 9223372036854775807 := by unfold maxLen at hk2; omega
    clear hp1 ho1 hb1 hMl HPA hk2 m1
    go_wp2_with fail
    go_loopw [6, 19] (fun u i wr => ∃ k : Nat, k ≤ M ∧ i = .int .i64 (k : Int) ∧ u = .int .u32 ((ndF l (PR.take k)).toNat : Int) ∧ Below w1.heap.size w1 wr) (fun _ i _ => M - (intOf i).toNat)
    case atStart => exact ⟨0, by omega, rfl, rfl, Below.refl _ _⟩
    case round =>
      obtain ⟨k, hk, rfl, rfl, hw⟩ := hrel
      by_cases hlt : k < M
      · have hkl : k < PR.length := by rw [HML.out]; exact hlt
        obtain ⟨b, hao, lb, d0, d1⟩ := HP1.out k hkl
        subst hao
        have d0 := (hw.cell (p := ⟨b, _, none⟩) lb).trans d0
        have d1 := (hw.cell (p := ⟨b, _, none⟩) lb).trans d1
        have hsn := ndF_snoc l (PR.take k) PR[k]
        rw [← List.take_succ_eq_append_getElem hkl] at hsn
        obtain ⟨hi, hj⟩ := HIN.out PR[k] (List.getElem_mem hkl)
        generalize PR[k] = x at *
        obtain ⟨i, j⟩ := x
        simp only at d0 d1 hsn hi hj
        have hid : l.getD i zs = l[i] := by simp [List.getD, List.getElem?_eq_getElem hi]
        have hjd : l.getD j zs = l[j] := by simp [List.getD, List.getElem?_eq_getElem hj]
        rw [hid, hjd] at hsn
        obtain ⟨b2, off, hao2, lb2, p0, p1⟩ := HC.out i hi
        subst hao2
        obtain ⟨b3, off3, hao3, _, q0, q1⟩ := HC.out j hj
        cases hao3
        have hdf := gv_dif l[i] l[j] (HV.out _ (List.getElem_mem hi)) (HV.out _ (List.getElem_mem hj))
        have lb4 := Nat.lt_of_lt_of_le lb2 HW1.out.size
        have p0 := (hw.cell (p := ⟨b2, _, none⟩) lb4).trans ((HW1.out.cell (p := ⟨b2, _, none⟩) lb2).trans p0)
        have p1 := (hw.cell (p := ⟨b2, _, none⟩) lb4).trans ((HW1.out.cell (p := ⟨b2, _, none⟩) lb2).trans p1)
        have q0 := (hw.cell (p := ⟨b2, _, none⟩) lb4).trans ((HW1.out.cell (p := ⟨b2, _, none⟩) lb2).trans q0)
        have q1 := (hw.cell (p := ⟨b2, _, none⟩) lb4).trans ((HW1.out.cell (p := ⟨b2, _, none⟩) lb2).trans q1)
        have lb5 := Nat.lt_of_lt_of_le lb4 hw.size
        have HSN := Lib.hid hsn
        generalize ndF l (PR.take k) = S1 at *
        generalize dif l[i] l[j] = df at *
        generalize l[i] = x at *
        generalize l[j] = y at *
        obtain ⟨xp, xm⟩ := x
        obtain ⟨yp, ym⟩ := y
        simp only at p0 p1 q0 q1 hdf
        have hi3 : (i : Int) < (N : Int) := by rw [HN.out] at hi; omega
        have hj3 : (j : Int) < (N : Int) := by rw [HN.out] at hj; omega
        have hi4 : i < N := by omega
        have hj4 : j < N := by omega
        have hb8 := (Below.refl wr.heap.size wr).alloc (Nat.le_refl _) (.cells #[.int .i64 (i : Int), .int .i64 (j : Int)] 44)
        have k8 := World.alloc_heap_new wr (.cells #[.int .i64 (i : Int), .int .i64 (j : Int)] 44)
        have hw8 := hw.alloc hw.size (.cells #[.int .i64 (i : Int), .int .i64 (j : Int)] 44)
        have t0 := cell_block k8 (o := 0) rfl
        have t1 := cell_block k8 (o := 1) rfl
        have r0 := cell_past (X := .cells #[.int .i64 (i : Int), .int .i64 (j : Int)] 44) lb5 p0
        have r1 := cell_past (X := .cells #[.int .i64 (i : Int), .int .i64 (j : Int)] 44) lb5 p1
        have s0 := cell_past (X := .cells #[.int .i64 (i : Int), .int .i64 (j : Int)] 44) lb5 q0
        have s1 := cell_past (X := .cells #[.int .i64 (i : Int), .int .i64 (j : Int)] 44) lb5 q1
        have HDF := Lib.hid hdf; have HW8 := Lib.hid hw8
        have zB : wr.heap.size < (wr.alloc (.cells #[.int .i64 (i : Int), .int .i64 (j : Int)] 44)).heap.size := by rw [World.size_alloc]; omega
        have lb6 : b2 < (wr.alloc (.cells #[.int .i64 (i : Int), .int .i64 (j : Int)] 44)).heap.size := by rw [World.size_alloc]; omega
        clear hdf hw8 hw hb8 k8 p0 p1 q0 q1 hid hjd hsn HC
        go_wp2_with fail
        generalize wr.heap.size = B8 at *
        generalize (wr.alloc (.cells #[.int .i64 (i : Int), .int .i64 (j : Int)] 44)) = w8 at *
        have hB0 : Below w8.heap.size w8 w8.drew := Below.drew (Below.refl _ _)
        have KK : Hid (∀ W : World, Below w8.heap.size w8 W → (W.cell? ⟨B8, 0, none⟩ = some (.int .i64 (i : Int)) ∧ W.cell? ⟨B8, 1, none⟩ = some (.int .i64 (j : Int))) ∧ (W.cell? ⟨b2, off + i * 2, none⟩ = some (.int .u32 (xp.toNat : Int)) ∧ W.cell? ⟨b2, off + i * 2 + 1, none⟩ = some (.int .u32 (xm.toNat : Int))) ∧ W.cell? ⟨b2, off + j * 2, none⟩ = some (.int .u32 (yp.toNat : Int)) ∧ W.cell? ⟨b2, off + j * 2 + 1, none⟩ = some (.int .u32 (ym.toNat : Int))) := Lib.hid (fun W hW => ⟨⟨(hW.cell (p := ⟨B8, _, none⟩) zB).trans t0, (hW.cell (p := ⟨B8, _, none⟩) zB).trans t1⟩, ⟨(hW.cell (p := ⟨b2, _, none⟩) lb6).trans r0, (hW.cell (p := ⟨b2, _, none⟩) lb6).trans r1⟩, (hW.cell (p := ⟨b2, _, none⟩) lb6).trans s0, (hW.cell (p := ⟨b2, _, none⟩) lb6).trans s1⟩)
        go_region_held3 (fun W => (W.cell? ⟨B8, 0, none⟩ = some (.int .i64 (i : Int)) ∧ W.cell? ⟨B8, 1, none⟩ = some (.int .i64 (j : Int))) ∧ (W.cell? ⟨b2, off + i * 2, none⟩ = some (.int .u32 (xp.toNat : Int)) ∧ W.cell? ⟨b2, off + i * 2 + 1, none⟩ = some (.int .u32 (xm.toNat : Int))) ∧ W.cell? ⟨b2, off + j * 2, none⟩ = some (.int .u32 (yp.toNat : Int)) ∧ W.cell? ⟨b2, off + j * 2 + 1, none⟩ = some (.int .u32 (ym.toNat : Int)))
          (first | exact KK.out _ hB1 | exact KK.out _ hB0)
          (first
            | (go_at_call 39; (with_reducible refine Gives.then (HDF.out _) ?_); intro w9 hb9; have hB1 : Below w8.heap.size w8 w9 := hB0.trans (hb9.mono hB0.size)))
        have HW9 := Lib.hid (HW8.out.trans (hB1.mono HW8.out.size))
        clear hB0 hB1 hb9 KK HW8 HDF t0 t1 r0 r1 s0 s1 d0 d1
        go_wp2_with fail
        go_roundw
        case rel => exact ⟨k + 1, by omega, by go_num, by rw [HSN.out, BitVec.toNat_or], HW9.out⟩
        case measure => simp [intOf]; omega
      · obtain rfl : k = M := by omega
        have he : ndF l (PR.take k) = ND := by rw [HM.out, ← HML.out, List.take_length]
        rw [he] at *
        have HW := Lib.hid (HW1.out.trans (hw.mono HW1.out.size))
        clear hw hlt he
        go_wp2_with fail
        go_ret2
        exact ⟨rfl, HW.out⟩
  · rw [if_neg h0] at hP hM
    subst hP hM
    have g1 : (E == 0) = false := by simpa using h0
    clear HVL
    go_enter Tryd.func27, Tryd.ntmps27
    go_wp2_with fail
    go_at_call 25
    refine HPA.out.mono ?_
    rintro e w1 ⟨v1, rfl, ho1, hb1⟩
    obtain ⟨a1, k1, rfl⟩ := ho1.slice
    go_wp2_with fail
    go_ret2
    exact ⟨rfl, hb1⟩
end Go.Proofs.YtpnmapfabjdfjaaDoor

/-
  crowdOf of package natural.
-/
namespace Go.Proofs.YtpnmapfabjdfjaaDoor
open Go.RowKit Go.Sort
/-- One number of a crowd. -/
def crC (q : Nat) (xs : List Nat) : BitVec 64 := xs.foldl (fun s i => if i / 64 = q then s ||| (1#64 <<< (i % 64)) else s) 0#64
theorem crC_snoc (q : Nat) (xs : List Nat) (i : Nat) : crC q (xs ++ [i]) = if i / 64 = q then crC q xs ||| (1#64 <<< (i % 64)) else crC q xs := by unfold crC; rw [List.foldl_append]; rfl
def crV (xs : List Nat) : Array Value := #[.int .u64 ((crC 0 xs).toNat : Int), .int .u64 ((crC 1 xs).toNat : Int), .int .u64 ((crC 2 xs).toNat : Int), .int .u64 ((crC 3 xs).toNat : Int)]
theorem ofInt64_nat (x : BitVec 64) : BitVec.ofInt 64 (x.toNat : Int) = x := by
  rw [BitVec.ofInt_natCast, BitVec.ofNat_toNat, BitVec.setWidth_eq]
theorem or64 (a b : BitVec 64) : bits .or .u64 (a.toNat : Int) (b.toNat : Int) = ((a ||| b).toNat : Int) := by
  have h : ∀ x : BitVec 64, IntKind.u64.wrap (x.toNat : Int) = (x.toNat : Int) := fun x => by
    have := x.isLt
    rw [IntKind.wrap_u64]; omega
  show IntKind.u64.wrap ((BitVec.ofInt 64 (a.toNat : Int) ||| BitVec.ofInt 64 (b.toNat : Int)).toNat : Int) = _
  rw [h, ofInt64_nat, ofInt64_nat]
theorem shl64 (r : Nat) (h : r < 64) : IntKind.u64.wrap ((2 : Int) ^ r) = ((1#64 <<< r).toNat : Int) := (by decide +kernel : ∀ k : Fin 64, IntKind.u64.wrap ((2 : Int) ^ k.val) = ((1#64 <<< k.val).toNat : Int)) ⟨r, h⟩
theorem four_set {W : World} {b o : Nat} {v : Value} {cs : Array Value} {T : Nat} {fz : Nat × Nat} (h : W.heap[b]? = some (.cells cs T fz)) : (W.setCell ⟨b, o, none⟩ v).heap[b]? = some (.cells (cs.setIfInBounds o v) T fz) := block_set h
set_option maxRecDepth 100000 in
set_option maxHeartbeats 8000000 in
theorem crowd_any (xs : List Nat) (v : Value) (w : World) (h : Is w v xs) (hx : ∀ i ∈ xs, i < 256) (hl : xs.length ≤ 1000000) : Gives 68 #[v] w (.agg (crV xs)) := by
  unfold Gives
  obtain ⟨ao, cap, rfl, c1, m1, hc⟩ := h.open
  obtain ⟨N, hN⟩ : ∃ N, xs.length = N := ⟨_, rfl⟩
  have HC := Lib.hid hc; have HN := Lib.hid hN; have HX := Lib.hid hx
  rw [hN] at c1 hl ⊢
  have l1 : N ≤ 9223372036854775807 := by omega
  have hb0 := (Below.refl w.heap.size w).alloc (Nat.le_refl _) (.cells #[.int .u64 0, .int .u64 0, .int .u64 0, .int .u64 0] 96)
  have hb1 := hb0.alloc hb0.size (.cells #[.int .u64 0, .int .u64 0, .int .u64 0, .int .u64 0] 96)
  have k1 := (((Below.refl _ (w.alloc (.cells #[.int .u64 0, .int .u64 0, .int .u64 0, .int .u64 0] 96))).alloc (Nat.le_refl _) (.cells #[.int .u64 0, .int .u64 0, .int .u64 0, .int .u64 0] 96)).block w.heap.size (by rw [World.size_alloc]; omega)).trans (World.alloc_heap_new w (.cells #[.int .u64 0, .int .u64 0, .int .u64 0, .int .u64 0] 96))
  have k2 := World.alloc_heap_new (w.alloc (.cells #[.int .u64 0, .int .u64 0, .int .u64 0, .int .u64 0] 96)) (.cells #[.int .u64 0, .int .u64 0, .int .u64 0, .int .u64 0] 96)
  rw [World.size_alloc] at k2
  have K1 := Lib.hid k1; have K2 := Lib.hid k2; have HB := Lib.hid hb1
  clear hc hN hx h m1 hb0 hb1 k1 k2
  go_enter Tryd.func68, Tryd.ntmps68
  go_wp2_with fail
  go_loopw [8] (fun i wr => ∃ k : Nat, k ≤ N ∧ i = .int .i64 (k : Int) ∧ wr.heap[w.heap.size + 1]? = some (.cells (crV (xs.take k)) 96 (0, 0)) ∧ wr.heap[w.heap.size]? = some (.cells #[.int .u64 0, .int .u64 0, .int .u64 0, .int .u64 0] 96 (0, 0)) ∧ Below w.heap.size w wr) (fun i _ => N - (intOf i).toNat)
  case atStart => exact ⟨0, by omega, rfl, K2.out, K1.out, HB.out⟩
  case round =>
    obtain ⟨k, hk, rfl, q2, q1, hw⟩ := hrel
    by_cases hlt : k < N
    · have hkl : k < xs.length := by rw [HN.out]; exact hlt
      obtain ⟨b, hao, lb, d0⟩ := HC.out k hkl
      subst hao
      have d0 := (hw.cell (p := ⟨b, _, none⟩) lb).trans d0
      have hi := HX.out xs[k] (List.getElem_mem hkl)
      have hs0 := crC_snoc 0 (xs.take k) xs[k]
      have hs1 := crC_snoc 1 (xs.take k) xs[k]
      have hs2 := crC_snoc 2 (xs.take k) xs[k]
      have hs3 := crC_snoc 3 (xs.take k) xs[k]
      rw [← List.take_succ_eq_append_getElem hkl] at hs0 hs1 hs2 hs3
      have hcr : crV (xs.take (k + 1)) = #[.int .u64 ((crC 0 (xs.take (k + 1))).toNat : Int), .int .u64 ((crC 1 (xs.take (k + 1))).toNat : Int), .int .u64 ((crC 2 (xs.take (k + 1))).toNat : Int), .int .u64 ((crC 3 (xs.take (k + 1))).toNat : Int)] := rfl
      unfold crV at q2
      generalize crC 0 (xs.take k) = A0 at *
      generalize crC 1 (xs.take k) = A1 at *
      generalize crC 2 (xs.take k) = A2 at *
      generalize crC 3 (xs.take k) = A3 at *
      have e0 : wr.cell? ⟨w.heap.size + 1, 0, none⟩ = some (.int .u64 (A0.toNat : Int)) := cell_block q2 rfl
      have e1 : wr.cell? ⟨w.heap.size + 1, 1, none⟩ = some (.int .u64 (A1.toNat : Int)) := cell_block q2 rfl
      have e2 : wr.cell? ⟨w.heap.size + 1, 2, none⟩ = some (.int .u64 (A2.toNat : Int)) := cell_block q2 rfl
      have e3 : wr.cell? ⟨w.heap.size + 1, 3, none⟩ = some (.int .u64 (A3.toNat : Int)) := cell_block q2 rfl
      have f0 := frozen_block (o := 0) q2
      have f1 := frozen_block (o := 1) q2
      have f2 := frozen_block (o := 2) q2
      have f3 := frozen_block (o := 3) q2
      have z2 := (Array.getElem?_eq_some_iff.1 q2).1
      generalize xs[k] = x at *
      obtain ⟨q, hq⟩ : ∃ q, x / 64 = q := ⟨_, rfl⟩
      obtain ⟨r, hr⟩ : ∃ r, x % 64 = r := ⟨_, rfl⟩
      have hr64 : r < 64 := by omega
      have hdi : Int.tdiv (x : Int) 64 = (q : Int) := by rw [Int.tdiv_eq_ediv_of_nonneg (by omega)]; omega
      have hdj : (x : Int) / 64 = (q : Int) := by omega
      have hmi : Int.tmod (x : Int) 64 = (r : Int) := by rw [Int.tmod_eq_emod_of_nonneg (by omega)]; omega
      have hmj : (x : Int) % 64 = (r : Int) := by omega
      have hq4 : q = 0 ∨ q = 1 ∨ q = 2 ∨ q = 3 := by omega
      clear HC
      rcases hq4 with rfl | rfl | rfl | rfl
      · have hsh := shl64 r hr64
        have hor := or64 A0 (1#64 <<< r)
        have w0 : IntKind.i64.wrap 0 = 0 := by decide
        rw [hq] at hs0 hs1 hs2 hs3
        rw [hr] at hs0 hs1 hs2 hs3
        rw [if_pos rfl] at hs0
        rw [if_neg (by decide)] at hs1
        rw [if_neg (by decide)] at hs2
        rw [if_neg (by decide)] at hs3
        generalize 1#64 <<< r = S at *
        have HS0 := Lib.hid hs0; have HS1 := Lib.hid hs1; have HS2 := Lib.hid hs2; have HS3 := Lib.hid hs3; have HCR := Lib.hid hcr; have Q2 := Lib.hid q2; have Q1 := Lib.hid q1; have HW := Lib.hid hw
        clear hs0 hs1 hs2 hs3 hcr q2 q1 hw
        go_wp2_with fail
        go_region
        go_wp2_with fail
        go_roundw
        case rel => exact ⟨k + 1, by omega, by go_num, by rw [HCR.out, HS0.out, HS1.out, HS2.out, HS3.out]; first | exact four_set Q2.out | (rw [← hor]; exact four_set Q2.out), ((((Below.refl (w.heap.size + 1) wr).setCell (p := ⟨w.heap.size + 1, 0, none⟩) (Nat.le_refl _) _).block w.heap.size (by omega))).trans Q1.out, (HW.out.setCell (p := ⟨w.heap.size + 1, 0, none⟩) (Nat.le_succ _) _).drew⟩
        case measure => simp [intOf]; omega
      · have hsh := shl64 r hr64
        have hor := or64 A1 (1#64 <<< r)
        have w0 : IntKind.i64.wrap 1 = 1 := by decide
        rw [hq] at hs0 hs1 hs2 hs3
        rw [hr] at hs0 hs1 hs2 hs3
        rw [if_neg (by decide)] at hs0
        rw [if_pos rfl] at hs1
        rw [if_neg (by decide)] at hs2
        rw [if_neg (by decide)] at hs3
        generalize 1#64 <<< r = S at *
        have HS0 := Lib.hid hs0; have HS1 := Lib.hid hs1; have HS2 := Lib.hid hs2; have HS3 := Lib.hid hs3; have HCR := Lib.hid hcr; have Q2 := Lib.hid q2; have Q1 := Lib.hid q1; have HW := Lib.hid hw
        clear hs0 hs1 hs2 hs3 hcr q2 q1 hw
        go_wp2_with fail
        go_region
        go_wp2_with fail
        go_roundw
        case rel => exact ⟨k + 1, by omega, by go_num, by rw [HCR.out, HS0.out, HS1.out, HS2.out, HS3.out]; first | exact four_set Q2.out | (rw [← hor]; exact four_set Q2.out), ((((Below.refl (w.heap.size + 1) wr).setCell (p := ⟨w.heap.size + 1, 1, none⟩) (Nat.le_refl _) _).block w.heap.size (by omega))).trans Q1.out, (HW.out.setCell (p := ⟨w.heap.size + 1, 1, none⟩) (Nat.le_succ _) _).drew⟩
        case measure => simp [intOf]; omega
      · have hsh := shl64 r hr64
        have hor := or64 A2 (1#64 <<< r)
        have w0 : IntKind.i64.wrap 2 = 2 := by decide
        rw [hq] at hs0 hs1 hs2 hs3
        rw [hr] at hs0 hs1 hs2 hs3
        rw [if_neg (by decide)] at hs0
        rw [if_neg (by decide)] at hs1
        rw [if_pos rfl] at hs2
        rw [if_neg (by decide)] at hs3
        generalize 1#64 <<< r = S at *
        have HS0 := Lib.hid hs0; have HS1 := Lib.hid hs1; have HS2 := Lib.hid hs2; have HS3 := Lib.hid hs3; have HCR := Lib.hid hcr; have Q2 := Lib.hid q2; have Q1 := Lib.hid q1; have HW := Lib.hid hw
        clear hs0 hs1 hs2 hs3 hcr q2 q1 hw
        go_wp2_with fail
        go_region
        go_wp2_with fail
        go_roundw
        case rel => exact ⟨k + 1, by omega, by go_num, by rw [HCR.out, HS0.out, HS1.out, HS2.out, HS3.out]; first | exact four_set Q2.out | (rw [← hor]; exact four_set Q2.out), ((((Below.refl (w.heap.size + 1) wr).setCell (p := ⟨w.heap.size + 1, 2, none⟩) (Nat.le_refl _) _).block w.heap.size (by omega))).trans Q1.out, (HW.out.setCell (p := ⟨w.heap.size + 1, 2, none⟩) (Nat.le_succ _) _).drew⟩
        case measure => simp [intOf]; omega
      · have hsh := shl64 r hr64
        have hor := or64 A3 (1#64 <<< r)
        have w0 : IntKind.i64.wrap 3 = 3 := by decide
        rw [hq] at hs0 hs1 hs2 hs3
        rw [hr] at hs0 hs1 hs2 hs3
        rw [if_neg (by decide)] at hs0
        rw [if_neg (by decide)] at hs1
        rw [if_neg (by decide)] at hs2
        rw [if_pos rfl] at hs3
        generalize 1#64 <<< r = S at *
        have HS0 := Lib.hid hs0; have HS1 := Lib.hid hs1; have HS2 := Lib.hid hs2; have HS3 := Lib.hid hs3; have HCR := Lib.hid hcr; have Q2 := Lib.hid q2; have Q1 := Lib.hid q1; have HW := Lib.hid hw
        clear hs0 hs1 hs2 hs3 hcr q2 q1 hw
        go_wp2_with fail
        go_region
        go_wp2_with fail
        go_roundw
        case rel => exact ⟨k + 1, by omega, by go_num, by rw [HCR.out, HS0.out, HS1.out, HS2.out, HS3.out]; first | exact four_set Q2.out | (rw [← hor]; exact four_set Q2.out), ((((Below.refl (w.heap.size + 1) wr).setCell (p := ⟨w.heap.size + 1, 3, none⟩) (Nat.le_refl _) _).block w.heap.size (by omega))).trans Q1.out, (HW.out.setCell (p := ⟨w.heap.size + 1, 3, none⟩) (Nat.le_succ _) _).drew⟩
        case measure => simp [intOf]; omega
    · obtain rfl : k = N := by omega
      have he : xs.take k = xs := by rw [← HN.out, List.take_length]
      rw [he] at q2
      have hcr : crV xs = #[.int .u64 ((crC 0 xs).toNat : Int), .int .u64 ((crC 1 xs).toNat : Int), .int .u64 ((crC 2 xs).toNat : Int), .int .u64 ((crC 3 xs).toNat : Int)] := rfl
      rw [hcr] at q2
      generalize crC 0 xs = A0 at *
      generalize crC 1 xs = A1 at *
      generalize crC 2 xs = A2 at *
      generalize crC 3 xs = A3 at *
      have e0 : wr.cell? ⟨w.heap.size + 1, 0, none⟩ = some (.int .u64 (A0.toNat : Int)) := cell_block q2 rfl
      have e1 : wr.cell? ⟨w.heap.size + 1, 1, none⟩ = some (.int .u64 (A1.toNat : Int)) := cell_block q2 rfl
      have e2 : wr.cell? ⟨w.heap.size + 1, 2, none⟩ = some (.int .u64 (A2.toNat : Int)) := cell_block q2 rfl
      have e3 : wr.cell? ⟨w.heap.size + 1, 3, none⟩ = some (.int .u64 (A3.toNat : Int)) := cell_block q2 rfl
      have f0 := frozen_block (o := 0) q1
      have f1 := frozen_block (o := 1) q1
      have f2 := frozen_block (o := 2) q1
      have f3 := frozen_block (o := 3) q1
      have c0 : wr.cell? ⟨w.heap.size, 0, none⟩ = some (.int .u64 0) := cell_block q1 rfl
      have c2 : wr.cell? ⟨w.heap.size, 1, none⟩ = some (.int .u64 0) := cell_block q1 rfl
      have c3 : wr.cell? ⟨w.heap.size, 2, none⟩ = some (.int .u64 0) := cell_block q1 rfl
      have c4 : wr.cell? ⟨w.heap.size, 3, none⟩ = some (.int .u64 0) := cell_block q1 rfl
      have j0 : (wr.setCell ⟨w.heap.size, 0, none⟩ (.int .u64 (A0.toNat : Int))).cell? ⟨w.heap.size, 0, none⟩ = some (.int .u64 (A0.toNat : Int)) := cell_block (block_set (q1)) rfl
      have j1 : ((wr.setCell ⟨w.heap.size, 0, none⟩ (.int .u64 (A0.toNat : Int))).setCell ⟨w.heap.size, 1, none⟩ (.int .u64 (A1.toNat : Int))).cell? ⟨w.heap.size, 1, none⟩ = some (.int .u64 (A1.toNat : Int)) := cell_block (block_set (block_set (q1))) rfl
      have j2 : (((wr.setCell ⟨w.heap.size, 0, none⟩ (.int .u64 (A0.toNat : Int))).setCell ⟨w.heap.size, 1, none⟩ (.int .u64 (A1.toNat : Int))).setCell ⟨w.heap.size, 2, none⟩ (.int .u64 (A2.toNat : Int))).cell? ⟨w.heap.size, 2, none⟩ = some (.int .u64 (A2.toNat : Int)) := cell_block (block_set (block_set (block_set (q1)))) rfl
      have j3 : ((((wr.setCell ⟨w.heap.size, 0, none⟩ (.int .u64 (A0.toNat : Int))).setCell ⟨w.heap.size, 1, none⟩ (.int .u64 (A1.toNat : Int))).setCell ⟨w.heap.size, 2, none⟩ (.int .u64 (A2.toNat : Int))).setCell ⟨w.heap.size, 3, none⟩ (.int .u64 (A3.toNat : Int))).cell? ⟨w.heap.size, 3, none⟩ = some (.int .u64 (A3.toNat : Int)) := cell_block (block_set (block_set (block_set (block_set (q1))))) rfl
      have HW := Lib.hid ((((hw.setCell (p := ⟨w.heap.size, 0, none⟩) (Nat.le_refl _) (.int .u64 (A0.toNat : Int))).setCell (p := ⟨w.heap.size, 1, none⟩) (Nat.le_refl _) (.int .u64 (A1.toNat : Int))).setCell (p := ⟨w.heap.size, 2, none⟩) (Nat.le_refl _) (.int .u64 (A2.toNat : Int))).setCell (p := ⟨w.heap.size, 3, none⟩) (Nat.le_refl _) (.int .u64 (A3.toNat : Int)))
      have HCR := Lib.hid hcr
      clear hw hlt hcr q1 q2 he
      go_wp2_with fail
      refine bodyPost_ret (v := .agg #[.int .u64 (A0.toNat : Int), .int .u64 (A1.toNat : Int), .int .u64 (A2.toNat : Int), .int .u64 (A3.toNat : Int)]) (by simp [results, Tryd.results68, go_sem, j0, j1, j2, j3]) rfl ?_
      exact ⟨by rw [HCR.out], HW.out⟩
end Go.Proofs.YtpnmapfabjdfjaaDoor

/-
  Sets as maps whose values are true, at whatever keys; sets of crowds.
-/
namespace Go.Proofs.YtpnmapfabjdfjaaDoor
open Go.RowKit Go.Sort
/-- What the walk asks of a key type. -/
structure KeyOk {K : Type} [DecidableEq K] (T : TypeId) (u : TypeDesc) (enc : K → Value) : Prop where
  hU : Tryd.prog.underlying T = some u
  chk : ∀ (e : Bool) (k : K) (w : World), (Instr.checkKey e 10000 T (enc k)).run Tryd.prog w = .ok () w
  eq : ∀ (a b : K) (w : World), (Op.equal T (enc a) (enc b)).run Tryd.prog w = .ok (decide (a = b)) w
  same : ∀ k : K, Instr.sameBits 10000 (enc k) (enc k) = true
  now : ∀ (k : K) (es : List MapEntry), (es = [] ∧ Instr.findNow u (enc k) es 0 = some none) ∨ Instr.findNow u (enc k) es 0 = none
section
variable {K : Type} {enc : K → Value}
/-- The stamps of a map's entries: all below the clock, no two alike. -/
def KSt (es : Array MapEntry) (n : Nat) : Prop := (∀ x ∈ es.toList, x.born < n) ∧ (es.toList.map (·.born)).Nodup
theorem KSt.new : KSt #[] 0 := ⟨by simp, by simp⟩
theorem KSt.push {es : Array MapEntry} {n : Nat} (h : KSt es n) (k v : Value) : KSt (es.push { key := k, val := v, born := n }) (n + 1) := by
  refine ⟨fun x hx => ?_, ?_⟩
  · rw [Array.toList_push, List.mem_append] at hx
    rcases hx with hx | hx
    · exact Nat.lt_succ_of_lt (h.1 x hx)
    · rw [List.mem_singleton] at hx
      subst hx
      exact Nat.lt_succ_self n
  · rw [Array.toList_push, List.map_append, List.map_singleton, List.nodup_append]
    refine ⟨h.2, by simp, fun a ha b hb => ?_⟩
    obtain ⟨x, hx, rfl⟩ := List.mem_map.1 ha
    rw [List.mem_singleton] at hb
    subst hb
    exact Nat.ne_of_lt (h.1 x hx)
theorem KSt.same {es es' : Array MapEntry} {n : Nat} (h : KSt es n) (he : es'.toList.map (·.born) = es.toList.map (·.born)) : KSt es' n := by
  refine ⟨fun x hx => ?_, by rw [he]; exact h.2⟩
  have hm : x.born ∈ es'.toList.map (·.born) := List.mem_map.2 ⟨x, hx, rfl⟩
  rw [he] at hm
  obtain ⟨y, hy, e⟩ := List.mem_map.1 hm
  rw [← e]
  exact h.1 y hy
def KMap (enc : K → Value) (w : World) (b : Nat) (ks : List K) : Prop := ∃ es n, w.heap[b]? = some (.map es n) ∧ es.toList.map (fun e => (e.key, e.val)) = ks.map (fun k => (enc k, Value.bool true)) ∧ KSt es n
theorem KMap.lt {w : World} {b : Nat} {ks : List K} (h : KMap enc w b ks) : b < w.heap.size := by
  obtain ⟨es, n, hh, _, _⟩ := h
  exact (Array.getElem?_eq_some_iff.1 hh).1
theorem KMap.below {w w' : World} {b : Nat} {ks : List K} (h : KMap enc w b ks) (hb : Below w.heap.size w w') : KMap enc w' b ks := by
  have hl := h.lt
  obtain ⟨es, n, hh, he⟩ := h
  exact ⟨es, n, (hb.block b hl).trans hh, he⟩
theorem KMap.new (w : World) : KMap enc (w.alloc (.map #[] 0)) w.heap.size [] := ⟨#[], 0, World.alloc_heap_new w _, rfl, KSt.new⟩
theorem run_len_k {t TT A B : TypeId} (hT : Tryd.prog.underlying t = some (.map A B)) {w : World} {b : Nat} {ks : List K} (h : KMap enc w b ks) : (Builtin.len_ #[t] TT #[.map (some b)]).run Tryd.prog w = .ok (.int .i64 (ks.length : Int)) w := by
  obtain ⟨es, n, hh, hl, hst⟩ := h
  have hlen : es.size = ks.length := by have := congrArg List.length hl; simpa using this
  rw [← hlen]
  simp [Builtin.len_, run_underlying hT, MapKept.run_getObj_map hh, goInt, Result.andThen]
variable [DecidableEq K] {T : TypeId} {u : TypeDesc}
def addK (ks : List K) (k : K) : List K := if k ∈ ks then ks else ks ++ [k]
def fndK (k : K) : List K → Nat → Option (Nat × Value)
  | [], _ => none
  | x :: l, i => if k = x then some (i, .bool true) else fndK k l (i + 1)
theorem fndK_is (k : K) : ∀ (ks : List K) (i : Nat), (k ∉ ks ∧ fndK k ks i = none) ∨ (k ∈ ks ∧ ∃ p, ∃ h : p < ks.length, ks[p] = k ∧ fndK k ks i = some (i + p, .bool true))
  | [], i => .inl ⟨by simp, rfl⟩
  | x :: ks, i => by
    by_cases e : k = x
    · exact .inr ⟨by simp [e], 0, by simp, by simp [e], by unfold fndK; rw [if_pos e]; rfl⟩
    · have hs : fndK k (x :: ks) i = fndK k ks (i + 1) := by
        show (if k = x then _ else _) = _
        rw [if_neg e]
      rcases fndK_is k ks (i + 1) with ⟨h1, h2⟩ | ⟨h1, p, hp, h2, h3⟩
      · exact .inl ⟨by simp [e, h1], by rw [hs, h2]⟩
      · exact .inr ⟨by simp [h1], p + 1, by simp; omega, by simpa using h2, by rw [hs, h3]; congr 2; omega⟩
theorem findAsking_k (hk : KeyOk T u enc) (k : K) (w : World) : ∀ (es : List MapEntry) (ks : List K) (i : Nat), es.map (fun e => (e.key, e.val)) = ks.map (fun k => (enc k, Value.bool true)) → (Instr.findAsking T (enc k) es i).run Tryd.prog w = .ok (fndK k ks i) w
  | [], [], _, _ => rfl
  | [], _ :: _, _, h => by simp at h
  | _ :: _, [], _, h => by simp at h
  | e :: es, x :: l, i, h => by
    simp only [List.map_cons, List.cons.injEq, Prod.mk.injEq] at h
    obtain ⟨⟨h1, h2⟩, h3⟩ := h
    have ih := findAsking_k hk k w es l (i + 1) h3
    unfold Instr.findAsking fndK
    rw [h1, h2]
    simp only [Sem.run_bind, hk.eq, Result.andThen_ok]
    by_cases he : k = x
    · rw [if_pos he, decide_eq_true he]; rfl
    · rw [if_neg he, decide_eq_false he]
      exact ih
theorem run_find_k (hk : KeyOk T u enc) (k : K) (es : List MapEntry) (ks : List K) (h : es.map (fun e => (e.key, e.val)) = ks.map (fun k => (enc k, Value.bool true))) (w : World) :
    (Instr.findKey T (enc k) es).run Tryd.prog w = .ok (fndK k ks 0) w := by
  unfold Instr.findKey
  simp only [Sem.run_bind, run_underlying hk.hU, Result.andThen_ok]
  rcases hk.now k es with ⟨h0, e⟩ | e
  · subst h0
    have : ks = [] := by cases ks with
      | nil => rfl
      | cons _ _ => simp at h
    subst this
    rw [e]; rfl
  · rw [e]; exact findAsking_k hk k w es ks 0 h
theorem run_update_k (hk : KeyOk T u enc) {MT E : TypeId} (hT : Tryd.prog.underlying MT = some (.map T E)) {w : World} {b : Nat} {ks : List K} (h : KMap enc w b ks) (k : K) :
    ∃ w', (Instr.mapUpdate MT (.map (some b)) (enc k) (.bool true)).run Tryd.prog w = .ok () w' ∧ KMap enc w' b (addK ks k) ∧ w.grownBy w' (some b) := by
  obtain ⟨es, n, hh, hl, hst⟩ := h
  have hlen : es.size = ks.length := by have := congrArg List.length hl; simpa using this
  have grow : ∀ o : Obj, w.grownBy { w with heap := w.heap.setIfInBounds b o } (some b) := fun o =>
    ⟨rfl, rfl, rfl, by simp, fun j hj hne => by
      show (w.heap.setIfInBounds b o)[j]? = w.heap[j]?
      rw [Array.getElem?_setIfInBounds_ne (by intro e; exact hne (by rw [e]))]⟩
  have hb := (Array.getElem?_eq_some_iff.1 hh).1
  rcases fndK_is k ks 0 with ⟨h1, h2⟩ | ⟨h1, p, hp, h2, h3⟩
  · unfold Instr.mapUpdate
    simp only [Sem.run_bind, run_underlying hT, Result.andThen_ok, MapKept.run_getObj_map hh, hk.chk, run_find_k hk k es.toList ks hl, h2]
    refine ⟨_, MapKept.run_setObj_map _ hh, ⟨es.push { key := enc k, val := .bool true, born := n }, n + 1, ?_, ?_, hst.push _ _⟩, grow _⟩
    · show (w.heap.setIfInBounds b _)[b]? = _
      rw [Array.getElem?_setIfInBounds_self_of_lt hb]
    · unfold addK
      rw [if_neg h1, Array.toList_push, List.map_append, hl, List.map_append]
      rfl
  · rw [Nat.zero_add] at h3
    have hpe : p < es.size := by omega
    have hent : (es[p].key, es[p].val) = (enc k, Value.bool true) := by
      have e := congrArg (fun z => z[p]?) hl
      simp only [List.getElem?_map, Array.getElem?_toList, Array.getElem?_eq_getElem hpe, List.getElem?_eq_getElem hp, Option.map_some, Option.some.injEq, h2] at e
      exact e
    have hkey : es[p].key = enc k := (Prod.mk.inj hent).1
    have hval : es[p].val = .bool true := (Prod.mk.inj hent).2
    unfold Instr.mapUpdate
    simp only [Sem.run_bind, run_underlying hT, Result.andThen_ok, MapKept.run_getObj_map hh, hk.chk, run_find_k hk k es.toList ks hl, h3]
    have hkk : (((es[p]?).map (·.key)).getD (enc k)) = enc k := by rw [Array.getElem?_eq_getElem hpe]; exact hkey
    simp only [hkk, Instr.keyThatStays, hk.same, if_true, Sem.run_bind, Sem.run_pure, Result.andThen_ok]
    refine ⟨_, MapKept.run_setObj_map _ hh, ⟨es.modify p fun e => { e with key := enc k, val := .bool true }, n, ?_, ?_, hst.same ?_⟩, grow _⟩
    · show (w.heap.setIfInBounds b _)[b]? = _
      rw [Array.getElem?_setIfInBounds_self_of_lt hb]
    · unfold addK
      rw [if_pos h1, Array.toList_modify, ← hl]
      apply List.ext_getElem?
      intro j
      rw [List.getElem?_map, List.getElem?_modify, List.getElem?_map]
      by_cases e : p = j
      · subst e
        simp [hpe, hkey, hval]
      · simp [e]
    · rw [Array.toList_modify]
      apply List.ext_getElem?
      intro j
      rw [List.getElem?_map, List.getElem?_modify, List.getElem?_map]
      by_cases e : p = j
      · subst e
        simp [hpe]
      · simp [e]
theorem wpList_update_k (hkk : KeyOk T u enc) {ops : Array Oper} {rest : List Oper} {o : Oper} {a : Act} {w : World} {Q : Exit → Act → World → Prop} (hg : o.guard = none) (m x v : Operand) (t : TypeId) (hop : o.op = Op.mapUpdate t m x v) {E : TypeId} (hT : Tryd.prog.underlying t = some (.map T E))
    (b : Nat) (ks : List K) (k : K) (hm : a.eval m = .map (some b)) (hx : a.eval x = enc k) (hv : a.eval v = .bool true) (h : KMap enc w b ks)
    (hk : ∀ w', KMap enc w' b (addK ks k) → w.grownBy w' (some b) → wpList Tryd.prog ops Q rest (a.put o.dst undef) w') : wpList Tryd.prog ops Q (o :: rest) a w := by
  refine wpList_plain hg fun K' hK' => ?_
  obtain ⟨w', hrun, r1, r2⟩ := run_update_k hkk hT h k
  unfold Oper.wp
  simp [execOp, hop, hm, hx, hv, hrun, Result.andThen]
  exact hK' _ _ (hk w' r1 r2)
theorem addK_len (ks : List K) (k : K) : (addK ks k).length ≤ ks.length + 1 := by
  unfold addK
  split
  · omega
  · simp
end
/-- A crowd: four numbers. -/
abbrev Cr := BitVec 64 × BitVec 64 × BitVec 64 × BitVec 64
def crv (c : Cr) : Value := .agg #[.int .u64 (c.1.toNat : Int), .int .u64 (c.2.1.toNat : Int), .int .u64 (c.2.2.1.toNat : Int), .int .u64 (c.2.2.2.toNat : Int)]
def crT (xs : List Nat) : Cr := (crC 0 xs, crC 1 xs, crC 2 xs, crC 3 xs)
theorem crv_crT (xs : List Nat) : Value.agg (crV xs) = crv (crT xs) := rfl
theorem crowd_eqRun (a b c d a' b' c' d' : Int) (w : World) : (Op.equalIn 10000 96 (.agg #[.int .u64 a, .int .u64 b, .int .u64 c, .int .u64 d]) (.agg #[.int .u64 a', .int .u64 b', .int .u64 c', .int .u64 d'])).run Tryd.prog w = .ok (a == a' && (b == b' && (c == c' && d == d'))) w := by
  have hu := Tryd.underlying94
  have hg := Tryd.isAgg94
  have hz := Tryd.sizeOf94
  rw [Op.equalIn]
  simp only [Sem.run_bind, run_underlying Tryd.underlying96, Result.andThen_ok]
  simp only [Std.Legacy.Range.forIn_eq_forIn_range', Std.Legacy.Range.size, Nat.sub_zero, Nat.add_sub_cancel, Nat.div_one, List.range'_succ, List.range'_zero, List.forIn_cons, List.forIn_nil]
  go_simp
  by_cases h1 : a = a'
  · by_cases h2 : b = b'
    · by_cases h3 : c = c'
      · by_cases h4 : d = d'
        · simp [h1, h2, h3, h4]
        · simp [h1, h2, h3, h4]
      · simp [h1, h2, h3]
    · simp [h1, h2]
  · simp [h1]
theorem crowd_key : KeyOk (K := Cr) 96 (.array 4 94) crv where
  hU := Tryd.underlying96
  chk := fun e k w => by kernel_rfl
  eq := fun a b w => by
    obtain ⟨a1, a2, a3, a4⟩ := a
    obtain ⟨b1, b2, b3, b4⟩ := b
    show (Op.equalIn 10000 _ (.agg _) (.agg _)).run _ _ = _
    rw [crowd_eqRun]
    congr 1
    rw [Bool.eq_iff_iff, decide_eq_true_iff]
    simp only [Bool.and_eq_true, beq_iff_eq, Prod.mk.injEq]
    constructor
    · rintro ⟨h1, h2, h3, h4⟩
      exact ⟨BitVec.eq_of_toNat_eq (by omega), BitVec.eq_of_toNat_eq (by omega), BitVec.eq_of_toNat_eq (by omega), BitVec.eq_of_toNat_eq (by omega)⟩
    · rintro ⟨rfl, rfl, rfl, rfl⟩
      exact ⟨rfl, rfl, rfl, rfl⟩
  same := fun k => by
    unfold crv
    simp [Instr.sameBits]
  now := fun k es => by
    cases es with
    | nil => exact .inl ⟨rfl, rfl⟩
    | cons e es => exact .inr rfl
end Go.Proofs.YtpnmapfabjdfjaaDoor
