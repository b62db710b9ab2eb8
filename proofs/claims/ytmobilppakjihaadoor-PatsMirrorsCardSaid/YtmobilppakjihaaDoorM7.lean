/-
  Lemmas that the theorem of this claim rests on: 5 texts, one behind the other.
-/
import Derived.Test.YtmobilppakjihaaDoorM4
import Derived.Test.YtmobilppakjihaaDoorM5
import Derived.Test.YtmobilppakjihaaDoorM6
import Derived.RangeFuncNested
import Derived.RangeFuncBound
import Derived.RangeFuncCalls
import Derived.RangeFuncLeaves
import Derived.RangeFuncFrom
import Derived.Shelf.Abstract
import Derived.Shelf.RegionOpen
import Derived.OwnWalkIn
import Derived.TacticsInMore
import Derived.LoopNIn
import Derived.LoopIn
import Derived.Test.YtmobilppakjihaaDoorM2
set_option linter.unusedSimpArgs false
set_option linter.unusedVariables false
/-
  What is wrong with a node of any kind.
-/
namespace Go.Proofs.YtmobilppakjihaaDoor
open Go.RowKit Go.Sort
attribute [local go_sem ↓] snd_eql snd_neq
set_option maxHeartbeats 4000000 in
theorem checkNode_any (d : Nd) (ao : Option Addr) (n cap : Nat) (w : World) (hsl : d.sl = .slice ao n cap) (hn : n ≤ maxLen) : Gives 46 #[ndV d] w (.int .i64 (ndE d n)) := by
  have l1 : n ≤ 9223372036854775807 := hn
  clear hn
  obtain ⟨kind, ⟨p, m⟩, neg, mi, ma, sl⟩ := d
  simp only at hsl
  subst hsl
  unfold ndV
  simp only
  by_cases hk0 : kind = 0
  · subst hk0; exact checkNode_0 p m neg mi ma ao n cap w l1
  by_cases hk1 : kind = 1
  · subst hk1; exact checkNode_1 p m neg mi ma ao n cap w l1
  by_cases hk2 : kind = 2
  · subst hk2; exact checkNode_2 p m neg mi ma ao n cap w l1
  by_cases hk3 : kind = 3
  · subst hk3; exact checkNode_3 p m neg mi ma ao n cap w l1
  by_cases hk4 : kind = 4
  · subst hk4; exact checkNode_4 p m neg mi ma ao n cap w l1
  by_cases hk5 : kind = 5
  · subst hk5; exact checkNode_5 p m neg mi ma ao n cap w l1
  by_cases hk6 : kind = 6
  · subst hk6; exact checkNode_6 p m neg mi ma ao n cap w l1
  unfold Gives
  have hk : kind < 0 ∨ 6 < kind := by omega
  have hR : ndE ⟨kind, (p, m), neg, mi, ma, .slice ao n cap⟩ n = 2 := ndE_bad (by rcases hk with hk | hk <;> simp [argB, hk])
  rw [hR]; clear hR hk
  have b0 := i_no hk0
  have b1 := i_no hk1
  have b2 := i_no hk2
  have b3 := i_no hk3
  have b4 := i_no hk4
  have b5 := i_no hk5
  have b6 := i_no hk6
  clear hk0 hk1 hk2 hk3 hk4 hk5 hk6
  go_enter Tryd.func46, Tryd.ntmps46
  go_wp2_with (first | (go_at_call 68; refine (validTimes_any _ _ _).mono ?_; rintro e w1 ⟨rfl, rfl⟩) | (go_at_call 69; with_reducible refine Gives.then (pvalid_any p m _) ?_; intro w1 hb; have hw := chain (B := w.heap.size) (a := w) (by go_grown) (by go_size) hb; clear hb))
  go_returns
  exact ⟨rfl, by first | assumption | go_grown⟩
end Go.Proofs.YtmobilppakjihaaDoor

/-
  The nodes of a pattern, yielded one after the other: walk.
-/
namespace Go.Proofs.YtmobilppakjihaaDoor
open Go.RowKit Go.Shelf Go.Sort
attribute [local go_sem] Oper.semAt_some
/-- What lay there lies there still. -/
def Ext (w0 W : World) : Prop := w0.heap.size ≤ W.heap.size ∧ ∀ b o v, b < w0.heap.size → w0.cell? ⟨b, o, none⟩ = some v → W.cell? ⟨b, o, none⟩ = some v
theorem Ext.refl (w : World) : Ext w w := ⟨Nat.le_refl _, fun _ _ _ _ h => h⟩
theorem Ext.of_below {w w' : World} (h : Below w.heap.size w w') : Ext w w' := ⟨h.size, fun b o v hb hc => (h.cell (p := ⟨b, o, none⟩) hb).trans hc⟩
theorem Ext.trans {a b c : World} (h : Ext a b) (k : Ext b c) : Ext a c := ⟨Nat.le_trans h.1 k.1, fun x o v hx hc => k.2 x o v (by have := h.1; omega) (h.2 x o v hx hc)⟩
theorem Pf.ext {w w' : World} (hb : Ext w w') : ∀ (f : Fo) (b o : Nat), b < w.heap.size → Pf w f b o → Pf w' f b o
  | .nil, _, _, _, _ => trivial
  | .cons d k r, b, o, hl, ⟨h0, h1, h2, h3, h4, h5, h6, h7, h8⟩ =>
    ⟨hb.2 _ _ _ hl h0, hb.2 _ _ _ hl h1, hb.2 _ _ _ hl h2, hb.2 _ _ _ hl h3, hb.2 _ _ _ hl h4, hb.2 _ _ _ hl h5, hb.2 _ _ _ hl h6,
      h7.mono hb.1 (fun b' o' hl' hp => Pf.ext hb k b' o' hl' hp), Pf.ext hb r b (o + 7) hl h8⟩
theorem Pt.ext {w w' : World} {d : Nd} {k : Fo} (h : Pt w d k) (hb : Ext w w') : Pt w' d k := SlOf.mono h hb.1 (fun b o hl hp => Pf.ext hb k b o hl hp)
/-- All cells stay but those of some blocks. -/
def Kc (S : Nat → Prop) (W W' : World) : Prop := W.heap.size ≤ W'.heap.size ∧ ∀ (b : Nat) (o : Obj), W.heap[b]? = some o → o.isCells = true → ¬ S b → W'.heap[b]? = some o
theorem Kc.refl (S : Nat → Prop) (W : World) : Kc S W W := ⟨Nat.le_refl _, fun _ _ h _ _ => h⟩
theorem Kc.trans {S : Nat → Prop} {A B C : World} (h : Kc S A B) (k : Kc S B C) : Kc S A C := ⟨Nat.le_trans h.1 k.1, fun b o hb ho hs => k.2 b o (h.2 b o hb ho hs) ho hs⟩
theorem Kc.put {S : Nat → Prop} (W : World) (l : Nat) (o o' : Obj) (h : W.heap[l]? = some o) (ho : o.isCells = false) : Kc S W (W.putObj l o') :=
  ⟨by simp, fun b x hb hx _ => by
    have : b ≠ l := fun e => by subst e; rw [h] at hb; cases hb; rw [ho] at hx; cases hx
    rw [World.putObj_heap_other (by omega)]; exact hb⟩
theorem Kc.alloc {S : Nat → Prop} (W : World) (O : Obj) : Kc S W (W.alloc O) := ⟨by rw [World.size_alloc]; omega, fun b x hb _ _ => (Below.heap_alloc W O b (Array.getElem?_eq_some_iff.1 hb).1).trans hb⟩
theorem Kc.of_below {S : Nat → Prop} {A B : World} (h : Below A.heap.size A B) : Kc S A B := ⟨h.size, fun b x hb _ _ => (h.block b (Array.getElem?_eq_some_iff.1 hb).1).trans hb⟩
theorem Kc.set {S : Nat → Prop} (W : World) (a : Addr) (v : Value) (h : S a.block) : Kc S W (W.setCell a v) := ⟨by rw [World.size_setCell]; exact Nat.le_refl _, fun b x hb _ hs => by
  have hne : a.block ≠ b := fun e => hs (e ▸ h)
  exact (Below.heap_setCell W a v b (fun e => hne e.symm)).trans hb⟩
theorem Kc.cell {S : Nat → Prop} {A B : World} (h : Kc S A B) {b o : Nat} {v : Value} (hs : ¬ S b) (hc : A.cell? ⟨b, o, none⟩ = some v) : B.cell? ⟨b, o, none⟩ = some v := by
  have hb : ∃ x, A.heap[b]? = some x ∧ x.isCells = true := by
    unfold World.cell? at hc
    split at hc
    · rename_i c t z hx
      exact ⟨_, hx, rfl⟩
    · cases hc
  obtain ⟨x, h1, h2⟩ := hb
  exact (World.cell?_of_block (a := ⟨b, o, none⟩) (w := A) ((h.2 b x h1 h2 hs).trans h1.symm)).trans hc
theorem Ext.kc {S : Nat → Prop} {w0 A B : World} (h : Ext w0 A) (k : Kc S A B) (hS : ∀ b, S b → w0.heap.size ≤ b) : Ext w0 B :=
  ⟨Nat.le_trans h.1 k.1, fun b o v hb hc => k.cell (fun hs => by have := hS b hs; omega) (h.2 b o v hb hc)⟩
theorem room_of_none {F : Fence} (hd : F.depth = none) (k : Nat) : F.room k := fun d h => by rw [hd] at h; cases h
theorem RoundIn.anyDepth {F : Fence} (hd : F.depth = none) {m m' : Nat} {P : Program} {l : Nat} {f : FuncId} {tmps : Array Value} {assign body : Code} {w : World} {R : Ending → World → Prop}
    (h : RoundIn F m P l f tmps assign body w R) : RoundIn F m' P l f tmps assign body w R := ⟨h.1, fun c cs _ => h.2 c cs (room_of_none hd _)⟩
theorem YieldAt.anyDepth {F : Fence} (hd : F.depth = none) {m : Nat} (m' : Nat) {P : Program} {l : Nat} {args : Array Value} {W : World} {R : Ending → World → Prop} (h : YieldAt F m P l args W R) : YieldAt F m' P l args W R := by
  obtain ⟨fn, tmps, assign, body, hy, hR⟩ := h
  exact ⟨fn, tmps, assign, body, hy, RoundIn.anyDepth hd hR⟩
/-- A node whose slice is one of so many patterns. -/
def NdOk (x : Nd × Nat) : Prop := ∃ ao cap, x.1.sl = .slice ao x.2 cap ∧ x.2 ≤ maxLen
set_option maxRecDepth 100000 in
set_option maxHeartbeats 2000000 in
theorem walk_within (w0 : World) (lid n₁ N : Nat) (S : Nat → Prop) (hS : ∀ b, S b → w0.heap.size ≤ b ∧ b < n₁) (J Jx : List (Nd × Nat) → World → Prop) (hJa : ∀ s W O, J s W → J s (World.alloc W O))
    (hY : ∀ m pre x W, NdOk x → J pre W → pre.length < N → YieldAt Fence.wide m Tryd.prog lid #[ndV x.1] W fun e W' =>
      (e = .returned (.bool true) ∧ J (pre ++ [x]) W' ∧ Kc S W W') ∨ (e = .returned (.bool false) ∧ Jx (pre ++ [x]) W')) :
    ∀ (s : Nat) (d : Nd) (k : Fo), k.size < s → ∀ (n : Nat) (pre : List (Nd × Nat)) (W : World), Pt w0 d k → Ext w0 W → n₁ ≤ W.heap.size → J pre W → pre.length + (k.size + 1) ≤ N →
      CallsIn Fence.wide n Tryd.prog 67 #[ndV d, .func (.yield lid) #[] #[]] W fun e W' =>
        (e = .returned (.bool true) ∧ J (pre ++ (d, k.len) :: k.pre) W' ∧ Kc S W W') ∨ (e = .returned (.bool false) ∧ ∃ q, q <+: (d, k.len) :: k.pre ∧ Jx (pre ++ q) W') := by
  intro s
  induction s with
  | zero => intro d k h; omega
  | succ s ih =>
  intro d k hks n pre W hp hE hn hJ hN
  obtain ⟨ao, cap, hsl, c1, m1, hcell⟩ := hp.open
  have hlk := Fo.len_size k
  have hkl := Fo.pre_length k
  have hnd : (Nd.mk d.kind d.is d.neg d.mi d.ma (.slice ao k.len cap)) = d := by rw [← hsl]
  obtain ⟨L, hL⟩ : ∃ L, k.len = L := ⟨_, rfl⟩
  have l1 : L ≤ 9223372036854775807 := by rw [← hL]; exact Nat.le_trans c1 m1
  have hy0 : ∀ (O : Obj), YieldAt Fence.wide (n - 1) Tryd.prog lid #[ndV d] (W.alloc O) fun e W' => (e = .returned (.bool true) ∧ J (pre ++ [(d, k.len)]) W' ∧ Kc S (W.alloc O) W') ∨ (e = .returned (.bool false) ∧ Jx (pre ++ [(d, k.len)]) W') :=
    fun O => hY _ pre (d, k.len) _ ⟨ao, cap, hsl, Nat.le_trans c1 m1⟩ (hJa _ _ _ hJ) (by omega)
  unfold ndV at hy0 ⊢
  rw [hsl, hL] at hy0 ⊢
  rw [hL] at hcell
  have HY := Lib.hid hy0; have HC := Lib.hid hcell; have HE := Lib.hid hE; have HS := Lib.hid hS; have HJ := Lib.hid hJa; have IH := Lib.hid ih; have HL := Lib.hid hL; have HKL := Lib.hid hkl; have HSL := Lib.hid hsl; have HP := Lib.hid hp; have HKS := Lib.hid hks; have HN := Lib.hid hN
  have hWs : ¬ S W.heap.size := fun h => by have := hS _ h; omega
  have HWS := Lib.hid hWs
  clear hy0 hcell hE hS hJa ih hL hkl hsl hp hY c1 m1 hlk hWs hnd hks hN hJ
  have hdd : ∀ k : Nat, (Fence.wide.depth.isSome = true → 1 ≤ k) := fun k h => by rw [show Fence.wide.depth = none from rfl] at h; cases h
  refine callsIn_of_wp Tryd.func67 rfl trivial ?_ rfl
  simp only [Tryd.ntmps67, List.size_toArray, List.length_cons, List.length_nil, Nat.reduceAdd, Nat.reduceSub, Array.replicate_succ, Array.replicate_zero, List.push_toArray, List.append_toArray, List.nil_append, List.cons_append]
  obtain ⟨fn, tmps, assign, body, hy, hR⟩ := HY.out (.cells #[.int .i64 d.kind, .int .u32 (d.is.1.toNat : Int), .int .u32 (d.is.2.toNat : Int), .bool d.neg, .int .i64 d.mi, .int .i64 d.ma, .slice ao L cap] 27)
  have HR := Lib.hid hR
  have hbox : (W.alloc (.cells #[.int .i64 d.kind, .int .u32 (d.is.1.toNat : Int), .int .u32 (d.is.2.toNat : Int), .bool d.neg, .int .i64 d.mi, .int .i64 d.ma, .slice ao L cap] 27)).cell? ⟨W.heap.size, 6, none⟩ = some (.slice ao L cap) := cell_block (World.alloc_heap_new W _) rfl
  have HB := Lib.hid hbox
  clear hR hbox HY
  gi_wp2
  refine ⟨hdd _, HR.out.mono ?_⟩
  clear hy HR
  rintro e W3 (⟨rfl, hJ3, hk3⟩ | ⟨rfl, hJx3⟩)
  · have hc6 := hk3.cell HWS.out HB.out
    have HJ3 := Lib.hid hJ3
    have hk4 := (Kc.alloc W _).trans hk3
    have HK4 := Lib.hid hk4
    clear hJ3 hk3 hk4 HB
    gi_wp2
    gi_loopw [14] (fun i wr => ∃ j : Nat, j ≤ L ∧ i = .int .i64 (j : Int) ∧ ∃ dn, k.pre = dn ++ (k.drop j).pre ∧ J (pre ++ (d, L) :: dn) wr ∧ Kc S W wr) (fun i _ => L - (intOf i).toNat)
    case atStart => exact ⟨0, by omega, rfl, [], by rw [Fo.drop_zero]; rfl, HJ3.out, HK4.out⟩
    case round =>
      obtain ⟨j, hj, rfl, dn, hdn, hJr, hkr⟩ := hrel
      clear hc6 HJ3 HK4
      by_cases hlt : j < L
      · obtain ⟨b, off, hao, lb, hpf⟩ := HC.out j hlt
        subst hao
        obtain ⟨d', k', he⟩ := Fo.drop_step k j (by rw [HL.out]; exact hlt)
        rw [he] at hpf hdn
        have hsz := Fo.drop_size k j
        rw [he] at hsz
        simp only [Fo.size] at hsz
        obtain ⟨e0, e1, e2, e3, e4, e5, e6, e7, -⟩ := hpf
        have hEr := HE.out.kc hkr (fun b h => (HS.out b h).1)
        have f0 := hEr.2 _ _ _ lb e0
        have f1 := hEr.2 _ _ _ lb e1
        have f2 := hEr.2 _ _ _ lb e2
        have f3 := hEr.2 _ _ _ lb e3
        have f4 := hEr.2 _ _ _ lb e4
        have f5 := hEr.2 _ _ _ lb e5
        have f6 := hEr.2 _ _ _ lb e6
        obtain ⟨ao', cap', hsl', -, -, -⟩ := Pt.open e7
        have hlen := congrArg List.length hdn
        simp only [List.length_append, Fo.pre, List.length_cons, Fo.pre_length] at hlen
        have hrec := fun (O : Obj) => IH.out d' k' (by have := HKS.out; omega) (n - 1) (pre ++ (d, L) :: dn) (wr.alloc O) e7 (hEr.trans (Ext.of_below ((Below.refl _ wr).alloc (Nat.le_refl _) O))) (by rw [World.size_alloc]; have := hkr.1; omega) (HJ.out _ _ _ hJr) (by have := HN.out; simp only [List.length_append, List.length_cons]; omega)
        unfold ndV at hrec
        rw [hsl'] at hrec f6
        have HREC := Lib.hid hrec; have HKR := Lib.hid hkr; have HDN := Lib.hid hdn
        clear hrec hkr hdn hEr hJr hlen hsz e0 e1 e2 e3 e4 e5 e6 e7 he hsl'
        gi_wp2
        refine ⟨trivial, hdd _, (HREC.out _).mono ?_⟩
        rintro e W4 (⟨rfl, hJ4, hk4⟩ | ⟨rfl, q, hq, hx4⟩)
        · have hk5 := HKR.out.trans ((Kc.alloc wr _).trans hk4)
          have HJ4 := Lib.hid hJ4; have HK5 := Lib.hid hk5
          clear hJ4 hk4 hk5 HREC
          gi_wp2
          go_roundw
          case rel => exact ⟨j + 1, by omega, by go_num, dn ++ (d', k'.len) :: k'.pre, by rw [HDN.out]; simp [Fo.pre], by have := HJ4.out; simpa [List.append_assoc] using this, HK5.out⟩
          case measure => simp [intOf]; omega
        · have HX := Lib.hid hx4; have HQ := Lib.hid hq
          clear hx4 hq HREC
          gi_wp2
          go_ret
          refine .inr ⟨rfl, (d, L) :: (dn ++ q), ?_, by have := HX.out; simpa [List.append_assoc] using this⟩
          obtain ⟨r, hr⟩ := HQ.out
          refine ⟨r ++ (k.drop (j + 1)).pre, ?_⟩
          rw [HDN.out]
          simp only [Fo.pre, List.cons_append, List.append_assoc]
          rw [← List.append_assoc q, hr]; rfl
      · obtain rfl : j = L := by omega
        have hdn' : k.pre = dn := by rw [hdn, ← HL.out, Fo.drop_len]; simp [Fo.pre]
        have HJR := Lib.hid hJr; have HKR := Lib.hid hkr; have HDN := Lib.hid hdn'
        clear hJr hkr hdn hdn'
        gi_wp2
        go_ret
        exact .inl ⟨rfl, by rw [HDN.out]; exact HJR.out, HKR.out⟩
  · have HX := Lib.hid hJx3
    clear hJx3
    gi_wp2
    go_ret
    exact .inr ⟨rfl, [(d, L)], ⟨k.pre, rfl⟩, HX.out⟩
end Go.Proofs.YtmobilppakjihaaDoor

/-
  The nodes of a pattern, as an iterator.
-/
namespace Go.Proofs.YtmobilppakjihaaDoor
open Go.RowKit Go.Shelf Go.Sort
attribute [local go_sem] Oper.semAt_some
set_option maxRecDepth 100000 in
set_option maxHeartbeats 1000000 in
theorem nodes_any (d : Nd) (ao : Option Addr) (L cap : Nat) (hsl : d.sl = .slice ao L cap) (w : World) :
    Calls Tryd.prog 45 #[ndV d] w fun e w' => e = .returned (.func (.func 66) #[] #[.pointer (some ⟨w.heap.size, 0, none⟩)]) ∧ w' = w.alloc (.cells #[.int .i64 d.kind, .int .u32 (d.is.1.toNat : Int), .int .u32 (d.is.2.toNat : Int), .bool d.neg, .int .i64 d.mi, .int .i64 d.ma, .slice ao L cap] 27) := by
  unfold ndV
  rw [hsl]
  clear hsl
  go_enter Tryd.func45, Tryd.ntmps45
  go_wp2
  go_returns
  exact ⟨rfl, rfl⟩
set_option maxRecDepth 100000 in
set_option maxHeartbeats 2000000 in
theorem nodes1_in (w0 : World) (lid n₁ : Nat) (S : Nat → Prop) (hS : ∀ b, S b → w0.heap.size ≤ b ∧ b < n₁) (J Jx : List (Nd × Nat) → World → Prop) (hJa : ∀ s W O, J s W → J s (World.alloc W O)) (d : Nd) (k : Fo) (n : Nat)
    (hY : ∀ pre x W, NdOk x → J pre W → pre.length < k.size + 1 → YieldAt Fence.wide (n - 1) Tryd.prog lid #[ndV x.1] W fun e W' =>
      (e = .returned (.bool true) ∧ J (pre ++ [x]) W' ∧ Kc S W W') ∨ (e = .returned (.bool false) ∧ Jx (pre ++ [x]) W'))
    (Bn : Nat) (W : World) (hp : Pt w0 d k) (hE : Ext w0 W) (hn : n₁ ≤ W.heap.size) (h0 : J [] W)
    (c0 : W.cell? ⟨Bn, 0, none⟩ = some (.int .i64 d.kind)) (c1 : W.cell? ⟨Bn, 1, none⟩ = some (.int .u32 (d.is.1.toNat : Int))) (c2 : W.cell? ⟨Bn, 2, none⟩ = some (.int .u32 (d.is.2.toNat : Int))) (c3 : W.cell? ⟨Bn, 3, none⟩ = some (.bool d.neg)) (c4 : W.cell? ⟨Bn, 4, none⟩ = some (.int .i64 d.mi)) (c5 : W.cell? ⟨Bn, 5, none⟩ = some (.int .i64 d.ma)) (c6 : W.cell? ⟨Bn, 6, none⟩ = some d.sl) :
    CallsIn Fence.wide n Tryd.prog 66 #[.func (.yield lid) #[] #[], .pointer (some ⟨Bn, 0, none⟩)] W fun e W' => (∃ v, e = .returned v) ∧
      ((∃ ys, ys = (d, k.len) :: k.pre ∧ J ys W') ∨ (∃ pre, pre <+: (d, k.len) :: k.pre ∧ Jx pre W')) := by
  have hdd : ∀ k : Nat, (Fence.wide.depth.isSome = true → 1 ≤ k) := fun k h => by rw [show Fence.wide.depth = none from rfl] at h; cases h
  have hw := walk_within w0 lid n₁ (k.size + 1) S hS J Jx hJa (fun m pre x W hx hj hl => YieldAt.anyDepth rfl m (hY pre x W hx hj hl)) (k.size + 1) d k (by omega) (n - 1) [] W hp hE hn h0 (by simp)
  obtain ⟨ao, cap, hsl, -, -, -⟩ := hp.open
  have hc7 : ndV d = .agg #[.int .i64 d.kind, .int .u32 (d.is.1.toNat : Int), .int .u32 (d.is.2.toNat : Int), .bool d.neg, .int .i64 d.mi, .int .i64 d.ma, .slice ao k.len cap] := by unfold ndV; rw [hsl]
  rw [hc7] at hw
  rw [hsl] at c6
  have HW := Lib.hid hw
  clear hw hY hc7 hsl hp hE
  refine callsIn_of_wp Tryd.func66 rfl trivial ?_ rfl
  simp only [Tryd.ntmps66, List.size_toArray, List.length_cons, List.length_nil, Nat.reduceAdd, Nat.reduceSub, Array.replicate_succ, Array.replicate_zero, List.push_toArray, List.append_toArray, List.nil_append, List.cons_append]
  gi_wp2
  refine ⟨trivial, hdd _, HW.out.mono ?_⟩
  rintro e W1 (⟨rfl, hJ1, -⟩ | ⟨rfl, q, hq, hx⟩)
  · have HJ := Lib.hid hJ1; clear hJ1 HW
    gi_wp2
    go_end0
    exact ⟨⟨_, rfl⟩, .inl ⟨_, rfl, by simpa using HJ.out⟩⟩
  · have HQ := Lib.hid hq; have HX := Lib.hid hx; clear hq hx HW
    gi_wp2
    go_end0
    exact ⟨⟨_, rfl⟩, .inr ⟨q, HQ.out, by simpa using HX.out⟩⟩
/-- Nodes, as they are yielded. -/
abbrev Nx := { x : Nd × Nat // NdOk x }
/-- The cells of a node in a box. -/
def NdAt (W : World) (q : Nat) (d : Nd) : Prop := W.cell? ⟨q, 0, none⟩ = some (.int .i64 d.kind) ∧ W.cell? ⟨q, 1, none⟩ = some (.int .u32 (d.is.1.toNat : Int)) ∧ W.cell? ⟨q, 2, none⟩ = some (.int .u32 (d.is.2.toNat : Int)) ∧ W.cell? ⟨q, 3, none⟩ = some (.bool d.neg) ∧ W.cell? ⟨q, 4, none⟩ = some (.int .i64 d.mi) ∧ W.cell? ⟨q, 5, none⟩ = some (.int .i64 d.ma) ∧ W.cell? ⟨q, 6, none⟩ = some d.sl
theorem NdAt.new (W : World) (d : Nd) (t : TypeId) : NdAt (W.alloc (.cells #[.int .i64 d.kind, .int .u32 (d.is.1.toNat : Int), .int .u32 (d.is.2.toNat : Int), .bool d.neg, .int .i64 d.mi, .int .i64 d.ma, d.sl] t)) W.heap.size d :=
  ⟨cell_block (World.alloc_heap_new W _) rfl, cell_block (World.alloc_heap_new W _) rfl, cell_block (World.alloc_heap_new W _) rfl, cell_block (World.alloc_heap_new W _) rfl, cell_block (World.alloc_heap_new W _) rfl, cell_block (World.alloc_heap_new W _) rfl, cell_block (World.alloc_heap_new W _) rfl⟩
theorem NdAt.grown {X Y : World} {row : Option Nat} {q : Nat} {d : Nd} (h : NdAt X q d) (hg : X.grownBy Y row) (hr : ∀ r, row = some r → ∃ o : Obj, X.heap[r]? = some o ∧ o.isCells = false) : NdAt Y q d :=
  ⟨cell_kept h.1 hg hr, cell_kept h.2.1 hg hr, cell_kept h.2.2.1 hg hr, cell_kept h.2.2.2.1 hg hr, cell_kept h.2.2.2.2.1 hg hr, cell_kept h.2.2.2.2.2.1 hg hr, cell_kept h.2.2.2.2.2.2 hg hr⟩
theorem NdAt.below {X Y : World} {q : Nat} {d : Nd} (h : NdAt X q d) (hb : Below X.heap.size X Y) (hq : q < X.heap.size) : NdAt Y q d :=
  ⟨(hb.cell (p := ⟨q, 0, none⟩) hq).trans h.1, (hb.cell (p := ⟨q, 1, none⟩) hq).trans h.2.1, (hb.cell (p := ⟨q, 2, none⟩) hq).trans h.2.2.1, (hb.cell (p := ⟨q, 3, none⟩) hq).trans h.2.2.2.1, (hb.cell (p := ⟨q, 4, none⟩) hq).trans h.2.2.2.2.1, (hb.cell (p := ⟨q, 5, none⟩) hq).trans h.2.2.2.2.2.1, (hb.cell (p := ⟨q, 6, none⟩) hq).trans h.2.2.2.2.2.2⟩
/-- The iterator's contract. -/
theorem nodes_stops (d : Nd) (k : Fo) (n : Nat) (Bn : Nat) (S : Nat → Prop) (w0 W1 : World) (hS : ∀ b, S b → w0.heap.size ≤ b ∧ b < W1.heap.size) (hp : Pt w0 d k) (hE : Ext w0 W1) (hB : NdAt W1 Bn d) :
    SeqStopsK Fence.wide n Tryd.prog 66 #[.pointer (some ⟨Bn, 0, none⟩)] (fun x : Nx => #[ndV x.1.1]) (Kc S) (fun ys => ys.map (·.1) = (d, k.len) :: k.pre) (fun pre => pre.map (·.1) <+: (d, k.len) :: k.pre) (k.size + 1) W1 := by
  intro lid J Jx W hW hJ hJx hY h0
  have hlt : Bn < W1.heap.size := World.block_lt_of_cell? _ _ hB.1
  have hB2 := hB.below hW hlt
  refine (nodes1_in w0 lid W1.heap.size S hS (fun pre W => ∃ pre' : List Nx, pre'.map (·.1) = pre ∧ J pre' W) (fun pre W => ∃ pre' : List Nx, pre'.map (·.1) = pre ∧ Jx pre' W) ?_ d k n ?_ Bn W hp (hE.trans (Ext.of_below hW)) hW.size ⟨[], rfl, h0⟩ hB2.1 hB2.2.1 hB2.2.2.1 hB2.2.2.2.1 hB2.2.2.2.2.1 hB2.2.2.2.2.2.1 hB2.2.2.2.2.2.2).mono ?_
  · rintro s W O ⟨pre', e, hj⟩
    exact ⟨pre', e, hJ _ _ _ none hj (World.grownBy_alloc W O none) (fun r e => by cases e)⟩
  · rintro pre x W hx ⟨pre', rfl, hj⟩ hlen
    refine YieldAt.mono (hY pre' ⟨x, hx⟩ W hj (by simpa using hlen)) ?_
    rintro e W' (⟨he, hj', hk⟩ | ⟨he, hj'⟩)
    · exact .inl ⟨he, ⟨pre' ++ [⟨x, hx⟩], by simp, hj'⟩, hk⟩
    · exact .inr ⟨he, ⟨pre' ++ [⟨x, hx⟩], by simp, hj'⟩⟩
  · rintro e W' ⟨hv, (⟨ys, rfl, ys', e1, hj⟩ | ⟨pre, hpre, pre', rfl, hj⟩)⟩
    · exact ⟨hv, .inl ⟨ys', e1, hj⟩⟩
    · exact ⟨hv, .inr ⟨pre', hpre, hj⟩⟩
end Go.Proofs.YtmobilppakjihaaDoor

/-
  Size and Check.
-/
namespace Go.Proofs.YtmobilppakjihaaDoor
open Go.RowKit Go.Shelf Go.Sort
attribute [local go_sem] Oper.semAt_some
/-- How many nodes a pattern has, as Size says it. -/
def szP (k : Fo) : Nat := min (k.size + 1) 41
theorem wpIn_gen {F : Fence} {n : Nat} {P : Program} {c : Code} {Q : Exit → Act → World → Prop} {a : Act} {W : World} (h : ∀ W1, W1 = W → c.wpIn F n P Q a W1) : c.wpIn F n P Q a W := h W rfl
theorem frozen_past {w : World} {X : Obj} {b o : Nat} (hl : b < w.heap.size) (h : w.frozen? ⟨b, o, none⟩ = false) : (w.alloc X).frozen? ⟨b, o, none⟩ = false := (((Below.refl _ w).alloc (Nat.le_refl _) X).frozen (p := ⟨b, o, none⟩) hl).trans h
theorem below_put {w W : World} {D : Nat} {o o' : Obj} (hB : Below w.heap.size w W) (hD : w.heap.size ≤ D) (hK : W.heap[D]? = some o) (ho : o.isCells = false) (ho2 : o.isWalk = false) : Below w.heap.size w (W.putObj D o') :=
  hB.trans (belowK_b (w := w) (Nat.le_refl _) W D o o' hD hK ho ho2)
set_option maxHeartbeats 4000000 in
set_option maxRecDepth 100000 in
theorem size_any (d : Nd) (k : Fo) (w : World) (hp : Pt w d k) : Gives 16 #[ndV d] w (.int .i64 (szP k : Int)) := by
  unfold Gives
  obtain ⟨ao, cap, hsl, c1, m1, -⟩ := hp.open
  have hnod := fun W => nodes_any d ao k.len cap hsl W
  have hc7 : ndV d = .agg #[.int .i64 d.kind, .int .u32 (d.is.1.toNat : Int), .int .u32 (d.is.2.toNat : Int), .bool d.neg, .int .i64 d.mi, .int .i64 d.ma, .slice ao k.len cap] := by unfold ndV; rw [hsl]
  have hpl := Fo.pre_length k
  obtain ⟨L, hL⟩ : ∃ L, k.len = L := ⟨_, rfl⟩
  rw [hc7] at hnod ⊢
  rw [hL] at hnod ⊢
  have hsl' := hsl
  rw [hL] at hsl'
  have HNOD := Lib.hid hnod; have HP := Lib.hid hp; have HSL := Lib.hid hsl'; have HPL := Lib.hid hpl
  clear hnod hp hsl hsl' hc7 c1 m1 hL hpl
  refine (callsIn_wide (n := 5)).1 ?_
  refine callsIn_of_wp_marks Tryd.func16 rfl trivial ?_ rfl
  simp only [Tryd.ntmps16, List.size_toArray, List.length_cons, List.length_nil, Nat.reduceAdd, Nat.reduceSub, Array.replicate_succ, Array.replicate_zero, List.push_toArray, List.append_toArray, List.nil_append, List.cons_append]
  gi_wp2_with (refine ⟨trivial, ?_⟩; gi_at_call 45; refine (callsIn_wide.2 (HNOD.out _)).mono ?_; rintro e w2 ⟨rfl, rfl⟩)
  refine wpIn_gen ?_
  intro W1 hW1
  have hB1 : Below w.heap.size w W1 := by rw [hW1]; go_grown
  have hz1 : W1.heap.size = w.heap.size + 3 := by rw [hW1]; simp
  have hS0 : W1.cell? ⟨w.heap.size + 1, 0, none⟩ = some (.int .i64 0) := by
    rw [hW1]; go_cell
  have hS1 : W1.frozen? ⟨w.heap.size + 1, 0, none⟩ = false := by
    rw [hW1]; exact frozen_past (by simp) (by have := frozen_block (World.alloc_heap_new (w.alloc (.cells #[.int .i64 d.kind, .int .u32 (d.is.1.toNat : Int), .int .u32 (d.is.2.toNat : Int), .bool d.neg, .int .i64 d.mi, .int .i64 d.ma, .slice ao L cap] 27)) (.cells #[.int .i64 0] 3)) (o := 0); rwa [World.size_alloc] at this)
  have hNd : NdAt W1 (w.heap.size + 2) d := by
    rw [hW1]
    have := NdAt.new ((w.alloc (.cells #[.int .i64 d.kind, .int .u32 (d.is.1.toNat : Int), .int .u32 (d.is.2.toNat : Int), .bool d.neg, .int .i64 d.mi, .int .i64 d.ma, .slice ao L cap] 27)).alloc (.cells #[.int .i64 0] 3)) d 27
    rw [HSL.out] at this
    simpa using this
  clear hW1
  refine wpIn_rangeFunc_ownF (α := Nx) rfl (by decide) (gf := 66) (lb := #[.pointer (some ⟨w.heap.size + 2, 0, none⟩)]) rfl trivial (enters_of Tryd.func66 (by kernel_rfl) rfl)
    (nodes_stops d k _ (w.heap.size + 2) (fun b => b = w.heap.size + 1) w W1 (fun b h => by omega) HP.out (Ext.of_below hB1) hNd)
    Kc.trans (fun W l o o' _ h hc _ => Kc.put W l o o' h hc) (Below.refl _ _) (fun _ => rfl)
    (fun pre W => (W.cell? ⟨w.heap.size + 1, 0, none⟩ = some (.int .i64 (pre.length : Int)) ∧ W.frozen? ⟨w.heap.size + 1, 0, none⟩ = false ∧ pre.length ≤ 41) ∧ Below w.heap.size w W)
    (fun c pre W => (W.cell? ⟨w.heap.size + 1, 0, none⟩ = some (.int .i64 41) ∧ c = .exit 0 ∧ pre.length = 42) ∧ Below w.heap.size w W)
    (OwnFrom.and (Own.from (fun s A B row hs hg hr => ⟨cell_kept hs.1 hg hr, (frozen_kept hs.1 hg hr).trans hs.2.1, hs.2.2⟩) _) (ownFrom_below (Nat.le_refl _) (by omega)))
    (fun c => OwnFrom.and (Own.from (fun s A B row hs hg hr => ⟨cell_kept hs.1 hg hr, hs.2⟩) _) (ownFrom_below (Nat.le_refl _) (by omega)))
    ⟨⟨hS0, hS1, by simp⟩, hB1⟩
    ?a1 ?assign ?body ?done ?stop
  case assign =>
    intro l x W K hK
    gi_wp2
    exact hK
  case body =>
    rintro l pre x W ⟨⟨ec, ef, hle⟩, hB⟩ hlen
    have HB := Lib.hid hB
    clear hB hlen
    by_cases hp40 : pre.length ≤ 40
    · obtain ⟨m, hm⟩ : ∃ m, pre.length = m := ⟨_, rfl⟩
      have HM := Lib.hid hm
      rw [hm] at ec hp40 hle
      clear hm
      gi_wp2
      refine ⟨KeepsOthers.setCell _ _ _, Kc.set _ _ _ rfl, ⟨?_, ?_, ?_⟩, HB.out.setCell (p := ⟨w.heap.size + 1, 0, none⟩) (by simp only []; omega) _⟩
      · rw [List.length_append, HM.out]; exact World.cell?_setCell_same' _ _ _ (by rw [ec]; rfl)
      · rw [World.frozen?_setCell]; exact ef
      · rw [List.length_append, HM.out]; simp; omega
    · have hm : pre.length = 41 := by omega
      have HM := Lib.hid hm
      rw [hm] at ec
      clear hm hp40 hle
      gi_wp2
      exact ⟨KeepsOthers.refl _, ⟨ec, rfl, by rw [List.length_append, HM.out]; rfl⟩, HB.out⟩
  case done =>
    rintro D ys W hD hys ⟨⟨ec, ef, hle⟩, hB⟩ hK
    have hl : szP k = ys.length := by
      have := congrArg List.length hys
      rw [List.length_map, List.length_cons, HPL.out] at this
      unfold szP
      omega
    gi_wp2
    refine ⟨by simp, .inl ⟨_, _, rfl, run_takeDeferred hK, ?_⟩⟩
    exact ⟨_, results_tmp rfl _ _ _, by rw [hl]; rfl, below_put hB (by omega) hK rfl rfl⟩
  case stop =>
    rintro D c pre W hD hpre ⟨⟨ec, rfl, hl⟩, hB⟩ hK
    have hl2 : szP k = 41 := by
      have := hpre.length_le
      rw [List.length_map, List.length_cons, HPL.out] at this
      unfold szP
      omega
    gi_wp2
    refine ⟨by simp, .inl ⟨_, _, rfl, run_takeDeferred hK, ?_⟩⟩
    exact ⟨_, results_tmp rfl _ _ _, by rw [hl2]; rfl, below_put hB (by omega) hK rfl rfl⟩
end Go.Proofs.YtmobilppakjihaaDoor

/-
  Check.
-/
namespace Go.Proofs.YtmobilppakjihaaDoor
open Go.RowKit Go.Shelf Go.Sort
attribute [local go_sem] Oper.semAt_some
theorem keep_set2 {w1 : World} {a : Addr} {u : Value} {b o : Nat} {v : Value} (h : w1.cell? ⟨b, o, none⟩ = some v) (hb : b ≠ a.block) : (w1.setCell a u).cell? ⟨b, o, none⟩ = some v := by
  rw [World.cell?_setCell_far _ _ _ _ (by simp; omega)]; exact h
theorem ko_of_below {W W' : World} (h : Below W.heap.size W W') : KeepsOthers W W' := ⟨h.size, fun k o hk _ => (h.block k (Array.getElem?_eq_some_iff.1 hk).1).trans hk⟩
theorem wkL_snoc {l : List (Nd × Nat)} {x : Nd × Nat} {m : Nat} (h : wkL l 0 = (m, 0)) : wkL (l ++ [x]) 0 = if m = 40 then (40, 12) else if ndE x.1 x.2 = 0 then (m + 1, 0) else (m, ndE x.1 x.2) := by
  rw [wkL_append, h]; simp [wkL]
theorem wkL_stop {a l : List (Nd × Nat)} (hp : a <+: l) (h : (wkL a 0).2 ≠ 0) : (wkL l 0).2 = (wkL a 0).2 := by
  obtain ⟨r, rfl⟩ := hp
  rw [wkL_append, if_neg h]
set_option maxHeartbeats 4000000 in
set_option maxRecDepth 100000 in
theorem pcheck_any (d : Nd) (k : Fo) (w : World) (hp : Pt w d k) : Gives 14 #[ndV d] w (.int .i64 (pkE d k)) := by
  unfold Gives
  obtain ⟨ao, cap, hsl, c1, m1, -⟩ := hp.open
  have hnod := fun W => nodes_any d ao k.len cap hsl W
  have hc7 : ndV d = .agg #[.int .i64 d.kind, .int .u32 (d.is.1.toNat : Int), .int .u32 (d.is.2.toNat : Int), .bool d.neg, .int .i64 d.mi, .int .i64 d.ma, .slice ao k.len cap] := by unfold ndV; rw [hsl]
  obtain ⟨L, hL⟩ : ∃ L, k.len = L := ⟨_, rfl⟩
  rw [hc7] at hnod ⊢
  rw [hL] at hnod ⊢
  have hsl' := hsl
  rw [hL] at hsl'
  have HNOD := Lib.hid hnod; have HP := Lib.hid hp; have HSL := Lib.hid hsl'
  clear hnod hp hsl hsl' hc7 c1 m1 hL
  refine (callsIn_wide (n := 5)).1 ?_
  refine callsIn_of_wp_marks Tryd.func14 rfl trivial ?_ rfl
  simp only [Tryd.ntmps14, List.size_toArray, List.length_cons, List.length_nil, Nat.reduceAdd, Nat.reduceSub, Array.replicate_succ, Array.replicate_zero, List.push_toArray, List.append_toArray, List.nil_append, List.cons_append]
  gi_wp2_with (refine ⟨trivial, ?_⟩; gi_at_call 45; refine (callsIn_wide.2 (HNOD.out _)).mono ?_; rintro e w2 ⟨rfl, rfl⟩)
  refine wpIn_gen ?_
  intro W1 hW1
  have hB1 : Below w.heap.size w W1 := by rw [hW1]; go_grown
  have hz1 : W1.heap.size = w.heap.size + 4 := by rw [hW1]; simp
  obtain ⟨P, hP⟩ : ∃ P : Obj, P = (.cells #[.int .i64 d.kind, .int .u32 (d.is.1.toNat : Int), .int .u32 (d.is.2.toNat : Int), .bool d.neg, .int .i64 d.mi, .int .i64 d.ma, .slice ao L cap] 27) := ⟨_, rfl⟩
  rw [← hP] at hW1
  have hR0 : W1.cell? ⟨w.heap.size + 1, 0, none⟩ = some (.int .i64 0) := by
    rw [hW1]; go_cell
  have hR1 : W1.frozen? ⟨w.heap.size + 1, 0, none⟩ = false := by
    rw [hW1]; exact frozen_past (by simp) (frozen_past (by simp) (by have := frozen_block (World.alloc_heap_new (w.alloc P) (.cells #[.int .i64 0] 28)) (o := 0); rwa [World.size_alloc] at this))
  have hS0 : W1.cell? ⟨w.heap.size + 2, 0, none⟩ = some (.int .i64 0) := by
    rw [hW1]; go_cell
  have hS1 : W1.frozen? ⟨w.heap.size + 2, 0, none⟩ = false := by
    rw [hW1]; exact frozen_past (by simp) (by have := frozen_block (World.alloc_heap_new ((w.alloc P).alloc (.cells #[.int .i64 0] 28)) (.cells #[.int .i64 0] 3)) (o := 0); rwa [World.size_alloc, World.size_alloc] at this)
  have hNd : NdAt W1 (w.heap.size + 3) d := by
    have := NdAt.new (((w.alloc P).alloc (.cells #[.int .i64 0] 28)).alloc (.cells #[.int .i64 0] 3)) d 27
    rw [HSL.out, ← hP, ← hW1] at this
    simpa using this
  clear hW1 hP
  refine wpIn_rangeFunc_ownH (α := Nx) rfl (by decide) (gf := 66) (lb := #[.pointer (some ⟨w.heap.size + 3, 0, none⟩)]) rfl trivial (enters_of Tryd.func66 (by kernel_rfl) rfl)
    (nodes_stops d k _ (w.heap.size + 3) (fun b => b = w.heap.size + 1 ∨ b = w.heap.size + 2) w W1 (fun b h => by omega) HP.out (Ext.of_below hB1) hNd)
    Kc.trans (fun W l o o' _ h hc _ => Kc.put W l o o' h hc) (Below.refl _ _) (fun _ => rfl)
    (fun pre W => (W.cell? ⟨w.heap.size + 1, 0, none⟩ = some (.int .i64 0) ∧ W.frozen? ⟨w.heap.size + 1, 0, none⟩ = false ∧ W.cell? ⟨w.heap.size + 2, 0, none⟩ = some (.int .i64 (pre.length : Int)) ∧ W.frozen? ⟨w.heap.size + 2, 0, none⟩ = false ∧ wkL (pre.map (·.1)) 0 = (pre.length, 0) ∧ pre.length ≤ 40) ∧ Below w.heap.size w W)
    (fun c pre W => (∃ e, W.cell? ⟨w.heap.size + 1, 0, none⟩ = some (.int .i64 e) ∧ c = .ret ∧ (wkL (pre.map (·.1)) 0).2 = e ∧ e ≠ 0) ∧ Below w.heap.size w W)
    (OwnFrom.and (Own.from (fun s A B row hs hg hr => ⟨cell_kept hs.1 hg hr, (frozen_kept hs.1 hg hr).trans hs.2.1, cell_kept hs.2.2.1 hg hr, (frozen_kept hs.2.2.1 hg hr).trans hs.2.2.2.1, hs.2.2.2.2⟩) _) (ownFrom_below (Nat.le_refl _) (by omega)))
    (fun c => OwnFrom.and (Own.from (fun s A B row hs hg hr => by obtain ⟨e, h1, h2⟩ := hs; exact ⟨e, cell_kept h1 hg hr, h2⟩) _) (ownFrom_below (Nat.le_refl _) (by omega)))
    ⟨⟨hR0, hR1, hS0, hS1, rfl, by simp⟩, hB1⟩
    (fun x a' W => ∃ q, w.heap.size + 2 < q ∧ NdAt W q x.1.1 ∧ ∃ t8, a' = { tmps := #[.agg #[.int .i64 d.kind, .int .u32 (d.is.1.toNat : Int), .int .u32 (d.is.2.toNat : Int), .bool d.neg, .int .i64 d.mi, .int .i64 d.ma, .slice ao L cap], .pointer (some ⟨w.heap.size, 0, none⟩), .pointer (some ⟨w.heap.size + 1, 0, none⟩), .pointer (some ⟨w.heap.size + 1 + 1, 0, none⟩), .pointer (some ⟨q, 0, none⟩), undef, .agg #[.int .i64 d.kind, .int .u32 (d.is.1.toNat : Int), .int .u32 (d.is.2.toNat : Int), .bool d.neg, .int .i64 d.mi, .int .i64 d.ma, .slice ao L cap], .func (.func 66) #[] #[.pointer (some ⟨w.heap.size + 1 + 1 + 1, 0, none⟩)], t8, undef, undef, undef, undef, undef, undef, undef, undef, undef], defers := [] })
    (fun x a' _ X Y row ⟨q, h1, h2, h3⟩ hg hr => ⟨q, h1, h2.grown hg (fun r e => (hr r e).2), h3⟩)
    ?assign ?body ?done ?stop
  case assign =>
    rintro l pre ⟨⟨⟨kd, ⟨i1, i2⟩, ng, mi, ma, sl⟩, n⟩, ao', cap', hx, hn⟩ W K ⟨hI, hB⟩ hK
    simp only at hx
    subst hx
    have hsz : w.heap.size + 2 < W.heap.size := World.block_lt_of_cell? _ _ hI.2.2.1
    have hK2 := hK { tmps := #[.agg #[.int .i64 d.kind, .int .u32 (d.is.1.toNat : Int), .int .u32 (d.is.2.toNat : Int), .bool d.neg, .int .i64 d.mi, .int .i64 d.ma, .slice ao L cap], .pointer (some ⟨w.heap.size, 0, none⟩), .pointer (some ⟨w.heap.size + 1, 0, none⟩), .pointer (some ⟨w.heap.size + 1 + 1, 0, none⟩), .pointer (some ⟨W.heap.size, 0, none⟩), undef, .agg #[.int .i64 d.kind, .int .u32 (d.is.1.toNat : Int), .int .u32 (d.is.2.toNat : Int), .bool d.neg, .int .i64 d.mi, .int .i64 d.ma, .slice ao L cap], .func (.func 66) #[] #[.pointer (some ⟨w.heap.size + 1 + 1 + 1, 0, none⟩)], .agg #[.int .i64 kd, .int .u32 (i1.toNat : Int), .int .u32 (i2.toNat : Int), .bool ng, .int .i64 mi, .int .i64 ma, .slice ao' n cap'], undef, undef, undef, undef, undef, undef, undef, undef, undef], defers := [] }
      (W.alloc (.cells #[.int .i64 kd, .int .u32 (i1.toNat : Int), .int .u32 (i2.toNat : Int), .bool ng, .int .i64 mi, .int .i64 ma, .slice ao' n cap'] 27))
      ((KeepsOthers.alloc W _).from _) (Kc.alloc W _)
      ⟨⟨keep_alloc hI.1 (by omega), frozen_past (by omega) hI.2.1, keep_alloc hI.2.2.1 hsz, frozen_past hsz hI.2.2.2.1, hI.2.2.2.2⟩, hB.alloc hB.size _⟩ ⟨W.heap.size, hsz, NdAt.new W ⟨kd, (i1, i2), ng, mi, ma, .slice ao' n cap'⟩ _, _, rfl⟩
    have HK := Lib.hid hK2
    clear hK hK2 hI hB
    dsimp only [ndV]
    gi_wp2
    exact HK.out
  case body =>
    rintro l pre ⟨⟨x, n⟩, ao', cap', hx, hn⟩ a' W _ _ ⟨⟨eR, fR, eS, fS, hwk, hle⟩, hB⟩ ⟨q, hq, hnd, t8, rfl⟩ hlen
    have hsz : w.heap.size + 2 < W.heap.size := World.block_lt_of_cell? _ _ eS
    simp only at hx hn hnd
    have hck := checkNode_any x ao' n cap' W hx hn
    have hsn := wkL_snoc (x := (x, n)) hwk
    unfold ndV at hck
    obtain ⟨q0, q1, q2, q3, q4, q5, q6⟩ := hnd
    rw [hx] at hck q6
    obtain ⟨m, hm⟩ : ∃ m, pre.length = m := ⟨_, rfl⟩
    have HM := Lib.hid hm
    rw [hm] at eS hle hsn
    simp only at hsn
    have HB := Lib.hid hB; have HCK := Lib.hid hck; have HSN := Lib.hid hsn
    clear hB hck hsn hwk hm hlen
    by_cases h40 : m = 40
    · subst h40
      have hsn := HSN.out
      rw [if_pos rfl] at hsn
      have HSN2 := Lib.hid hsn
      clear HSN HCK hsn
      gi_wp2
      refine ⟨(KeepsOthers.setCell _ _ _).from _, ⟨12, World.cell?_setCell_same' _ _ _ (by rw [eR]; rfl), rfl, by rw [List.map_append]; exact congrArg Prod.snd HSN2.out, by decide⟩, HB.out.setCell (p := ⟨w.heap.size + 1, 0, none⟩) (by simp only []; omega) _⟩
    · have hsn := HSN.out
      rw [if_neg h40] at hsn
      have h41 : m < 40 := by omega
      have hb40 : ((m : Int) == 40) = false := by rw [beq_eq_false_iff_ne]; omega
      clear HSN hle h40
      obtain ⟨er, her⟩ : ∃ er, ndE x n = er := ⟨_, rfl⟩
      rw [her] at hsn HCK
      clear her
      by_cases h0 : er = 0
      · subst h0
        rw [if_pos rfl] at hsn
        have HSN2 := Lib.hid hsn
        clear hsn
        gi_wp2_with (refine ⟨trivial, ?_⟩; gi_at_call 46; refine (CallsIn.inRound l (callsIn_wide.2 HCK.out)).mono ?_; rintro e w5 ⟨rfl, hb⟩; obtain ⟨kc, kf, kz⟩ := bcell hb; have s1 := (kc _ 0 (show w.heap.size + 1 < W.heap.size by omega)).trans eR; have s2 := (kf _ 0 (show w.heap.size + 1 < W.heap.size by omega)).trans fR; have s3 := (kc _ 0 hsz).trans eS; have s4 := (kf _ 0 hsz).trans fS; clear kc kf)
        refine ⟨((ko_of_below hb).trans (KeepsOthers.setCell _ _ _)).from _, (Kc.of_below hb).trans (Kc.set _ _ _ (.inr rfl)), ⟨keep_set2 s1 (by simp only []; omega), by rw [World.frozen?_setCell]; exact s2, ?_, by rw [World.frozen?_setCell]; exact s4, ?_, ?_⟩, (HB.out.trans (hb.mono HB.out.size)).setCell (p := ⟨w.heap.size + 2, 0, none⟩) (by simp only []; omega) _⟩
        · rw [List.length_append, HM.out]; exact World.cell?_setCell_same' _ _ _ (by rw [s3]; rfl)
        · rw [List.map_append, List.length_append, HM.out]; exact HSN2.out
        · rw [List.length_append, HM.out]; simp; omega
      · rw [if_neg h0] at hsn
        have HSN2 := Lib.hid hsn
        have hbe : (er == 0) = false := by simpa using h0
        have H0 := Lib.hid h0
        clear hsn
        gi_wp2_with (refine ⟨trivial, ?_⟩; gi_at_call 46; refine (CallsIn.inRound l (callsIn_wide.2 HCK.out)).mono ?_; rintro e w5 ⟨rfl, hb⟩; obtain ⟨kc, kf, kz⟩ := bcell hb; have s1 := (kc _ 0 (show w.heap.size + 1 < W.heap.size by omega)).trans eR; have s2 := (kf _ 0 (show w.heap.size + 1 < W.heap.size by omega)).trans fR; clear kc kf)
        refine ⟨((ko_of_below hb).trans (KeepsOthers.setCell _ _ _)).from _, ⟨er, World.cell?_setCell_same' _ _ _ (by rw [s1]; rfl), rfl, by rw [List.map_append]; exact congrArg Prod.snd HSN2.out, H0.out⟩, (HB.out.trans (hb.mono HB.out.size)).setCell (p := ⟨w.heap.size + 1, 0, none⟩) (by simp only []; omega) _⟩
  case done =>
    rintro D ys W hD hys ⟨⟨eR, fR, eS, fS, hwk, hle⟩, hB⟩ hK
    have hl : pkE d k = 0 := by
      unfold pkE
      rw [← hys, hwk]
    have hsz : w.heap.size + 2 < W.heap.size := World.block_lt_of_cell? _ _ eS
    gi_wp2
    have hK2 := (KeepsOthers.setCell W ⟨w.heap.size + 1, 0, none⟩ (.int .i64 0)).same D _ hK rfl
    have hc2 : (W.setCell ⟨w.heap.size + 1, 0, none⟩ (.int .i64 0)).cell? ⟨w.heap.size + 1, 0, none⟩ = some (.int .i64 0) := World.cell?_setCell_same' _ _ _ (by rw [eR]; rfl)
    have hc3 := cell_kept hc2 (grownBy_putObj' _ D (.deferred none)) (fun r e => by cases e; exact ⟨_, hK2, rfl⟩)
    refine ⟨by simp, .inl ⟨_, _, rfl, run_takeDeferred hK2, ?_⟩⟩
    have hbf := below_put (hB.setCell (p := ⟨w.heap.size + 1, 0, none⟩) (by simp only []; omega) (.int .i64 0)) (by omega) hK2 rfl rfl (o' := .deferred none)
    exact ⟨.int .i64 0, (by simp [results, Tryd.results14, go_sem, hc3]), by rw [hl], hbf⟩
  case stop =>
    rintro D c pre W hD hpre ⟨⟨er, eR, rfl, hwk, he0⟩, hB⟩ hK
    have hl : pkE d k = er := by
      unfold pkE
      rw [wkL_stop hpre (by rw [hwk]; exact he0), hwk]
    gi_wp2
    have hc3 := cell_kept eR (grownBy_putObj' _ D (.deferred none)) (fun r e => by cases e; exact ⟨_, hK, rfl⟩)
    refine ⟨by simp, .inl ⟨_, _, rfl, run_takeDeferred hK, ?_⟩⟩
    exact ⟨.int .i64 er, (by simp [results, Tryd.results14, go_sem, hc3]), by rw [hl], below_put hB (by omega) hK rfl rfl⟩
end Go.Proofs.YtmobilppakjihaaDoor
