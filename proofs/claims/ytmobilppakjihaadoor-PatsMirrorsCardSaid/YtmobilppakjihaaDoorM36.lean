/-
  Lemmas that the theorem of this claim rests on: 3 texts, one behind the other.
-/
import Derived.Test.YtmobilppakjihaaDoorM35
import Derived.Test.YtmobilppakjihaaDoorM29
import Derived.Test.YtmobilppakjihaaDoorM28
set_option linter.unusedSimpArgs false
set_option linter.unusedVariables false
/-
  Mirror of a valid pattern.
-/
namespace Go.Proofs.YtmobilppakjihaaDoor
open Go.RowKit Go.Sort
set_option maxRecDepth 100000 in
set_option maxHeartbeats 4000000 in
theorem mirror_any (d : Nd) (k : Fo) (w : World) (hp : Pt w d k) (hE : pkE d k = 0) :
    Calls Tryd.prog 35 #[ndV d] w fun e w' => ∃ d' k', e = .returned (.tuple #[ndV d', .int .i64 0]) ∧ ptq (mirD d) (mirC d k) d' k' = true ∧ Pt w' d' k' ∧ (∃ ao cap, d'.sl = .slice ao k'.len cap) ∧ Below w.heap.size w w' := by
  have hck := fun (W : World) (hb : Below w.heap.size w W) => pcheck_any d k W (hp.below hb)
  have hmi := fun (W : World) (hb : Below w.heap.size w W) => mirror_all (k.size + 1) d k (by omega) W (hp.below hb) (by have := (pkE_good hE).2.2; omega)
  rw [hE] at hck
  obtain ⟨ao, cap, hsl, -, -, -⟩ := hp.open
  generalize mirD d = md at *
  generalize mirC d k = mk at *
  obtain ⟨kind, ⟨p, m⟩, neg, mi, ma, sl⟩ := d
  simp only at hsl
  subst hsl
  obtain ⟨kl, hkl⟩ : ∃ kl, k.len = kl := ⟨_, rfl⟩
  rw [hkl] at hck hmi ⊢
  unfold ndV at hck hmi ⊢
  simp only at hck hmi ⊢
  have HCK := Lib.hid hck; have HMI := Lib.hid hmi
  clear hck hmi hp hE hkl
  have R0 := Lib.hid (show ((w.alloc (.cells #[.int .i64 kind, .int .u32 (p.toNat : Int), .int .u32 (m.toNat : Int), .bool neg, .int .i64 mi, .int .i64 ma, .slice ao kl cap] 27)).alloc (.cells #[.int .i64 0, .int .u32 0, .int .u32 0, .bool false, .int .i64 0, .int .i64 0, .slice none 0 0] 27)).heap[w.heap.size]? = some (.cells #[.int .i64 kind, .int .u32 (p.toNat : Int), .int .u32 (m.toNat : Int), .bool neg, .int .i64 mi, .int .i64 ma, .slice ao kl cap] 27) from (Below.heap_alloc _ _ _ (by rw [World.size_alloc]; omega)).trans (World.alloc_heap_new w _))
  have Z0 := Lib.hid (show ((w.alloc (.cells #[.int .i64 kind, .int .u32 (p.toNat : Int), .int .u32 (m.toNat : Int), .bool neg, .int .i64 mi, .int .i64 ma, .slice ao kl cap] 27)).alloc (.cells #[.int .i64 0, .int .u32 0, .int .u32 0, .bool false, .int .i64 0, .int .i64 0, .slice none 0 0] 27)).heap[w.heap.size + 1]? = some (.cells #[.int .i64 0, .int .u32 0, .int .u32 0, .bool false, .int .i64 0, .int .i64 0, .slice none 0 0] 27 (0, 0)) from heap_alloc2_new w _ _)
  have HB0 := Lib.hid (show Below w.heap.size w ((w.alloc (.cells #[.int .i64 kind, .int .u32 (p.toNat : Int), .int .u32 (m.toNat : Int), .bool neg, .int .i64 mi, .int .i64 ma, .slice ao kl cap] 27)).alloc (.cells #[.int .i64 0, .int .u32 0, .int .u32 0, .bool false, .int .i64 0, .int .i64 0, .slice none 0 0] 27)) by go_grown)
  go_enter Tryd.func35, Tryd.ntmps35
  go_wp2_with fail
  generalize ((w.alloc (.cells #[.int .i64 kind, .int .u32 (p.toNat : Int), .int .u32 (m.toNat : Int), .bool neg, .int .i64 mi, .int .i64 ma, .slice ao kl cap] 27)).alloc (.cells #[.int .i64 0, .int .u32 0, .int .u32 0, .bool false, .int .i64 0, .int .i64 0, .slice none 0 0] 27)) = v0 at *
  go_at_call 14
  refine Gives.then (HCK.out _ HB0.out) ?_
  intro w1 hb
  have HB1 := Lib.hid (HB0.out.trans (hb.mono HB0.out.size))
  have R1 := Lib.hid ((hb.block _ (Array.getElem?_eq_some_iff.1 R0.out).1).trans R0.out)
  have Z1 := Lib.hid ((hb.block _ (Array.getElem?_eq_some_iff.1 Z0.out).1).trans Z0.out)
  clear hb R0 Z0 HB0 HCK
  have g0 := cell_block R1.out (o := 0) rfl; have g1 := cell_block R1.out (o := 1) rfl; have g2 := cell_block R1.out (o := 2) rfl; have g3 := cell_block R1.out (o := 3) rfl; have g4 := cell_block R1.out (o := 4) rfl; have g5 := cell_block R1.out (o := 5) rfl; have g6 := cell_block R1.out (o := 6) rfl
  go_wp2_with fail
  go_at_call 62
  refine (HMI.out _ HB1.out).mono ?_
  rintro e w2 ⟨d3, k3, rfl, hq, hr, ho, hs, hb⟩
  have HQ := Lib.hid hq; have HS := Lib.hid hs
  obtain ⟨a3, c3, hs3⟩ := hs
  have hlz := (Array.getElem?_eq_some_iff.1 Z1.out).1
  have HLZ := Lib.hid hlz
  have HR := Lib.hid hr
  have HB2 := Lib.hid (HB1.out.trans (hb.mono HB1.out.size))
  have Z2 := Lib.hid ((hb.block _ hlz).trans Z1.out)
  have HSZ := Lib.hid hb.size
  clear hq hr ho hb Z1 R1 HMI g0 g1 g2 g3 g4 g5 g6 hlz
  obtain ⟨kd3, ⟨p3, m3⟩, neg3, mi3, ma3, sl3⟩ := d3
  simp only at hs3
  subst hs3
  simp only
  have h0 := cell_block Z2.out (o := 0) rfl; have h1 := cell_block Z2.out (o := 1) rfl; have h2 := cell_block Z2.out (o := 2) rfl; have h3 := cell_block Z2.out (o := 3) rfl; have h4 := cell_block Z2.out (o := 4) rfl; have h5 := cell_block Z2.out (o := 5) rfl; have h6 := cell_block Z2.out (o := 6) rfl
  have f0 := frozen_block Z2.out (o := 0); have f1 := frozen_block Z2.out (o := 1); have f2 := frozen_block Z2.out (o := 2); have f3 := frozen_block Z2.out (o := 3); have f4 := frozen_block Z2.out (o := 4); have f5 := frozen_block Z2.out (o := 5); have f6 := frozen_block Z2.out (o := 6)
  go_wp2_with fail
  refine bodyPost_gen ?_
  intro Wf hWf
  have RF := Lib.hid (show Wf.heap[w.heap.size + 1]? = some (.cells #[.int .i64 kd3, .int .u32 (p3.toNat : Int), .int .u32 (m3.toNat : Int), .bool neg3, .int .i64 mi3, .int .i64 ma3, .slice a3 k3.len c3] 27 (0, 0)) by rw [hWf]; exact seven Z2.out _ _ _ _ _ _ _)
  have RO := Lib.hid (show Old (w.heap.size + 1 + 1) w2 Wf by rw [hWf]; (repeat (first | (with_reducible exact Old.refl _ _) | refine Old.set ?_ (by simp only []; omega) _)))
  have RL := Lib.hid (show Below w.heap.size w Wf by rw [hWf]; (repeat (first | (with_reducible exact HB2.out) | refine Below.setCell ?_ (by simp only []; omega) _)))
  clear hWf h0 h1 h2 h3 h4 h5 h6 f0 f1 f2 f3 f4 f5 f6
  have q0 : Wf.cell? ⟨w.heap.size + 1, 0, none⟩ = some (.int .i64 kd3) := cell_block RF.out rfl
  have q1 : Wf.cell? ⟨w.heap.size + 1, 1, none⟩ = some (.int .u32 (p3.toNat : Int)) := cell_block RF.out rfl
  have q2 : Wf.cell? ⟨w.heap.size + 1, 2, none⟩ = some (.int .u32 (m3.toNat : Int)) := cell_block RF.out rfl
  have q3 : Wf.cell? ⟨w.heap.size + 1, 3, none⟩ = some (.bool neg3) := cell_block RF.out rfl
  have q4 : Wf.cell? ⟨w.heap.size + 1, 4, none⟩ = some (.int .i64 mi3) := cell_block RF.out rfl
  have q5 : Wf.cell? ⟨w.heap.size + 1, 5, none⟩ = some (.int .i64 ma3) := cell_block RF.out rfl
  have q6 : Wf.cell? ⟨w.heap.size + 1, 6, none⟩ = some (.slice a3 k3.len c3) := cell_block RF.out rfl
  refine bodyPost_ret (v := .tuple #[.agg #[.int .i64 kd3, .int .u32 (p3.toNat : Int), .int .u32 (m3.toNat : Int), .bool neg3, .int .i64 mi3, .int .i64 ma3, .slice a3 k3.len c3], .int .i64 0]) (by simp [results, Tryd.results35, go_sem, q0, q1, q2, q3, q4, q5, q6]) rfl ?_
  have hpt : PtR Wf (w.heap.size + 1 + 1) Wf.heap.size ⟨kd3, (p3, m3), neg3, mi3, ma3, .slice a3 k3.len c3⟩ k3 := HR.out.move (by have := HLZ.out; omega) (by rw [RO.out.1]; exact Nat.le_refl _) (fun b h1 _ => RO.out.2 b (by have := HLZ.out; omega))
  first | exact ⟨⟨kd3, (p3, m3), neg3, mi3, ma3, .slice a3 k3.len c3⟩, k3, rfl, HQ.out, hpt.pt (Nat.le_refl _), HS.out, RL.out⟩ | exact ⟨⟨kd3, (p3, m3), neg3, mi3, ma3, .slice a3 k3.len c3⟩, rfl, k3, HQ.out, hpt.pt (Nat.le_refl _), HS.out, RL.out⟩
end Go.Proofs.YtmobilppakjihaaDoor

/-
  The mirror of a pattern matches in the word backwards.
-/
namespace Go.Proofs.YtmobilppakjihaaDoor
open Go.RowKit Go.Sort
/-- Tables of which one is the other one's mirror, for n sounds. -/
def MirT (n : Nat) (x y : Tb) : Prop := OkT n x ∧ OkT n y ∧ ∀ a b, a ≤ n → b ≤ n → (mem x a b ↔ mem y (n - b) (n - a))
theorem MirT.same {n : Nat} (hn : n < 64) : MirT n (sameT n) (sameT n) := by
  refine ⟨OkT.same hn, OkT.same hn, fun a b ha hb => ?_⟩
  rw [same_bit hn, same_bit hn]; omega
theorem MirT.zero (n : Nat) : MirT n zeroT zeroT := ⟨OkT.zero n, OkT.zero n, fun a b _ _ => by simp [mem, zeroT]⟩
theorem MirT.or {n : Nat} {x y u v : Tb} (h1 : MirT n x y) (h2 : MirT n u v) : MirT n (orT x u) (orT y v) :=
  ⟨h1.1.or h2.1, h1.2.1.or h2.2.1, fun a b ha hb => by rw [or_bit, or_bit, h1.2.2 a b ha hb, h2.2.2 a b ha hb]⟩
theorem MirT.thn {n : Nat} {x y u v : Tb} (h1 : MirT n x y) (h2 : MirT n u v) : MirT n (thnT n x u) (thnT n v y) := by
  refine ⟨h1.1.thn h2.1, h2.2.1.thn h1.2.1, fun a c ha hc => ?_⟩
  rw [thn_bit, thn_bit]
  constructor
  · rintro ⟨b, hb, h3, h4⟩
    exact ⟨n - b, by omega, (h2.2.2 b c hb hc).1 h4, (h1.2.2 a b ha hb).1 h3⟩
  · rintro ⟨b, hb, h3, h4⟩
    refine ⟨n - b, by omega, (h1.2.2 a (n - b) ha (by omega)).2 ?_, (h2.2.2 (n - b) c (by omega) hc).2 ?_⟩
    · rw [show n - (n - b) = b from by omega]; exact h4
    · rw [show n - (n - b) = b from by omega]; exact h3
theorem pw_left {n : Nat} {x : Tb} (hn : n < 64) (hx : OkT n x) (k : Nat) : thnT n x (pwT n x k) = pwT n x (k + 1) := by
  have h1 : pwT n x 1 = x := by
    show thnT n (sameT n) x = x
    exact same_thn hn hx
  have := pw_add hn hx 1 k
  rw [h1, Nat.add_comm] at this
  exact this
theorem MirT.pw {n : Nat} (hn : n < 64) {x y : Tb} (h : MirT n x y) : ∀ k, MirT n (pwT n x k) (pwT n y k)
  | 0 => MirT.same hn
  | k + 1 => by
    have := (MirT.pw hn h k).thn h
    rw [pw_left hn h.2.1 k] at this
    exact this
theorem MirT.rep {n : Nat} (hn : n ≤ 32) {x y : Tb} (h : MirT n x y) {lo : Nat} {hi : Int} (hh : hi = -1 ∨ (lo : Int) ≤ hi) : MirT n (repT n x lo hi) (repT n y lo hi) := by
  refine ⟨OkT.rep (by omega) h.1 lo hi, OkT.rep (by omega) h.2.1 lo hi, fun a b ha hb => ?_⟩
  rw [rep_bit hn h.1 hh, rep_bit hn h.2.1 hh]
  constructor
  · rintro ⟨k, k1, k2, k3⟩; exact ⟨k, k1, k2, ((MirT.pw (by omega) h k).2.2 a b ha hb).1 k3⟩
  · rintro ⟨k, k1, k2, k3⟩; exact ⟨k, k1, k2, ((MirT.pw (by omega) h k).2.2 a b ha hb).2 k3⟩
/-- Lists of such tables. -/
def MirTs (n : Nat) : List Tb → List Tb → Prop
  | [], [] => True
  | x :: xs, y :: ys => MirT n x y ∧ MirTs n xs ys
  | _, _ => False
theorem MirTs.or {n : Nat} : ∀ (xs ys : List Tb) (u v : Tb), MirT n u v → MirTs n xs ys → MirT n (xs.foldl orT u) (ys.foldl orT v)
  | [], [], _, _, h, _ => h
  | x :: xs, y :: ys, u, v, h, ⟨h1, h2⟩ => MirTs.or xs ys _ _ (h.or h1) h2
  | [], _ :: _, _, _, _, h => h.elim
  | _ :: _, [], _, _, _, h => h.elim
/-- The fold, from the right. -/
def seqR (n : Nat) : List Tb → Tb
  | [] => sameT n
  | x :: xs => thnT n x (seqR n xs)
theorem foldl_thn {n : Nat} : ∀ (xs : List Tb) (u : Tb), OkT n u → n < 64 → (∀ x ∈ xs, OkT n x) → xs.foldl (thnT n) u = thnT n u (seqR n xs)
  | [], u, hu, hn, _ => (thn_same hn hu).symm
  | x :: xs, u, hu, hn, h => by
    rw [List.foldl_cons, foldl_thn xs _ (hu.thn (h x (by simp))) hn (fun y hy => h y (by simp [hy])), thn_assoc]
    rfl
theorem OkT.seqR {n : Nat} (hn : n < 64) : ∀ (xs : List Tb), (∀ x ∈ xs, OkT n x) → OkT n (seqR n xs)
  | [], _ => OkT.same hn
  | x :: xs, h => (h x (by simp)).thn (OkT.seqR hn xs (fun y hy => h y (by simp [hy])))
theorem MirTs.ok {n : Nat} : ∀ (xs ys : List Tb), MirTs n xs ys → (∀ x ∈ xs, OkT n x) ∧ ∀ y ∈ ys, OkT n y
  | [], [], _ => ⟨fun _ h => by simp at h, fun _ h => by simp at h⟩
  | x :: xs, y :: ys, ⟨h1, h2⟩ => by
    have ih := MirTs.ok xs ys h2
    refine ⟨fun z hz => ?_, fun z hz => ?_⟩
    · rcases List.mem_cons.1 hz with rfl | hz
      · exact h1.1
      · exact ih.1 z hz
    · rcases List.mem_cons.1 hz with rfl | hz
      · exact h1.2.1
      · exact ih.2 z hz
  | [], _ :: _, h => h.elim
  | _ :: _, [], h => h.elim
theorem MirTs.seq {n : Nat} (hn : n < 64) : ∀ (xs ys : List Tb), MirTs n xs ys → MirT n (xs.foldl (thnT n) (sameT n)) (ys.reverse.foldl (thnT n) (sameT n))
  | [], [], _ => MirT.same hn
  | x :: xs, y :: ys, ⟨h1, h2⟩ => by
    have ih := MirTs.seq hn xs ys h2
    have ok := MirTs.ok xs ys h2
    have e1 : (x :: xs).foldl (thnT n) (sameT n) = thnT n x (xs.foldl (thnT n) (sameT n)) := by
      rw [List.foldl_cons, same_thn hn h1.1, foldl_thn xs x h1.1 hn ok.1, foldl_thn xs (sameT n) (OkT.same hn) hn ok.1, same_thn hn (OkT.seqR hn xs ok.1)]
    have e2 : (y :: ys).reverse.foldl (thnT n) (sameT n) = thnT n (ys.reverse.foldl (thnT n) (sameT n)) y := by
      rw [List.reverse_cons, List.foldl_append]
      rfl
    rw [e1, e2]
    exact h1.thn ih
  | [], _ :: _, h => h.elim
  | _ :: _, [], h => h.elim
theorem tabF_map (ss : List Snd) : ∀ l : List (Nd × Fo), tabF ss (toFo l) = l.map fun x => tabP ss x.1 x.2
  | [] => rfl
  | x :: l => by
    show tabP ss x.1 x.2 :: tabF ss (toFo l) = _
    rw [tabF_map ss l]; rfl
theorem MirTs.head {n : Nat} {xs ys : List Tb} (h : MirTs n xs ys) : MirT n (xs.headD zeroT) (ys.headD zeroT) := by
  cases xs with
  | nil => cases ys with
    | nil => exact MirT.zero n
    | cons y ys => exact h.elim
  | cons x xs => cases ys with
    | nil => exact h.elim
    | cons y ys => exact h.1
theorem snd_mir {ss : List Snd} (hn : ss.length ≤ 32) (c : Snd) (neg : Bool) (x y : Tb) (hx : x = fun a => match ss[a]? with
    | none => 0#64
    | some s => if satB s c != neg then 1#64 <<< (a + 1) else 0#64) (hy : y = fun a => match ss.reverse[a]? with
    | none => 0#64
    | some s => if satB s c != neg then 1#64 <<< (a + 1) else 0#64) (hox : OkT ss.length x) (hoy : OkT ss.length y) : MirT ss.length x y := by
  have key : ∀ (tt : List Snd), tt.length ≤ 32 → ∀ a b, ((match tt[a]? with
    | none => 0#64
    | some s => if satB s c != neg then 1#64 <<< (a + 1) else 0#64 : BitVec 64).getLsbD b = true ↔ ∃ h : a < tt.length, (satB tt[a] c != neg) = true ∧ b = a + 1) := by
    intro tt ht a b
    by_cases ha : a < tt.length
    · rw [List.getElem?_eq_getElem ha]
      simp only
      by_cases hs : (satB tt[a] c != neg) = true
      · rw [if_pos hs, one_shl (by omega)]
        simp [ha, hs, eq_comm]
      · rw [if_neg hs]
        simp [hs]
    · rw [List.getElem?_eq_none (by omega)]
      simp [ha]
  refine ⟨hox, hoy, fun a b ha hb => ?_⟩
  subst hx
  subst hy
  unfold mem
  simp only
  rw [key ss hn, key ss.reverse (by simpa using hn)]
  constructor
  · rintro ⟨h1, h2, rfl⟩
    have h3 : ss.length - (a + 1) < ss.reverse.length := by simp; omega
    refine ⟨h3, ?_, by omega⟩
    rw [List.getElem_reverse]
    have e : ss.length - 1 - (ss.length - (a + 1)) = a := by omega
    simp only [e]
    exact h2
  · rintro ⟨h1, h2, h3⟩
    have h4 : a < ss.length := by simp at h1; omega
    refine ⟨h4, ?_, by omega⟩
    rw [List.getElem_reverse] at h2
    have e : ss.length - 1 - (ss.length - b) = a := by omega
    simp only [e] at h2
    exact h2
theorem mir_node {ss : List Snd} (hn : ss.length ≤ 32) {d : Nd} {m : Nat} (hd : ndE d m = 0) (xs ys : List Tb) (h : MirTs ss.length xs ys) : MirT ss.length (tabN ss d xs) (tabN ss.reverse (mirD d) (if d.kind = 3 then ys.reverse else ys)) := by
  have ok := MirTs.ok xs ys h
  have hlr : ss.reverse.length = ss.length := by simp
  have o1 := OkT.node hn d xs ok.1
  have o2 : OkT ss.length (tabN ss.reverse (mirD d) (if d.kind = 3 then ys.reverse else ys)) := by
    have := OkT.node (ss := ss.reverse) (by rw [hlr]; exact hn) (mirD d) (if d.kind = 3 then ys.reverse else ys) (by
      rw [hlr]
      intro t ht
      split at ht
      · exact ok.2 t (by simpa using ht)
      · exact ok.2 t ht)
    rwa [hlr] at this
  obtain ⟨l1, l2, -, -, -, -, -⟩ := ndE_ok hd
  obtain ⟨kind, is, neg, mi, ma, sl⟩ := d
  simp only at l1 l2
  have hk : kind = 0 ∨ kind = 1 ∨ kind = 2 ∨ kind = 3 ∨ kind = 4 ∨ kind = 5 ∨ kind = 6 := by omega
  rcases hk with rfl | rfl | rfl | rfl | rfl | rfl | rfl
  · have e1 : tabN ss ⟨0, is, neg, mi, ma, sl⟩ xs = sameT ss.length := rfl
    have e2 : tabN ss.reverse (mirD ⟨0, is, neg, mi, ma, sl⟩) (if (0 : Int) = 3 then ys.reverse else ys) = sameT ss.length := by rw [← hlr]; rfl
    simp only at e2 ⊢
    rw [e1, e2]
    exact MirT.same (by omega)
  · exact snd_mir hn is neg _ _ rfl rfl o1 o2
  · refine ⟨o1, o2, fun a b ha hb => ?_⟩
    show ((if a = 0 then 1#64 else 0#64 : BitVec 64).getLsbD b = true) ↔ ((if ss.length - b = ss.reverse.length then 1#64 <<< (ss.length - b) else 0#64 : BitVec 64).getLsbD (ss.length - a) = true)
    rw [hlr]
    have h1 : ((if a = 0 then 1#64 else 0#64 : BitVec 64).getLsbD b = true) ↔ a = 0 ∧ b = 0 := by
      split
      · rw [show (1#64) = 1#64 <<< 0 from rfl, one_shl (by omega)]; simp; omega
      · simp; omega
    have h2 : ((if ss.length - b = ss.length then 1#64 <<< (ss.length - b) else 0#64 : BitVec 64).getLsbD (ss.length - a) = true) ↔ ss.length - b = ss.length ∧ ss.length - b = ss.length - a := by
      split
      · rw [one_shl (by omega)]; simp; omega
      · simp; omega
    rw [h1, h2]; omega
  · have e1 : tabN ss ⟨3, is, neg, mi, ma, sl⟩ xs = xs.foldl (thnT ss.length) (sameT ss.length) := rfl
    have e2 : tabN ss.reverse (mirD ⟨3, is, neg, mi, ma, sl⟩) (if (3 : Int) = 3 then ys.reverse else ys) = ys.reverse.foldl (thnT ss.length) (sameT ss.length) := by rw [← hlr]; rfl
    simp only at e2 ⊢
    rw [e1, e2]
    exact MirTs.seq (by omega) xs ys h
  · have e1 : tabN ss ⟨4, is, neg, mi, ma, sl⟩ xs = xs.foldl orT zeroT := rfl
    have e2 : tabN ss.reverse (mirD ⟨4, is, neg, mi, ma, sl⟩) (if (4 : Int) = 3 then ys.reverse else ys) = ys.foldl orT zeroT := rfl
    simp only at e2 ⊢
    rw [e1, e2]
    exact MirTs.or xs ys _ _ (MirT.zero _) h
  · have e1 : tabN ss ⟨5, is, neg, mi, ma, sl⟩ xs = repT ss.length (xs.headD zeroT) mi.toNat ma := rfl
    have e2 : tabN ss.reverse (mirD ⟨5, is, neg, mi, ma, sl⟩) (if (5 : Int) = 3 then ys.reverse else ys) = repT ss.length (ys.headD zeroT) mi.toNat ma := by rw [← hlr]; rfl
    simp only at e2 ⊢
    rw [e1, e2]
    exact MirT.rep hn h.head (rep_ok (d := ⟨5, is, neg, mi, ma, sl⟩) hd rfl)
  · refine ⟨o1, o2, fun a b ha hb => ?_⟩
    show ((if a = ss.length then 1#64 <<< a else 0#64 : BitVec 64).getLsbD b = true) ↔ ((if ss.length - b = 0 then 1#64 else 0#64 : BitVec 64).getLsbD (ss.length - a) = true)
    have h1 : ((if a = ss.length then 1#64 <<< a else 0#64 : BitVec 64).getLsbD b = true) ↔ a = ss.length ∧ a = b := by
      split
      · rw [one_shl (by omega)]; simp; omega
      · simp; omega
    have h2 : ((if ss.length - b = 0 then 1#64 else 0#64 : BitVec 64).getLsbD (ss.length - a) = true) ↔ ss.length - b = 0 ∧ ss.length - a = 0 := by
      split
      · rw [show (1#64) = 1#64 <<< 0 from rfl, one_shl (by omega)]; simp; omega
      · simp; omega
    rw [h1, h2]; omega
theorem mir_forest {ss : List Snd} (hn : ss.length ≤ 32) : ∀ f : Fo, f.good → MirTs ss.length (tabF ss f) ((mirL f).map fun x => tabP ss.reverse x.1 x.2)
  | .nil, _ => trivial
  | .cons d k r, ⟨h1, h2, h3⟩ => by
    have ih := mir_forest hn k h2
    refine ⟨?_, mir_forest hn r h3⟩
    have := mir_node hn h1 _ _ ih
    have e : tabF ss.reverse (toFo (if d.kind = 3 then (mirL k).reverse else mirL k)) = if d.kind = 3 then ((mirL k).map fun x => tabP ss.reverse x.1 x.2).reverse else (mirL k).map fun x => tabP ss.reverse x.1 x.2 := by
      rw [tabF_map]
      split
      · rw [List.map_reverse]
      · rfl
    show MirT ss.length (tabP ss d k) (tabP ss.reverse (mirD d) (toFo (if d.kind = 3 then (mirL k).reverse else mirL k)))
    unfold tabP
    rw [e]
    exact this
/-- The table of the mirror, in the word backwards. -/
theorem mir_tab {ss : List Snd} (hn : ss.length ≤ 32) {d : Nd} {k : Fo} (hd : ndE d k.len = 0) (hk : k.good) : MirT ss.length (tabP ss d k) (tabP ss.reverse (mirD d) (mirC d k)) := by
  have := mir_forest hn (.cons d k .nil) ⟨hd, hk, trivial⟩
  exact this.1
end Go.Proofs.YtmobilppakjihaaDoor

/-
  Patterns that are the same, and mirrors of mirrors.
-/
namespace Go.Proofs.YtmobilppakjihaaDoor
open Go.RowKit Go.Sort
theorem ptq_iff {d d' : Nd} {k k' : Fo} : ptq d k d' k' = true ↔ d.kind = d'.kind ∧ d.is = d'.is ∧ d.neg = d'.neg ∧ d.mi = d'.mi ∧ d.ma = d'.ma ∧ k.eqv k' = true := by
  unfold ptq
  simp only [Bool.and_eq_true, decide_eq_true_eq, beq_iff_eq]
  constructor
  · rintro ⟨⟨⟨⟨⟨h1, h2⟩, h3⟩, h4⟩, h5⟩, h6⟩; exact ⟨h1, h2, h3, h4, h5, h6⟩
  · rintro ⟨h1, h2, h3, h4, h5, h6⟩; exact ⟨⟨⟨⟨⟨h1, h2⟩, h3⟩, h4⟩, h5⟩, h6⟩
theorem eqv_cons {d d' : Nd} {k k' r r' : Fo} : (Fo.cons d k r).eqv (.cons d' k' r') = true ↔ ptq d k d' k' = true ∧ r.eqv r' = true := by
  rw [ptq_cons, Bool.and_eq_true]
theorem eqv_symm : ∀ (f g : Fo), f.eqv g = true → g.eqv f = true
  | .nil, .nil, _ => rfl
  | .cons d k r, .cons d' k' r', h => by
    obtain ⟨h1, h2⟩ := eqv_cons.1 h
    obtain ⟨a, b, c, e, f, g⟩ := ptq_iff.1 h1
    exact eqv_cons.2 ⟨ptq_iff.2 ⟨a.symm, b.symm, c.symm, e.symm, f.symm, eqv_symm k k' g⟩, eqv_symm r r' h2⟩
  | .nil, .cons .., h => by simp [Fo.eqv] at h
  | .cons .., .nil, h => by simp [Fo.eqv] at h
theorem eqv_trans : ∀ (f g u : Fo), f.eqv g = true → g.eqv u = true → f.eqv u = true
  | .nil, .nil, .nil, _, _ => rfl
  | .cons d k r, .cons d' k' r', .cons d2 k2 r2, h, h' => by
    obtain ⟨h1, h2⟩ := eqv_cons.1 h
    obtain ⟨h3, h4⟩ := eqv_cons.1 h'
    obtain ⟨a, b, c, e, f, g⟩ := ptq_iff.1 h1
    obtain ⟨a', b', c', e', f', g'⟩ := ptq_iff.1 h3
    exact eqv_cons.2 ⟨ptq_iff.2 ⟨a.trans a', b.trans b', c.trans c', e.trans e', f.trans f', eqv_trans k k' k2 g g'⟩, eqv_trans r r' r2 h2 h4⟩
  | .nil, .cons .., _, h, _ => by simp [Fo.eqv] at h
  | .cons .., .nil, _, h, _ => by simp [Fo.eqv] at h
  | .nil, .nil, .cons .., _, h => by simp [Fo.eqv] at h
  | .cons .., .cons .., .nil, _, h => by simp [Fo.eqv] at h
theorem ptq_symm {d d' : Nd} {k k' : Fo} (h : ptq d k d' k' = true) : ptq d' k' d k = true := by
  obtain ⟨a, b, c, e, f, g⟩ := ptq_iff.1 h
  exact ptq_iff.2 ⟨a.symm, b.symm, c.symm, e.symm, f.symm, eqv_symm k k' g⟩
theorem ptq_trans {d d' d2 : Nd} {k k' k2 : Fo} (h : ptq d k d' k' = true) (h' : ptq d' k' d2 k2 = true) : ptq d k d2 k2 = true := by
  obtain ⟨a, b, c, e, f, g⟩ := ptq_iff.1 h
  obtain ⟨a', b', c', e', f', g'⟩ := ptq_iff.1 h'
  exact ptq_iff.2 ⟨a.trans a', b.trans b', c.trans c', e.trans e', f.trans f', eqv_trans k k' k2 g g'⟩
theorem eqv_size : ∀ (f g : Fo), f.eqv g = true → f.size = g.size
  | .nil, .nil, _ => rfl
  | .cons d k r, .cons d' k' r', h => by
    obtain ⟨h1, h2⟩ := eqv_cons.1 h
    obtain ⟨-, -, -, -, -, g⟩ := ptq_iff.1 h1
    simp only [Fo.size, eqv_size k k' g, eqv_size r r' h2]
  | .nil, .cons .., h => by simp [Fo.eqv] at h
  | .cons .., .nil, h => by simp [Fo.eqv] at h
theorem ndE_same {d d' : Nd} (h1 : d.kind = d'.kind) (h2 : d.is = d'.is) (h3 : d.neg = d'.neg) (h4 : d.mi = d'.mi) (h5 : d.ma = d'.ma) (n : Nat) : ndE d n = ndE d' n := by
  unfold ndE argB
  rw [h1, h2, h3, h4, h5]
theorem tabN_same {d d' : Nd} (h1 : d.kind = d'.kind) (h2 : d.is = d'.is) (h3 : d.neg = d'.neg) (h4 : d.mi = d'.mi) (h5 : d.ma = d'.ma) (ss : List Snd) (ts : List Tb) : tabN ss d ts = tabN ss d' ts := by
  unfold tabN
  rw [h1, h2, h3, h4, h5]
theorem eqv_good : ∀ (f g : Fo), f.eqv g = true → f.good → g.good
  | .nil, .nil, _, _ => trivial
  | .cons d k r, .cons d' k' r', h, ⟨g1, g2, g3⟩ => by
    obtain ⟨h1, h2⟩ := eqv_cons.1 h
    obtain ⟨a, b, c, e, f, g⟩ := ptq_iff.1 h1
    refine ⟨?_, eqv_good k k' g g2, eqv_good r r' h2 g3⟩
    rw [← Fo.eqv_len k k' g, ← ndE_same a b c e f]; exact g1
  | .nil, .cons .., h, _ => by simp [Fo.eqv] at h
  | .cons .., .nil, h, _ => by simp [Fo.eqv] at h
theorem eqv_tab (ss : List Snd) : ∀ (f g : Fo), f.eqv g = true → tabF ss f = tabF ss g
  | .nil, .nil, _ => rfl
  | .cons d k r, .cons d' k' r', h => by
    obtain ⟨h1, h2⟩ := eqv_cons.1 h
    obtain ⟨a, b, c, e, f, g⟩ := ptq_iff.1 h1
    show tabN ss d (tabF ss k) :: tabF ss r = tabN ss d' (tabF ss k') :: tabF ss r'
    rw [eqv_tab ss k k' g, eqv_tab ss r r' h2, tabN_same a b c e f]
  | .nil, .cons .., h => by simp [Fo.eqv] at h
  | .cons .., .nil, h => by simp [Fo.eqv] at h
theorem ptq_tab (ss : List Snd) {d d' : Nd} {k k' : Fo} (h : ptq d k d' k' = true) : tabP ss d k = tabP ss d' k' := by
  obtain ⟨a, b, c, e, f, g⟩ := ptq_iff.1 h
  unfold tabP
  rw [eqv_tab ss k k' g, tabN_same a b c e f]
theorem ptq_valid {d d' : Nd} {k k' : Fo} (h : ptq d k d' k' = true) (hE : pkE d k = 0) : pkE d' k' = 0 := by
  obtain ⟨a, b, c, e, f, g⟩ := ptq_iff.1 h
  obtain ⟨g1, g2, g3⟩ := pkE_good hE
  refine pkE_of ?_ (eqv_good k k' g g2) (by rw [← eqv_size k k' g]; exact g3)
  rw [← Fo.eqv_len k k' g, ← ndE_same a b c e f]; exact g1
theorem ptq_sz {d d' : Nd} {k k' : Fo} (h : ptq d k d' k' = true) : szP k = szP k' := by
  obtain ⟨-, -, -, -, -, g⟩ := ptq_iff.1 h
  unfold szP
  rw [eqv_size k k' g]
/-- The mirror of a list. -/
def mirX (x : Nd × Fo) : Nd × Fo := (mirD x.1, mirC x.1 x.2)
theorem mirL_toFo : ∀ l : List (Nd × Fo), mirL (toFo l) = l.map mirX
  | [] => rfl
  | x :: l => by
    show (mirD x.1, toFo (if x.1.kind = 3 then (mirL x.2).reverse else mirL x.2)) :: mirL (toFo l) = _
    rw [mirL_toFo l]; rfl
theorem mirK_mirK (k : Int) : mirK (mirK k) = k := by
  unfold mirK
  by_cases h2 : k = 2
  · subst h2; rfl
  · by_cases h6 : k = 6
    · subst h6; rfl
    · simp [h2, h6]
theorem mirK_3 (k : Int) : mirK k = 3 ↔ k = 3 := by
  unfold mirK
  by_cases h2 : k = 2
  · subst h2; simp
  · by_cases h6 : k = 6
    · subst h6; simp
    · simp [h2, h6]
theorem mirD_mirD (d : Nd) : mirD (mirD d) = d := by
  unfold mirD
  simp only [mirK_mirK]
theorem mir_back : ∀ f : Fo, toFo (mirL (toFo (mirL f))) = f
  | .nil => rfl
  | .cons d k r => by
    show Fo.cons (mirD (mirD d)) (mirC (mirD d) (mirC d k)) (toFo (mirL (toFo (mirL r)))) = _
    rw [mir_back r, mirD_mirD]
    have ih := mir_back k
    have : mirC (mirD d) (mirC d k) = k := by
      unfold mirC
      have hk : (mirD d).kind = 3 ↔ d.kind = 3 := mirK_3 d.kind
      by_cases h3 : d.kind = 3
      · rw [if_pos (hk.2 h3), if_pos h3, mirL_toFo, List.map_reverse, List.reverse_reverse, ← mirL_toFo]
        exact ih
      · rw [if_neg (fun h => h3 (hk.1 h)), if_neg h3]
        exact ih
    rw [this]
theorem mirC_back (d : Nd) (k : Fo) : mirC (mirD d) (mirC d k) = k := by
  unfold mirC
  have hk : (mirD d).kind = 3 ↔ d.kind = 3 := mirK_3 d.kind
  by_cases h3 : d.kind = 3
  · rw [if_pos (hk.2 h3), if_pos h3, mirL_toFo, List.map_reverse, List.reverse_reverse, ← mirL_toFo]
    exact mir_back k
  · rw [if_neg (fun h => h3 (hk.1 h)), if_neg h3]
    exact mir_back k
theorem mir_congr : ∀ (f g : Fo), f.eqv g = true → EqL (mirL f) (mirL g) = true
  | .nil, .nil, _ => rfl
  | .cons d k r, .cons d' k' r', h => by
    obtain ⟨h1, h2⟩ := eqv_cons.1 h
    obtain ⟨a, b, c, e, f, g⟩ := ptq_iff.1 h1
    have ih := mir_congr k k' g
    show (ptq (mirD d) _ (mirD d') _ && EqL (mirL r) (mirL r')) = true
    rw [mir_congr r r' h2, Bool.and_true]
    refine ptq_iff.2 ⟨by unfold mirD; simp only [a], b, c, e, f, ?_⟩
    rw [eqv_toFo]
    by_cases h3 : d.kind = 3
    · rw [if_pos h3, if_pos (a ▸ h3)]; exact EqL.reverse _ _ ih
    · rw [if_neg h3, if_neg (a ▸ h3)]; exact ih
  | .nil, .cons .., h => by simp [Fo.eqv] at h
  | .cons .., .nil, h => by simp [Fo.eqv] at h
theorem ptq_mir {d d' : Nd} {k k' : Fo} (h : ptq d k d' k' = true) : ptq (mirD d) (mirC d k) (mirD d') (mirC d' k') = true := by
  obtain ⟨a, b, c, e, f, g⟩ := ptq_iff.1 h
  have ih := mir_congr k k' g
  refine ptq_iff.2 ⟨by unfold mirD; simp only [a], b, c, e, f, ?_⟩
  unfold mirC
  rw [eqv_toFo]
  by_cases h3 : d.kind = 3
  · rw [if_pos h3, if_pos (a ▸ h3)]; exact EqL.reverse _ _ ih
  · rw [if_neg h3, if_neg (a ▸ h3)]; exact ih
/-- The mirror of the mirror is the pattern. -/
theorem mir_mir {d d1 d2 : Nd} {k k1 k2 : Fo} (h1 : ptq (mirD d) (mirC d k) d1 k1 = true) (h2 : ptq (mirD d1) (mirC d1 k1) d2 k2 = true) : ptq d k d2 k2 = true := by
  have h3 := ptq_mir h1
  rw [mirD_mirD, mirC_back] at h3
  exact ptq_trans h3 h2
/-- Validity and size. -/
def sumS (l : List (Nd × Fo)) : Nat := (l.map fun x => x.2.size + 1).sum
theorem toFo_size : ∀ l, (toFo l).size = sumS l
  | [] => rfl
  | x :: l => by simp only [toFo, Fo.size, toFo_size l, sumS, List.map_cons, List.sum_cons]; omega
theorem sumS_reverse (l : List (Nd × Fo)) : sumS l.reverse = sumS l := by
  unfold sumS
  rw [List.map_reverse, List.sum_reverse]
theorem toFo_good : ∀ l, (toFo l).good ↔ ∀ x ∈ l, ndE x.1 x.2.len = 0 ∧ x.2.good
  | [] => by simp [toFo, Fo.good]
  | x :: l => by
    simp only [toFo, Fo.good, toFo_good l, List.mem_cons]
    constructor
    · rintro ⟨h1, h2, h3⟩ y (rfl | hy)
      · exact ⟨h1, h2⟩
      · exact h3 y hy
    · intro h
      exact ⟨(h x (.inl rfl)).1, (h x (.inl rfl)).2, fun y hy => h y (.inr hy)⟩
theorem mirC_size (d : Nd) (k : Fo) : (mirC d k).size = sumS (mirL k) := by
  unfold mirC
  rw [toFo_size]
  split
  · exact sumS_reverse _
  · rfl
theorem mirL_size : ∀ f : Fo, sumS (mirL f) = f.size
  | .nil => rfl
  | .cons d k r => by
    show ((mirC d k).size + 1) + sumS (mirL r) = _
    rw [mirC_size, mirL_size k, mirL_size r]
    simp only [Fo.size]; omega
theorem mirC_len (d : Nd) (k : Fo) : (mirC d k).len = k.len := by
  unfold mirC
  rw [toFo_len]
  split
  · rw [List.length_reverse, mirL_len]
  · rw [mirL_len]
theorem mir_ndE {d : Nd} {n : Nat} (h : ndE d n = 0) : ndE (mirD d) n = 0 := by
  obtain ⟨l1, l2, l3, l4, l5, l6, l7⟩ := ndE_ok h
  by_cases h2 : d.kind = 2 ∨ d.kind = 6
  · have hk : (mirD d).kind = 2 ∨ (mirD d).kind = 6 := by
      rcases h2 with h2 | h2
      · exact .inr (show mirK d.kind = 6 by rw [h2]; rfl)
      · exact .inl (show mirK d.kind = 2 by rw [h2]; rfl)
    have a1 := l4 (by omega)
    have a2 := l5 (by omega) (by omega) (by omega)
    have a3 := l6 (by omega)
    have b1 : (mirD d).is = (0#32, 0#32) := a1.1
    have b2 : (mirD d).neg = false := a1.2
    have b3 : (mirD d).mi = 0 := a3.1
    have b4 : (mirD d).ma = 0 := a3.2
    have ha : argB (mirD d) n = false := by
      unfold argB
      rw [b1, b2, b3, b4, a2]
      rcases hk with hk | hk <;> rw [hk] <;> simp
    unfold ndE
    rw [ha, if_neg (by simp), b1, if_pos vd_zero]
  · have hk : (mirD d).kind = d.kind := by
      show mirK d.kind = d.kind
      unfold mirK
      rw [if_neg (by omega), if_neg (by omega)]
    rw [ndE_same hk rfl rfl rfl rfl]; exact h
theorem mir_good : ∀ f : Fo, f.good → (toFo (mirL f)).good
  | .nil, _ => trivial
  | .cons d k r, ⟨h1, h2, h3⟩ => by
    have ih := mir_good k h2
    refine ⟨?_, ?_, mir_good r h3⟩
    · show ndE (mirD d) (mirC d k).len = 0
      rw [mirC_len]; exact mir_ndE h1
    · show (toFo (if d.kind = 3 then (mirL k).reverse else mirL k)).good
      split
      · rw [toFo_good] at ih ⊢
        exact fun x hx => ih x (by simpa using hx)
      · exact ih
theorem mirC_good {d : Nd} {k : Fo} (h : k.good) : (mirC d k).good := by
  have ih := mir_good k h
  unfold mirC
  split
  · rw [toFo_good] at ih ⊢
    exact fun x hx => ih x (by simpa using hx)
  · exact ih
/-- The mirror of a valid pattern is valid. -/
theorem mir_valid {d : Nd} {k : Fo} (hE : pkE d k = 0) : pkE (mirD d) (mirC d k) = 0 := by
  obtain ⟨g1, g2, g3⟩ := pkE_good hE
  exact pkE_of (by rw [mirC_len]; exact mir_ndE g1) (mirC_good g2) (by rw [mirC_size, mirL_size]; exact g3)
theorem mir_sz (d : Nd) (k : Fo) : szP (mirC d k) = szP k := by
  unfold szP
  rw [mirC_size, mirL_size]
/-- What the mirror is for the statements. -/
theorem mir_facts {d d1 d2 : Nd} {k k1 k2 : Fo} {ss : List Snd} (hE : mtE d k ss = 0) (h1 : ptq (mirD d) (mirC d k) d1 k1 = true) (h2 : ptq (mirD d1) (mirC d1 k1) d2 k2 = true) :
    mtE d1 k1 ss.reverse = 0 ∧ pkE d1 k1 = 0 ∧ eqB d k d2 k2 = true ∧ szP k = szP k1 ∧ emB d k = emB d1 k1 ∧ ∀ a b, a ≤ ss.length → b ≤ ss.length → (tabP ss d k a).getLsbD b = (tabP ss.reverse d1 k1 (ss.length - b)).getLsbD (ss.length - a) := by
  have hp := (node_ok hE).1
  have hc := (node_ok hE).2
  obtain ⟨g1, g2, -⟩ := pkE_good hp
  have hv := ptq_valid h1 (mir_valid hp)
  have hm := mir_mir h1 h2
  have hv2 := ptq_valid hm hp
  have hcr : chk ss.reverse = 0 := by
    unfold chk at hc ⊢
    rw [List.length_reverse]
    split at hc
    · cases hc
    · rename_i hl
      rw [if_neg hl]
      split at hc
      · rename_i ha
        rw [if_pos (by rw [List.all_reverse]; exact ha)]
      · cases hc
  have hE1 : mtE d1 k1 ss.reverse = 0 := by unfold mtE; rw [if_pos hv]; exact hcr
  have htab : ∀ tt : List Snd, tt.length ≤ 32 → MirT tt.length (tabP tt d k) (tabP tt.reverse d1 k1) := fun tt ht => by
    have := mir_tab ht g1 g2
    rwa [ptq_tab tt.reverse h1] at this
  refine ⟨hE1, hv, ?_, by rw [← mir_sz d k, ptq_sz h1], ?_, fun a b ha hb => Bool.eq_iff_iff.2 ((htab ss (chk_len hc)).2.2 a b ha hb)⟩
  · unfold eqB
    rw [hp, hv2, hm]; rfl
  · have hz : ∀ (d : Nd) (k : Fo), pkE d k = 0 → emB d k = (tabP z2 d k 1).getLsbD 1 := fun d k h => by
      have : mtE d k z2 = 0 := by unfold mtE; rw [if_pos h]; decide
      unfold emB
      rw [this]; rfl
    rw [hz d k hp, hz d1 k1 hv]
    exact Bool.eq_iff_iff.2 ((htab z2 (by decide)).2.2 1 1 (by decide) (by decide))
end Go.Proofs.YtmobilppakjihaaDoor
