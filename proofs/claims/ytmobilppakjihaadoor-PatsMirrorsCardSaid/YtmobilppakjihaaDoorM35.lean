/-
  Lemmas that the theorem of this claim rests on: 2 texts, one behind the other.
-/
import Derived.Test.YtmobilppakjihaaDoorM34
import Derived.Test.YtmobilppakjihaaDoorM28
import Derived.Deep.RegionLaw
set_option linter.unusedSimpArgs false
set_option linter.unusedVariables false
/-
  Mirrors of patterns, as trees.
-/
namespace Go.Proofs.YtmobilppakjihaaDoor
open Go.RowKit Go.Sort
def mirK (k : Int) : Int := if k = 2 then 6 else if k = 6 then 2 else k
def mirD (d : Nd) : Nd := { d with kind := mirK d.kind }
def mirL : Fo → List (Nd × Fo)
  | .nil => []
  | .cons d k r => (mirD d, toFo (if d.kind = 3 then (mirL k).reverse else mirL k)) :: mirL r
def mirC (d : Nd) (k : Fo) : Fo := toFo (if d.kind = 3 then (mirL k).reverse else mirL k)
theorem mirL_len : ∀ f : Fo, (mirL f).length = f.len
  | .nil => rfl
  | .cons d k r => by simp only [mirL, List.length_cons, mirL_len r, Fo.len]
theorem mirL_get : ∀ (f : Fo) (j : Nat) (d : Nd) (k r : Fo), f.drop j = .cons d k r → (mirL f)[j]? = some (mirD d, mirC d k)
  | .nil, 0, d, k, r, h => by cases h
  | .nil, j + 1, d, k, r, h => by cases h
  | .cons d' k' r', 0, d, k, r, h => by cases h; rfl
  | .cons d' k' r', j + 1, d, k, r, h => by
    simp only [Fo.drop] at h
    simpa [mirL] using mirL_get r' j d k r h
/-- Whether two lists of patterns are the same. -/
def EqL : List (Nd × Fo) → List (Nd × Fo) → Bool
  | [], [] => true
  | x :: xs, y :: ys => ptq x.1 x.2 y.1 y.2 && EqL xs ys
  | _, _ => false
theorem EqL.len : ∀ (xs ys : List (Nd × Fo)), EqL xs ys = true → xs.length = ys.length
  | [], [], _ => rfl
  | x :: xs, y :: ys, h => by
    simp only [EqL, Bool.and_eq_true] at h
    simp [EqL.len xs ys h.2]
  | [], _ :: _, h => by simp [EqL] at h
  | _ :: _, [], h => by simp [EqL] at h
theorem EqL.append : ∀ (xs ys us vs : List (Nd × Fo)), EqL xs ys = true → EqL us vs = true → EqL (xs ++ us) (ys ++ vs) = true
  | [], [], us, vs, _, h => h
  | x :: xs, y :: ys, us, vs, h, h2 => by
    simp only [EqL, Bool.and_eq_true] at h
    simp only [List.cons_append, EqL, Bool.and_eq_true]
    exact ⟨h.1, EqL.append xs ys us vs h.2 h2⟩
  | [], _ :: _, _, _, h, _ => by simp [EqL] at h
  | _ :: _, [], _, _, h, _ => by simp [EqL] at h
theorem EqL.reverse : ∀ (xs ys : List (Nd × Fo)), EqL xs ys = true → EqL xs.reverse ys.reverse = true
  | [], [], _ => rfl
  | x :: xs, y :: ys, h => by
    simp only [EqL, Bool.and_eq_true] at h
    simp only [List.reverse_cons]
    exact EqL.append _ _ _ _ (EqL.reverse xs ys h.2) (by simp [EqL, h.1])
  | [], _ :: _, h => by simp [EqL] at h
  | _ :: _, [], h => by simp [EqL] at h
theorem ptq_cons (d d' : Nd) (k r k' r' : Fo) : (Fo.cons d k r).eqv (.cons d' k' r') = (ptq d k d' k' && r.eqv r') := rfl
theorem eqv_toFo : ∀ (xs ys : List (Nd × Fo)), (toFo xs).eqv (toFo ys) = EqL xs ys
  | [], [] => rfl
  | x :: xs, y :: ys => by
    simp only [toFo, EqL, ptq_cons, eqv_toFo xs ys]
  | [], _ :: _ => rfl
  | _ :: _, [] => rfl
/-- Behind a store into a block that is older than the row. -/
theorem PsR.other {W W' : World} {lo : Nat} {v : Value} {ps : List (Nd × Fo)} (h : PsR W lo v ps) (hs : W'.heap.size = W.heap.size) (hb : ∀ b, lo ≤ b → W'.heap[b]? = W.heap[b]?) : PsR W' lo v ps := by
  refine ⟨h.1.move (fun b e => ?_), fun i hi => ?_⟩
  · exact hb b (ownsRow_block h.1 b e).1
  · obtain ⟨l, h', a1, a2, a3, a4, a5⟩ := h.2 i hi
    exact ⟨l, h', a1.move (Nat.le_refl _) (Nat.le_refl _) (fun b b1 b2 => hb b (by omega)), a2, a3, by omega, a5⟩
/-- Behind slices.Reverse. -/
theorem PsR.rev {W W' : World} {lo : Nat} {v : Value} {ps : List (Nd × Fo)} (h : PsR W lo v ps) (ho : OwnD W' lo v (ps.map (·.1)).reverse) (hs : W'.heap.size = W.heap.size) (hb : ∀ b, v.ownBlock ≠ some b → W'.heap[b]? = W.heap[b]?) : PsR W' lo v ps.reverse := by
  refine ⟨by rw [List.map_reverse]; exact ho, fun i hi => ?_⟩
  have hi2 : ps.length - 1 - i < ps.length := by simp at hi; omega
  obtain ⟨l, h', a1, a2, a3, a4, a5⟩ := h.2 _ hi2
  refine ⟨l, h', ?_, a2, a3, by omega, a5⟩
  rw [List.getElem_reverse]
  exact a1.move (Nat.le_refl _) (Nat.le_refl _) (fun b b1 b2 => hb b (fun e => by rcases a5 b e with h | h <;> omega))
/-- What mirror does with a pattern. -/
def MirAt (d : Nd) (k : Fo) : Prop := ∀ w, Pt w d k → k.size ≤ 100 → Calls Tryd.prog 62 #[ndV d] w fun e w' => ∃ d' k', e = .returned (ndV d') ∧ ptq (mirD d) (mirC d k) d' k' = true ∧ PtR w' w.heap.size w'.heap.size d' k' ∧ d'.sl.oneCell' = true ∧ (∃ ao cap, d'.sl = .slice ao k'.len cap) ∧ Below w.heap.size w w'
end Go.Proofs.YtmobilppakjihaaDoor

/-
  The mirror of a pattern.
-/
namespace Go.Proofs.YtmobilppakjihaaDoor
open Go.RowKit Go.Sort
theorem ownD_len {w : World} {base : Nat} {a : Addr} {n cap : Nat} {ds : List Nd} (h : OwnD w base (.slice (some a) n cap) ds) : n = ds.length := by
  obtain ⟨_, ⟨h, _⟩ | ⟨_, _, _, h, _⟩⟩ := h
  · cases h
  · cases h; rfl
theorem old_block {w3 w4 : World} {O OM : Obj} {base M : Nat} {row : Option Nat} (hg : (w3.alloc O).grownBy w4 row) (hM : M < base) (hz : base ≤ w3.heap.size) (hrow : ∀ q, row = some q → base ≤ q) (h : w3.heap[M]? = some OM) : w4.heap[M]? = some OM :=
  (hg.block M (by rw [World.size_alloc]; omega) (fun e => by have := hrow M e.symm; omega)).trans ((Below.heap_alloc w3 O M (by omega)).trans h)
/-- A world that has turned only in blocks below base. -/
def Old (base : Nat) (W W' : World) : Prop := W'.heap.size = W.heap.size ∧ ∀ b, base ≤ b → W'.heap[b]? = W.heap[b]?
theorem Old.refl (base : Nat) (W : World) : Old base W W := ⟨rfl, fun _ _ => rfl⟩
theorem Old.set {base : Nat} {W W' : World} (h : Old base W W') {p : Addr} (hp : p.block < base) (v : Value) : Old base W (W'.setCell p v) :=
  ⟨by rw [World.size_setCell]; exact h.1, fun b hb => (heap_setCell_other _ _ _ _ (by omega)).trans (h.2 b hb)⟩
theorem mir_ptq {d d' : Nd} {k : Fo} {ps : List (Nd × Fo)} (hk : d'.kind = mirK d.kind) (h1 : d'.is = d.is) (h2 : d'.neg = d.neg) (h3 : d'.mi = d.mi) (h4 : d'.ma = d.ma) (he : EqL (if d.kind = 3 then (mirL k).reverse else mirL k) ps = true) : ptq (mirD d) (mirC d k) d' (toFo ps) = true := by
  have e := eqv_toFo (if d.kind = 3 then (mirL k).reverse else mirL k) ps
  rw [he] at e
  have : (mirC d k).eqv (toFo ps) = true := e
  unfold ptq mirD
  simp [hk, h1, h2, h3, h4, this]
theorem bodyPost_gen {P : Program} {fn : Func} {Q : Ending → World → Prop} {e : Exit} {a : Act} {W : World} (h : ∀ W1, W1 = W → bodyPost P fn Q e a W1) : bodyPost P fn Q e a W := h W rfl
/-- Seven stores into a row. -/
theorem seven {W : World} {B : Nat} {cs : Array Value} {T : TypeId} (h : W.heap[B]? = some (.cells cs T (0, 0))) (v0 v1 v2 v3 v4 v5 v6 : Value) :
    (((((((W.setCell ⟨B, 0, none⟩ v0).setCell ⟨B, 1, none⟩ v1).setCell ⟨B, 2, none⟩ v2).setCell ⟨B, 3, none⟩ v3).setCell ⟨B, 4, none⟩ v4).setCell ⟨B, 5, none⟩ v5).setCell ⟨B, 6, none⟩ v6).heap[B]? = some (.cells (((((((cs.setIfInBounds 0 v0).setIfInBounds 1 v1).setIfInBounds 2 v2).setIfInBounds 3 v3).setIfInBounds 4 v4).setIfInBounds 5 v5).setIfInBounds 6 v6) T (0, 0)) := by
  have c0 := heap_setCell_same W B 0 _ _ v0 h
  have c1 := heap_setCell_same _ B 1 _ _ v1 c0
  have c2 := heap_setCell_same _ B 2 _ _ v2 c1
  have c3 := heap_setCell_same _ B 3 _ _ v3 c2
  have c4 := heap_setCell_same _ B 4 _ _ v4 c3
  have c5 := heap_setCell_same _ B 5 _ _ v5 c4
  exact heap_setCell_same _ B 6 _ _ v6 c5
/-- What the mirror is, once its row is there. -/
theorem mir_fin {w wr W : World} {base : Nat} {d d' : Nd} {k : Fo} {ps : List (Nd × Fo)} (hps : PsR wr base d'.sl ps) (ho : Old base wr W) (hb : Below w.heap.size w W) (hw : w.heap.size ≤ base) (hsl : ∃ ao cap, d'.sl = .slice ao ps.length cap) (hq : ptq (mirD d) (mirC d k) d' (toFo ps) = true) :
    ∃ x, ptq (mirD d) (mirC d k) d' x = true ∧ PtR W w.heap.size W.heap.size d' x ∧ d'.sl.oneCell' = true ∧ (∃ ao cap, d'.sl = .slice ao x.len cap) ∧ Below w.heap.size w W := by
  have h1 := hps.other ho.1 ho.2
  obtain ⟨ao, cap, hs⟩ := hsl
  exact ⟨toFo ps, hq, (PsR.pt h1 d' rfl).move hw (Nat.le_refl _) (fun _ _ _ => rfl), by rw [hs]; rfl, ⟨ao, cap, by rw [toFo_len, hs]⟩, hb⟩
set_option maxRecDepth 100000 in
set_option maxHeartbeats 8000000 in
theorem mirror_all : ∀ (s : Nat) (d : Nd) (k : Fo), k.size < s → MirAt d k := by
  intro s
  induction s with
  | zero => intro d k h; omega
  | succ s ih =>
  intro d k hks w hp h100
  obtain ⟨ao, cap, hsl, c1, m1, hcell⟩ := hp.open
  have hlk := Fo.len_size k
  obtain ⟨kind, ⟨p, m⟩, neg, mi, ma, sl⟩ := d
  simp only at hsl
  subst hsl
  obtain ⟨L, hL⟩ : ∃ L, k.len = L := ⟨_, rfl⟩
  show Calls _ _ #[.agg #[.int .i64 kind, .int .u32 (p.toNat : Int), .int .u32 (m.toNat : Int), .bool neg, .int .i64 mi, .int .i64 ma, .slice ao k.len cap]] _ _
  rw [hL] at hcell hlk ⊢
  have l1 : L ≤ 100 := by omega
  have HC := Lib.hid hcell; have HL := Lib.hid hL; have IH := Lib.hid ih; have HK := Lib.hid (And.intro hks h100)
  have hml : (mirL k).length = L := by rw [mirL_len, hL]
  have HML := Lib.hid hml
  clear hcell hL ih hks h100 hp c1 m1 hlk hml
  go_enter Tryd.func62, Tryd.ntmps62
  go_wp2_with fail
  refine wp_gen ?_
  intro W1 hW1
  have RX := Lib.hid (show W1.heap[w.heap.size]? = some (.cells #[.int .i64 kind, .int .u32 (p.toNat : Int), .int .u32 (m.toNat : Int), .bool neg, .int .i64 mi, .int .i64 ma, .slice ao L cap] 27) by rw [hW1]; exact (Below.heap_alloc _ _ _ (by simp only [World.size_alloc]; omega)).trans ((Below.heap_alloc _ _ _ (by simp only [World.size_alloc]; omega)).trans (World.alloc_heap_new w _)))
  have RZ := Lib.hid (show W1.heap[w.heap.size + 1]? = some (.cells #[.int .i64 0, .int .u32 0, .int .u32 0, .bool false, .int .i64 0, .int .i64 0, .slice none 0 0] 27 (0, 0)) by rw [hW1]; exact (Below.heap_alloc _ _ _ (by simp only [World.size_alloc]; omega)).trans (heap_alloc2_new w _ _))
  have RM := Lib.hid (show W1.heap[w.heap.size + 1 + 1]? = some (.cells #[.int .i64 kind, .int .u32 (p.toNat : Int), .int .u32 (m.toNat : Int), .bool neg, .int .i64 mi, .int .i64 ma, .slice none 0 0] 27 (0, 0)) by rw [hW1]; exact a3n' w _ _ _)
  have HB := Lib.hid (show Below w.heap.size w W1 by rw [hW1]; go_grown)
  have hz1 : w.heap.size + 1 + 1 + 1 ≤ W1.heap.size := by rw [hW1]; simp
  have HZ := Lib.hid hz1
  clear hW1 hz1
  go_loopw [11] (fun i wr => ∃ (j : Nat) (ps : List (Nd × Fo)) (v : Value), j ≤ L ∧ i = .int .i64 (j : Int) ∧ EqL ((mirL k).take j) ps = true ∧ (∀ x ∈ ps, x.1.sl.oneCell' = true) ∧ PsR wr (w.heap.size + 1 + 1 + 1) v ps ∧ wr.heap[w.heap.size]? = some (.cells #[.int .i64 kind, .int .u32 (p.toNat : Int), .int .u32 (m.toNat : Int), .bool neg, .int .i64 mi, .int .i64 ma, .slice ao L cap] 27) ∧ wr.heap[w.heap.size + 1]? = some (.cells #[.int .i64 0, .int .u32 0, .int .u32 0, .bool false, .int .i64 0, .int .i64 0, .slice none 0 0] 27 (0, 0)) ∧ wr.heap[w.heap.size + 1 + 1]? = some (.cells #[.int .i64 kind, .int .u32 (p.toNat : Int), .int .u32 (m.toNat : Int), .bool neg, .int .i64 mi, .int .i64 ma, v] 27 (0, 0)) ∧ w.heap.size + 1 + 1 + 1 ≤ wr.heap.size ∧ Below w.heap.size w wr) (fun i _ => L - (intOf i).toNat)
  case atStart => exact ⟨0, [], .slice none 0 0, by omega, rfl, by simp [EqL], fun x hx => by simp at hx, PsR.nil _ _, RX.out, RZ.out, RM.out, HZ.out, HB.out⟩
  case round =>
  clear RX RZ RM HB HZ
  obtain ⟨j, ps, v, hj, rfl, heq, hone, hps, hX, hZ, hM, hz, hw⟩ := hrel
  obtain ⟨vo, vc, hv⟩ := ownsRow_slice hps.1
  rw [List.length_map] at hv
  subst hv
  have hlen : ps.length = j := by
    have := EqL.len _ _ heq
    rw [List.length_take, HML.out] at this
    omega
  rw [hlen] at hps hM
  have RX := Lib.hid hX; have RZ := Lib.hid hZ; have RM := Lib.hid hM; have HP := Lib.hid hps; have HEQ := Lib.hid heq; have HONE := Lib.hid hone; have HW := Lib.hid hw; have HZ := Lib.hid hz; have HLE := Lib.hid hlen
  clear hX hZ hM hps heq hw hz hlen hone
  have hm6 : wr.cell? ⟨w.heap.size + 1 + 1, 6, none⟩ = some (.slice vo j vc) := cell_block RM.out rfl
  have fm6 : wr.frozen? ⟨w.heap.size + 1 + 1, 6, none⟩ = false := frozen_block RM.out
  by_cases hlt : j < L
  · have hji : (j : Int) < (L : Int) := by omega
    obtain ⟨b, off, hao, lb, hpf⟩ := HC.out j hlt
    subst hao
    obtain ⟨d', k', he⟩ := Fo.drop_step k j (by rw [HL.out]; exact hlt)
    have hget := mirL_get k j d' k' _ he
    have hsz := Fo.drop_size k j
    rw [he] at hpf hsz
    simp only [Fo.size] at hsz
    obtain ⟨e0, e1, e2, e3, e4, e5, e6, e7, -⟩ := hpf
    have hc := fun o v (h : w.cell? ⟨b, o, none⟩ = some v) => (HW.out.cell (p := ⟨b, o, none⟩) lb).trans h
    have f0 := hc _ _ e0; have f1 := hc _ _ e1; have f2 := hc _ _ e2; have f3 := hc _ _ e3; have f4 := hc _ _ e4; have f5 := hc _ _ e5; have f6 := hc _ _ e6
    obtain ⟨ao', cap', hsl', -, -, -⟩ := Pt.open e7
    have hrec := fun W (hb : Below w.heap.size w W) => IH.out d' k' (by have := HK.out; omega) W (Pt.below e7 hb) (by have := HK.out; omega)
    unfold ndV at hrec
    rw [hsl'] at hrec f6
    have hlenT : j < (mirL k).length := by rw [HML.out]; exact hlt
    have hgj : (mirL k)[j] = (mirD d', mirC d' k') := by
      rw [List.getElem?_eq_getElem hlenT] at hget
      exact Option.some.inj hget
    have htk : (mirL k).take (j + 1) = (mirL k).take j ++ [(mirD d', mirC d' k')] := by rw [List.take_succ_eq_append_getElem hlenT, hgj]
    have HREC := Lib.hid hrec; have HTK := Lib.hid htk
    clear hrec htk hget hgj hlenT hsl' e0 e1 e2 e3 e4 e5 e6 e7 he hsz hc HC
    have gm6 : ∀ O : Obj, (wr.alloc O).cell? ⟨w.heap.size + 1 + 1, 6, none⟩ = some (.slice vo j vc) := fun O => keep_alloc (X := O) hm6 (by have := HZ.out; omega)
    go_wp2_with fail
    go_region_law (first
      | (go_simp; go_at_call 62; refine calls_gen ?_; intro V hV; have hv : Below wr.heap.size wr V := (by rw [hV]; go_grown); have hvs : wr.heap.size + 1 ≤ V.heap.size := (by rw [hV]; simp); clear hV; refine (HREC.out V (HW.out.trans (hv.mono HW.out.size))).mono ?_; rintro e w3 ⟨d3, k3, rfl, hq3, hr3, ho3, ⟨ao3, cap3, hs3⟩, hb3⟩; obtain ⟨kd3, ⟨p3, m3⟩, neg3, mi3, ma3, sl3⟩ := d3; simp only at hs3; subst hs3; have hb := hv.trans (hb3.mono hv.size); have HQ3 := Lib.hid (And.intro hq3 (And.intro hr3 (And.intro hvs hb3.size))); have HB3 := Lib.hid hb; have hp3 := HP.out.below hb; have HOW := Lib.hid (fun O : Obj => hp3.1.below ((Below.refl _ w3).alloc (Nat.le_refl _) O)); have HLEN := Lib.hid (show (ps.map (·.1)).length + 1 ≤ 1000000 by rw [List.length_map, HLE.out]; omega); have hz3 : w.heap.size + 1 + 1 + 1 ≤ w3.heap.size := (by have := HZ.out; have := hb.size; omega); have HZ3 := Lib.hid hz3; have HBASE := Lib.hid (fun O : Obj => show w.heap.size + 1 + 1 + 1 ≤ (w3.alloc O).heap.size by rw [World.size_alloc]; omega); have hrm := (hb.block _ (Array.getElem?_eq_some_iff.1 RM.out).1).trans RM.out; have HRM := Lib.hid hrm; have hm3 := cell_block hrm (o := 6) rfl; have ha3 : ∀ O : Obj, (w3.alloc O).cell? ⟨w.heap.size + 1 + 1, 6, none⟩ = some (.slice vo j vc) := (fun O => keep_alloc (X := O) hm3 (by have := HZ3.out; omega)); clear hq3 hr3 ho3 hb3 hv hvs hb hp3 hrm hz3)
      | (refine step_appD rfl (.tmp 16) (.tmp 19) rfl (w.heap.size + 1 + 1 + 1) w3.heap.size (.slice vo j vc) (ps.map (·.1)) ⟨kd3, (p3, m3), neg3, mi3, ma3, .slice ao3 k3.len cap3⟩ rfl rfl rfl (World.alloc_heap_new w3 _) (HOW.out _) HLEN.out (HBASE.out _) (w3.heap.size + 1) (by rw [World.size_alloc]) ?_; intro g4 c4 n4 w4 ho4 hg4 hv4; have hn4 : n4 = j + 1 := (ownD_len ho4).trans (by simp [HLE.out]); subst hn4; have hown4 := (fun q e => (ownsRow_block HP.out.1 q e).1); have F := Lib.hid (And.intro ho4 (And.intro hg4 hv4)); have rm4 := old_block hg4 (by omega) HZ3.out hown4 HRM.out; have cm4 := cell_block rm4 (o := 6) rfl; have fm4 := frozen_block rm4 (o := 6); clear ho4 hg4 hv4 hown4 rm4))
    all_goals
      have hown := fun q e => (ownsRow_block HP.out.1 q e).1
      have hps4 := PsR.snoc (k := k3) HP.out HZ.out HB3.out HQ3.out.2.1 (by have := HQ3.out.2.2.1; omega) HQ3.out.2.2.2 F.out.1 F.out.2.1 (F.out.2.2.elim (fun h => .inl h.symm) (fun h => .inr (by rw [h]; rfl)))
      have x4 := old_block F.out.2.1 (M := w.heap.size) (by omega) HZ3.out hown ((HB3.out.block _ (by have := HZ.out; omega)).trans RX.out)
      have z4 := old_block F.out.2.1 (M := w.heap.size + 1) (by omega) HZ3.out hown ((HB3.out.block _ (by have := HZ.out; omega)).trans RZ.out)
      have m4 := old_block F.out.2.1 (M := w.heap.size + 1 + 1) (by omega) HZ3.out hown HRM.out
      have b3 := HW.out.trans (HB3.out.mono HW.out.size)
      have b4 := (b3.alloc b3.size _).grown F.out.2.1 (by rw [World.size_alloc]; have := b3.size; omega) (fun q e => by have := hown q e; omega)
      have s4 : w.heap.size + 1 + 1 + 1 ≤ w4.heap.size := by have h1 := F.out.2.1.size; rw [World.size_alloc] at h1; have := HZ3.out; omega
      have F1 := Lib.hid (And.intro hps4 (And.intro x4 (And.intro z4 (And.intro m4 (And.intro b4 s4)))))
      clear hown hps4 x4 z4 m4 b3 b4 s4
      go_wp2_with fail
      go_roundw
      case rel =>
        obtain ⟨q1, q2, q3, q4, q5, q6⟩ := F1.out
        exact ⟨j + 1, ps ++ [(_, k3)], .slice (some ⟨g4, 0, none⟩) (j + 1) c4, by omega, by go_num, by rw [HTK.out]; exact EqL.append _ _ _ _ HEQ.out (by simp [EqL, HQ3.out.1]), (fun x hx => by rcases List.mem_append.1 hx with hx | hx; exact HONE.out x hx; rw [List.mem_singleton.1 hx]; rfl),
          q1.other (by first | rfl | simp) (fun b hb => heap_setCell_other _ _ _ _ (by simp only []; omega)), (heap_setCell_other _ _ _ _ (by simp only []; omega)).trans q2, (heap_setCell_other _ _ _ _ (by simp only []; omega)).trans q3, by rw [heap_setCell_same _ _ _ _ _ _ q4]; rfl, by simpa using q6, q5.setCell (p := ⟨w.heap.size + 1 + 1, 6, none⟩) (by simp only []; omega) _⟩
      case measure => simp [intOf] <;> omega
  · obtain rfl : j = L := by omega
    have hji : ¬ (j : Int) < (j : Int) := by omega
    have heq : EqL (mirL k) ps = true := by have := HEQ.out; rwa [List.take_of_length_le (by rw [HML.out]; exact Nat.le_refl _)] at this
    have HE := Lib.hid heq
    clear heq HC hlt hm6 fm6
    have hx0 := cell_block RX.out (o := 0) rfl; have hx1 := cell_block RX.out (o := 1) rfl; have hx2 := cell_block RX.out (o := 2) rfl; have hx3 := cell_block RX.out (o := 3) rfl; have hx4 := cell_block RX.out (o := 4) rfl; have hx5 := cell_block RX.out (o := 5) rfl; have hx6 := cell_block RX.out (o := 6) rfl
    have hm0 := cell_block RM.out (o := 0) rfl; have hm1 := cell_block RM.out (o := 1) rfl; have hm2 := cell_block RM.out (o := 2) rfl; have hm3 := cell_block RM.out (o := 3) rfl; have hm4 := cell_block RM.out (o := 4) rfl; have hm5 := cell_block RM.out (o := 5) rfl; have hm6 := cell_block RM.out (o := 6) rfl
    have fm0 := frozen_block RM.out (o := 0); have fm1 := frozen_block RM.out (o := 1); have fm2 := frozen_block RM.out (o := 2); have fm3 := frozen_block RM.out (o := 3); have fm4 := frozen_block RM.out (o := 4); have fm5 := frozen_block RM.out (o := 5); have fm6 := frozen_block RM.out (o := 6)
    have hz0 := cell_block RZ.out (o := 0) rfl; have hz1 := cell_block RZ.out (o := 1) rfl; have hz2 := cell_block RZ.out (o := 2) rfl; have hz3 := cell_block RZ.out (o := 3) rfl; have hz4 := cell_block RZ.out (o := 4) rfl; have hz5 := cell_block RZ.out (o := 5) rfl; have hz6 := cell_block RZ.out (o := 6) rfl
    have fz0 := frozen_block RZ.out (o := 0); have fz1 := frozen_block RZ.out (o := 1); have fz2 := frozen_block RZ.out (o := 2); have fz3 := frozen_block RZ.out (o := 3); have fz4 := frozen_block RZ.out (o := 4); have fz5 := frozen_block RZ.out (o := 5); have fz6 := frozen_block RZ.out (o := 6)
    by_cases e2 : kind = 2
    · subst e2
      go_wp2_with fail
      refine bodyPost_gen ?_
      intro Wf hWf
      have RF := Lib.hid (show Wf.heap[w.heap.size + 1]? = some (.cells #[.int .i64 6, .int .u32 (p.toNat : Int), .int .u32 (m.toNat : Int), .bool neg, .int .i64 mi, .int .i64 ma, .slice vo j vc] 27 (0, 0)) by rw [hWf]; exact seven ((heap_setCell_other _ _ _ _ (by simp only []; omega)).trans RZ.out) _ _ _ _ _ _ _)
      have RO := Lib.hid (show Old (w.heap.size + 1 + 1 + 1) wr Wf by rw [hWf]; exact (by repeat (first | (with_reducible exact Old.refl _ _) | refine Old.set ?_ (by simp only []; omega) _)))
      have RL := Lib.hid (show Below w.heap.size w Wf by rw [hWf]; exact (by repeat (first | (with_reducible exact HW.out) | refine Below.setCell ?_ (by simp only []; omega) _)))
      clear hWf hx0 hx1 hx2 hx3 hx4 hx5 hx6 hm0 hm1 hm2 hm3 hm4 hm5 hm6 fm0 fm1 fm2 fm3 fm4 fm5 fm6 hz0 hz1 hz2 hz3 hz4 hz5 hz6 fz0 fz1 fz2 fz3 fz4 fz5 fz6
      have q0 : Wf.cell? ⟨w.heap.size + 1, 0, none⟩ = some (.int .i64 6) := cell_block RF.out rfl
      have q1 : Wf.cell? ⟨w.heap.size + 1, 1, none⟩ = some (.int .u32 (p.toNat : Int)) := cell_block RF.out rfl
      have q2 : Wf.cell? ⟨w.heap.size + 1, 2, none⟩ = some (.int .u32 (m.toNat : Int)) := cell_block RF.out rfl
      have q3 : Wf.cell? ⟨w.heap.size + 1, 3, none⟩ = some (.bool neg) := cell_block RF.out rfl
      have q4 : Wf.cell? ⟨w.heap.size + 1, 4, none⟩ = some (.int .i64 mi) := cell_block RF.out rfl
      have q5 : Wf.cell? ⟨w.heap.size + 1, 5, none⟩ = some (.int .i64 ma) := cell_block RF.out rfl
      have q6 : Wf.cell? ⟨w.heap.size + 1, 6, none⟩ = some (.slice vo j vc) := cell_block RF.out rfl
      refine bodyPost_ret (v := .agg #[.int .i64 6, .int .u32 (p.toNat : Int), .int .u32 (m.toNat : Int), .bool neg, .int .i64 mi, .int .i64 ma, .slice vo j vc]) (by simp [results, Tryd.results62, go_sem, q0, q1, q2, q3, q4, q5, q6]) rfl ?_
      exact ⟨⟨6, (p, m), neg, mi, ma, .slice vo j vc⟩, rfl, mir_fin (wr := wr) (base := w.heap.size + 1 + 1 + 1) (ps := ps) HP.out RO.out RL.out (by omega) ⟨vo, vc, by rw [HLE.out]⟩ (mir_ptq rfl rfl rfl rfl rfl (by exact HE.out))⟩
    by_cases e6 : kind = 6
    · subst e6
      go_wp2_with fail
      refine bodyPost_gen ?_
      intro Wf hWf
      have RF := Lib.hid (show Wf.heap[w.heap.size + 1]? = some (.cells #[.int .i64 2, .int .u32 (p.toNat : Int), .int .u32 (m.toNat : Int), .bool neg, .int .i64 mi, .int .i64 ma, .slice vo j vc] 27 (0, 0)) by rw [hWf]; exact seven ((heap_setCell_other _ _ _ _ (by simp only []; omega)).trans RZ.out) _ _ _ _ _ _ _)
      have RO := Lib.hid (show Old (w.heap.size + 1 + 1 + 1) wr Wf by rw [hWf]; exact (by repeat (first | (with_reducible exact Old.refl _ _) | refine Old.set ?_ (by simp only []; omega) _)))
      have RL := Lib.hid (show Below w.heap.size w Wf by rw [hWf]; exact (by repeat (first | (with_reducible exact HW.out) | refine Below.setCell ?_ (by simp only []; omega) _)))
      clear hWf hx0 hx1 hx2 hx3 hx4 hx5 hx6 hm0 hm1 hm2 hm3 hm4 hm5 hm6 fm0 fm1 fm2 fm3 fm4 fm5 fm6 hz0 hz1 hz2 hz3 hz4 hz5 hz6 fz0 fz1 fz2 fz3 fz4 fz5 fz6
      have q0 : Wf.cell? ⟨w.heap.size + 1, 0, none⟩ = some (.int .i64 2) := cell_block RF.out rfl
      have q1 : Wf.cell? ⟨w.heap.size + 1, 1, none⟩ = some (.int .u32 (p.toNat : Int)) := cell_block RF.out rfl
      have q2 : Wf.cell? ⟨w.heap.size + 1, 2, none⟩ = some (.int .u32 (m.toNat : Int)) := cell_block RF.out rfl
      have q3 : Wf.cell? ⟨w.heap.size + 1, 3, none⟩ = some (.bool neg) := cell_block RF.out rfl
      have q4 : Wf.cell? ⟨w.heap.size + 1, 4, none⟩ = some (.int .i64 mi) := cell_block RF.out rfl
      have q5 : Wf.cell? ⟨w.heap.size + 1, 5, none⟩ = some (.int .i64 ma) := cell_block RF.out rfl
      have q6 : Wf.cell? ⟨w.heap.size + 1, 6, none⟩ = some (.slice vo j vc) := cell_block RF.out rfl
      refine bodyPost_ret (v := .agg #[.int .i64 2, .int .u32 (p.toNat : Int), .int .u32 (m.toNat : Int), .bool neg, .int .i64 mi, .int .i64 ma, .slice vo j vc]) (by simp [results, Tryd.results62, go_sem, q0, q1, q2, q3, q4, q5, q6]) rfl ?_
      exact ⟨⟨2, (p, m), neg, mi, ma, .slice vo j vc⟩, rfl, mir_fin (wr := wr) (base := w.heap.size + 1 + 1 + 1) (ps := ps) HP.out RO.out RL.out (by omega) ⟨vo, vc, by rw [HLE.out]⟩ (mir_ptq rfl rfl rfl rfl rfl (by exact HE.out))⟩
    by_cases e3 : kind = 3
    · subst e3
      have hrv := revD (ps.map (·.1)) (fun d hd => by obtain ⟨x, hx, rfl⟩ := List.mem_map.1 hd; exact HONE.out x hx) _ wr _ HP.out.1 (by rw [List.length_map, HLE.out]; omega)
      have HRV := Lib.hid hrv
      clear hrv
      go_wp2_with fail
      go_at_call 84
      refine HRV.out.mono ?_
      rintro e w5 ⟨rfl, ho5, hs5, hb5, hbl5⟩
      have hown : ∀ q, (Value.slice vo j vc).ownBlock = some q → w.heap.size + 1 + 1 + 1 ≤ q := fun q e => (ownsRow_block HP.out.1 q e).1
      have HP5 := Lib.hid (PsR.rev HP.out ho5 hs5 hb5)
      have HW5 := Lib.hid (hbl5 _ _ (by omega) HW.out)
      have rm5 := (hb5 (w.heap.size + 1 + 1) (fun e => by have := hown _ e; omega)).trans RM.out
      have rz5 := (hb5 (w.heap.size + 1) (fun e => by have := hown _ e; omega)).trans RZ.out
      clear hx0 hx1 hx2 hx3 hx4 hx5 hx6 hm0 hm1 hm2 hm3 hm4 hm5 hm6 fm0 fm1 fm2 fm3 fm4 fm5 fm6 hz0 hz1 hz2 hz3 hz4 hz5 hz6 fz0 fz1 fz2 fz3 fz4 fz5 fz6 ho5 hb5 hbl5 hown HRV
      have hm0 := cell_block rm5 (o := 0) rfl; have hm1 := cell_block rm5 (o := 1) rfl; have hm2 := cell_block rm5 (o := 2) rfl; have hm3 := cell_block rm5 (o := 3) rfl; have hm4 := cell_block rm5 (o := 4) rfl; have hm5 := cell_block rm5 (o := 5) rfl; have hm6 := cell_block rm5 (o := 6) rfl
      have hz0 := cell_block rz5 (o := 0) rfl; have hz1 := cell_block rz5 (o := 1) rfl; have hz2 := cell_block rz5 (o := 2) rfl; have hz3 := cell_block rz5 (o := 3) rfl; have hz4 := cell_block rz5 (o := 4) rfl; have hz5 := cell_block rz5 (o := 5) rfl; have hz6 := cell_block rz5 (o := 6) rfl
      have fz0 := frozen_block rz5 (o := 0); have fz1 := frozen_block rz5 (o := 1); have fz2 := frozen_block rz5 (o := 2); have fz3 := frozen_block rz5 (o := 3); have fz4 := frozen_block rz5 (o := 4); have fz5 := frozen_block rz5 (o := 5); have fz6 := frozen_block rz5 (o := 6)
      have RZ5 := Lib.hid rz5
      clear rm5 rz5
      go_wp2_with fail
      refine bodyPost_gen ?_
      intro Wf hWf
      have RF := Lib.hid (show Wf.heap[w.heap.size + 1]? = some (.cells #[.int .i64 3, .int .u32 (p.toNat : Int), .int .u32 (m.toNat : Int), .bool neg, .int .i64 mi, .int .i64 ma, .slice vo j vc] 27 (0, 0)) by rw [hWf]; exact seven RZ5.out _ _ _ _ _ _ _)
      have RO := Lib.hid (show Old (w.heap.size + 1 + 1 + 1) w5 Wf by rw [hWf]; exact (by repeat (first | (with_reducible exact Old.refl _ _) | refine Old.set ?_ (by simp only []; omega) _)))
      have RL := Lib.hid (show Below w.heap.size w Wf by rw [hWf]; exact (by repeat (first | (with_reducible exact HW5.out) | refine Below.setCell ?_ (by simp only []; omega) _)))
      clear hWf hm0 hm1 hm2 hm3 hm4 hm5 hm6 hz0 hz1 hz2 hz3 hz4 hz5 hz6 fz0 fz1 fz2 fz3 fz4 fz5 fz6
      have q0 : Wf.cell? ⟨w.heap.size + 1, 0, none⟩ = some (.int .i64 3) := cell_block RF.out rfl
      have q1 : Wf.cell? ⟨w.heap.size + 1, 1, none⟩ = some (.int .u32 (p.toNat : Int)) := cell_block RF.out rfl
      have q2 : Wf.cell? ⟨w.heap.size + 1, 2, none⟩ = some (.int .u32 (m.toNat : Int)) := cell_block RF.out rfl
      have q3 : Wf.cell? ⟨w.heap.size + 1, 3, none⟩ = some (.bool neg) := cell_block RF.out rfl
      have q4 : Wf.cell? ⟨w.heap.size + 1, 4, none⟩ = some (.int .i64 mi) := cell_block RF.out rfl
      have q5 : Wf.cell? ⟨w.heap.size + 1, 5, none⟩ = some (.int .i64 ma) := cell_block RF.out rfl
      have q6 : Wf.cell? ⟨w.heap.size + 1, 6, none⟩ = some (.slice vo j vc) := cell_block RF.out rfl
      refine bodyPost_ret (v := .agg #[.int .i64 3, .int .u32 (p.toNat : Int), .int .u32 (m.toNat : Int), .bool neg, .int .i64 mi, .int .i64 ma, .slice vo j vc]) (by simp [results, Tryd.results62, go_sem, q0, q1, q2, q3, q4, q5, q6]) rfl ?_
      obtain ⟨x, hx⟩ := mir_fin (w := w) (d := ⟨3, (p, m), neg, mi, ma, .slice ao j cap⟩) (d' := ⟨3, (p, m), neg, mi, ma, .slice vo j vc⟩) (k := k) (wr := w5) (base := w.heap.size + 1 + 1 + 1) (ps := ps.reverse) HP5.out RO.out RL.out (by omega) ⟨vo, vc, by rw [List.length_reverse, HLE.out]⟩ (mir_ptq rfl rfl rfl rfl rfl (by exact EqL.reverse _ _ HE.out))
      exact ⟨⟨3, (p, m), neg, mi, ma, .slice vo j vc⟩, x, rfl, hx⟩
    · have b2 := int_eqf e2
      have b6 := int_eqf e6
      have b3 := int_eqf e3
      have hk : mirK kind = kind := by unfold mirK; rw [if_neg e2, if_neg e6]
      have HK2 := Lib.hid hk; have E3 := Lib.hid e3
      clear e2 e6 e3 hk
      go_wp2_with fail
      refine bodyPost_gen ?_
      intro Wf hWf
      have RF := Lib.hid (show Wf.heap[w.heap.size + 1]? = some (.cells #[.int .i64 kind, .int .u32 (p.toNat : Int), .int .u32 (m.toNat : Int), .bool neg, .int .i64 mi, .int .i64 ma, .slice vo j vc] 27 (0, 0)) by rw [hWf]; exact seven RZ.out _ _ _ _ _ _ _)
      have RO := Lib.hid (show Old (w.heap.size + 1 + 1 + 1) wr Wf by rw [hWf]; exact (by repeat (first | (with_reducible exact Old.refl _ _) | refine Old.set ?_ (by simp only []; omega) _)))
      have RL := Lib.hid (show Below w.heap.size w Wf by rw [hWf]; exact (by repeat (first | (with_reducible exact HW.out) | refine Below.setCell ?_ (by simp only []; omega) _)))
      clear hWf hx0 hx1 hx2 hx3 hx4 hx5 hx6 hm0 hm1 hm2 hm3 hm4 hm5 hm6 fm0 fm1 fm2 fm3 fm4 fm5 fm6 hz0 hz1 hz2 hz3 hz4 hz5 hz6 fz0 fz1 fz2 fz3 fz4 fz5 fz6
      have q0 : Wf.cell? ⟨w.heap.size + 1, 0, none⟩ = some (.int .i64 kind) := cell_block RF.out rfl
      have q1 : Wf.cell? ⟨w.heap.size + 1, 1, none⟩ = some (.int .u32 (p.toNat : Int)) := cell_block RF.out rfl
      have q2 : Wf.cell? ⟨w.heap.size + 1, 2, none⟩ = some (.int .u32 (m.toNat : Int)) := cell_block RF.out rfl
      have q3 : Wf.cell? ⟨w.heap.size + 1, 3, none⟩ = some (.bool neg) := cell_block RF.out rfl
      have q4 : Wf.cell? ⟨w.heap.size + 1, 4, none⟩ = some (.int .i64 mi) := cell_block RF.out rfl
      have q5 : Wf.cell? ⟨w.heap.size + 1, 5, none⟩ = some (.int .i64 ma) := cell_block RF.out rfl
      have q6 : Wf.cell? ⟨w.heap.size + 1, 6, none⟩ = some (.slice vo j vc) := cell_block RF.out rfl
      refine bodyPost_ret (v := .agg #[.int .i64 kind, .int .u32 (p.toNat : Int), .int .u32 (m.toNat : Int), .bool neg, .int .i64 mi, .int .i64 ma, .slice vo j vc]) (by simp [results, Tryd.results62, go_sem, q0, q1, q2, q3, q4, q5, q6]) rfl ?_
      exact ⟨⟨kind, (p, m), neg, mi, ma, .slice vo j vc⟩, rfl, mir_fin (wr := wr) (base := w.heap.size + 1 + 1 + 1) (ps := ps) HP.out RO.out RL.out (by omega) ⟨vo, vc, by rw [HLE.out]⟩ (mir_ptq HK2.out.symm rfl rfl rfl rfl (by rw [if_neg E3.out]; exact HE.out))⟩
end Go.Proofs.YtmobilppakjihaaDoor
