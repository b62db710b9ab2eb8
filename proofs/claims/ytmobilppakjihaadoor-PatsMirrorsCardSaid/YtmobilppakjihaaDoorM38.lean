/-
  Lemmas that the theorem of this claim rests on: 1 texts, one behind the other.
-/
import Derived.Test.YtmobilppakjihaaDoorM35
set_option linter.unusedSimpArgs false
set_option linter.unusedVariables false
/-
  The specification's mirror of a pattern.
-/
namespace Go.Proofs.YtmobilppakjihaaDoor
open Go.RowKit Go.Sort
/-- What the specification's mirror does with a valid pattern. -/
def MirAtS (d : Nd) (k : Fo) : Prop := ∀ w, Pt w d k → k.size ≤ 100 → ndE d k.len = 0 → k.good → Calls Tryd.prog 61 #[ndV d] w fun e w' => ∃ d' k', e = .returned (ndV d') ∧ ptq (mirD d) (mirC d k) d' k' = true ∧ PtR w' w.heap.size w'.heap.size d' k' ∧ d'.sl.oneCell' = true ∧ (∃ ao cap, d'.sl = .slice ao k'.len cap) ∧ Below w.heap.size w w'
set_option maxRecDepth 100000 in
set_option maxHeartbeats 16000000 in
theorem rmirror_all : ∀ (s : Nat) (d : Nd) (k : Fo), k.size < s → MirAtS d k := by
  intro s
  induction s with
  | zero => intro d k h; omega
  | succ s ih =>
  intro d k hks w hp h100 hnd hg
  obtain ⟨ao, cap, hsl, c1, m1, hcell⟩ := hp.open
  have hlk := Fo.len_size k
  obtain ⟨-, -, -, -, l5, -, -⟩ := ndE_ok hnd
  obtain ⟨kind, ⟨p, m⟩, neg, mi, ma, sl⟩ := d
  simp only at hsl l5
  subst hsl
  obtain ⟨L, hL⟩ : ∃ L, k.len = L := ⟨_, rfl⟩
  show Calls _ _ #[.agg #[.int .i64 kind, .int .u32 (p.toNat : Int), .int .u32 (m.toNat : Int), .bool neg, .int .i64 mi, .int .i64 ma, .slice ao k.len cap]] _ _
  rw [hL] at hcell hlk l5 ⊢
  have l1 : L ≤ 100 := by omega
  have HC := Lib.hid hcell; have HL := Lib.hid hL; have IH := Lib.hid ih; have HK := Lib.hid (And.intro hks h100); have HG := Lib.hid hg
  have hml : (mirL k).length = L := by rw [mirL_len, hL]
  have HML := Lib.hid hml
  have hnil : L = 0 → mirL k = [] := fun h => List.eq_nil_of_length_eq_zero (by rw [hml]; exact h)
  have HNIL := Lib.hid hnil
  clear hcell hL ih hks h100 hp c1 m1 hlk hml hnil hnd hg
  by_cases e2 : kind = 2
  · subst e2
    have h0 := l5 (by omega) (by omega) (by omega)
    subst h0
    have hnil := HNIL.out rfl
    have HE := Lib.hid (show EqL (mirL k) ([] : List (Nd × Fo)) = true by rw [hnil]; rfl)
    clear hnil l5
    go_enter Tryd.func61, Tryd.ntmps61
    go_wp2_with fail
    refine bodyPost_gen ?_
    intro Wf hWf
    have RF := Lib.hid (show Wf.heap[w.heap.size + 1]? = some (.cells #[.int .i64 6, .int .u32 (p.toNat : Int), .int .u32 (m.toNat : Int), .bool neg, .int .i64 mi, .int .i64 ma, .slice none 0 0] 27 (0, 0)) by rw [hWf]; exact (Below.heap_alloc _ _ _ (by simp only [World.size_alloc]; omega)).trans (heap_alloc2_new w _ _))
    have RL := Lib.hid (show Below w.heap.size w Wf by rw [hWf]; go_grown)
    clear hWf
    have q0 : Wf.cell? ⟨w.heap.size + 1, 0, none⟩ = some (.int .i64 6) := cell_block RF.out rfl
    have q1 : Wf.cell? ⟨w.heap.size + 1, 1, none⟩ = some (.int .u32 (p.toNat : Int)) := cell_block RF.out rfl
    have q2 : Wf.cell? ⟨w.heap.size + 1, 2, none⟩ = some (.int .u32 (m.toNat : Int)) := cell_block RF.out rfl
    have q3 : Wf.cell? ⟨w.heap.size + 1, 3, none⟩ = some (.bool neg) := cell_block RF.out rfl
    have q4 : Wf.cell? ⟨w.heap.size + 1, 4, none⟩ = some (.int .i64 mi) := cell_block RF.out rfl
    have q5 : Wf.cell? ⟨w.heap.size + 1, 5, none⟩ = some (.int .i64 ma) := cell_block RF.out rfl
    have q6 : Wf.cell? ⟨w.heap.size + 1, 6, none⟩ = some (.slice none 0 0) := cell_block RF.out rfl
    refine bodyPost_ret (v := .agg #[.int .i64 6, .int .u32 (p.toNat : Int), .int .u32 (m.toNat : Int), .bool neg, .int .i64 mi, .int .i64 ma, .slice none 0 0]) (by simp [results, Tryd.results61, go_sem, q0, q1, q2, q3, q4, q5, q6]) rfl ?_
    obtain ⟨x, hx⟩ := mir_fin (w := w) (d := ⟨2, (p, m), neg, mi, ma, .slice ao 0 cap⟩) (d' := ⟨6, (p, m), neg, mi, ma, .slice none 0 0⟩) (k := k) (wr := Wf) (base := w.heap.size) (ps := []) (PsR.nil _ _) (Old.refl _ _) RL.out (by omega) ⟨none, 0, rfl⟩ (mir_ptq rfl rfl rfl rfl rfl (by exact HE.out))
    first | exact ⟨⟨6, (p, m), neg, mi, ma, .slice none 0 0⟩, x, rfl, hx⟩ | exact ⟨⟨6, (p, m), neg, mi, ma, .slice none 0 0⟩, rfl, x, hx⟩
  by_cases e6 : kind = 6
  · subst e6
    have h0 := l5 (by omega) (by omega) (by omega)
    subst h0
    have hnil := HNIL.out rfl
    have HE := Lib.hid (show EqL (mirL k) ([] : List (Nd × Fo)) = true by rw [hnil]; rfl)
    clear hnil l5
    go_enter Tryd.func61, Tryd.ntmps61
    go_wp2_with fail
    refine bodyPost_gen ?_
    intro Wf hWf
    have RF := Lib.hid (show Wf.heap[w.heap.size + 1]? = some (.cells #[.int .i64 2, .int .u32 (p.toNat : Int), .int .u32 (m.toNat : Int), .bool neg, .int .i64 mi, .int .i64 ma, .slice none 0 0] 27 (0, 0)) by rw [hWf]; exact (Below.heap_alloc _ _ _ (by simp only [World.size_alloc]; omega)).trans (heap_alloc2_new w _ _))
    have RL := Lib.hid (show Below w.heap.size w Wf by rw [hWf]; go_grown)
    clear hWf
    have q0 : Wf.cell? ⟨w.heap.size + 1, 0, none⟩ = some (.int .i64 2) := cell_block RF.out rfl
    have q1 : Wf.cell? ⟨w.heap.size + 1, 1, none⟩ = some (.int .u32 (p.toNat : Int)) := cell_block RF.out rfl
    have q2 : Wf.cell? ⟨w.heap.size + 1, 2, none⟩ = some (.int .u32 (m.toNat : Int)) := cell_block RF.out rfl
    have q3 : Wf.cell? ⟨w.heap.size + 1, 3, none⟩ = some (.bool neg) := cell_block RF.out rfl
    have q4 : Wf.cell? ⟨w.heap.size + 1, 4, none⟩ = some (.int .i64 mi) := cell_block RF.out rfl
    have q5 : Wf.cell? ⟨w.heap.size + 1, 5, none⟩ = some (.int .i64 ma) := cell_block RF.out rfl
    have q6 : Wf.cell? ⟨w.heap.size + 1, 6, none⟩ = some (.slice none 0 0) := cell_block RF.out rfl
    refine bodyPost_ret (v := .agg #[.int .i64 2, .int .u32 (p.toNat : Int), .int .u32 (m.toNat : Int), .bool neg, .int .i64 mi, .int .i64 ma, .slice none 0 0]) (by simp [results, Tryd.results61, go_sem, q0, q1, q2, q3, q4, q5, q6]) rfl ?_
    obtain ⟨x, hx⟩ := mir_fin (w := w) (d := ⟨6, (p, m), neg, mi, ma, .slice ao 0 cap⟩) (d' := ⟨2, (p, m), neg, mi, ma, .slice none 0 0⟩) (k := k) (wr := Wf) (base := w.heap.size) (ps := []) (PsR.nil _ _) (Old.refl _ _) RL.out (by omega) ⟨none, 0, rfl⟩ (mir_ptq rfl rfl rfl rfl rfl (by exact HE.out))
    first | exact ⟨⟨2, (p, m), neg, mi, ma, .slice none 0 0⟩, x, rfl, hx⟩ | exact ⟨⟨2, (p, m), neg, mi, ma, .slice none 0 0⟩, rfl, x, hx⟩
  by_cases e3 : kind = 3
  · subst e3
    go_enter Tryd.func61, Tryd.ntmps61
    go_wp2_with fail
    refine wp_gen ?_
    intro W1 hW1
    have RX := Lib.hid (show W1.heap[w.heap.size]? = some (.cells #[.int .i64 3, .int .u32 (p.toNat : Int), .int .u32 (m.toNat : Int), .bool neg, .int .i64 mi, .int .i64 ma, .slice ao L cap] 27) by rw [hW1]; exact (Below.heap_alloc _ _ _ (by simp only [World.size_alloc]; omega)).trans ((Below.heap_alloc _ _ _ (by simp only [World.size_alloc]; omega)).trans (World.alloc_heap_new w _)))
    have RZ := Lib.hid (show W1.heap[w.heap.size + 1]? = some (.cells #[.int .i64 0, .int .u32 0, .int .u32 0, .bool false, .int .i64 0, .int .i64 0, .slice none 0 0] 27 (0, 0)) by rw [hW1]; exact (Below.heap_alloc _ _ _ (by simp only [World.size_alloc]; omega)).trans (heap_alloc2_new w _ _))
    have RM := Lib.hid (show W1.heap[w.heap.size + 1 + 1]? = some (.cells #[.int .i64 3, .int .u32 (p.toNat : Int), .int .u32 (m.toNat : Int), .bool neg, .int .i64 mi, .int .i64 ma, .slice none 0 0] 27 (0, 0)) by rw [hW1]; exact a3n' w _ _ _)
    have HB := Lib.hid (show Below w.heap.size w W1 by rw [hW1]; go_grown)
    have hz1 : w.heap.size + 1 + 1 + 1 ≤ W1.heap.size := by rw [hW1]; simp
    have HZ := Lib.hid hz1
    clear hW1 hz1
    go_loopw [4] (fun i wr => ∃ (j : Nat) (ps : List (Nd × Fo)) (v : Value), j ≤ L ∧ i = .int .i64 ((L : Int) - 1 - (j : Int)) ∧ EqL ((mirL k).reverse.take j) ps = true ∧ (∀ x ∈ ps, x.1.sl.oneCell' = true) ∧ PsR wr (w.heap.size + 1 + 1 + 1) v ps ∧ wr.heap[w.heap.size]? = some (.cells #[.int .i64 3, .int .u32 (p.toNat : Int), .int .u32 (m.toNat : Int), .bool neg, .int .i64 mi, .int .i64 ma, .slice ao L cap] 27) ∧ wr.heap[w.heap.size + 1]? = some (.cells #[.int .i64 0, .int .u32 0, .int .u32 0, .bool false, .int .i64 0, .int .i64 0, .slice none 0 0] 27 (0, 0)) ∧ wr.heap[w.heap.size + 1 + 1]? = some (.cells #[.int .i64 3, .int .u32 (p.toNat : Int), .int .u32 (m.toNat : Int), .bool neg, .int .i64 mi, .int .i64 ma, v] 27 (0, 0)) ∧ w.heap.size + 1 + 1 + 1 ≤ wr.heap.size ∧ Below w.heap.size w wr) (fun i _ => (intOf i + 1).toNat)
    case atStart => exact ⟨0, [], .slice none 0 0, by omega, by go_num, by simp [EqL], fun x hx => by simp at hx, PsR.nil _ _, RX.out, RZ.out, RM.out, HZ.out, HB.out⟩
    case round =>
    clear RX RZ RM HB HZ
    obtain ⟨j, ps, v, hj, rfl, heq, hone, hps, hX, hZ, hM, hz, hw⟩ := hrel
    obtain ⟨vo, vc, hv⟩ := ownsRow_slice hps.1
    rw [List.length_map] at hv
    subst hv
    have hlen : ps.length = j := by
      have := EqL.len _ _ heq
      simp only [List.length_take, List.length_reverse, HML.out] at this
      omega
    rw [hlen] at hps hM
    have RX := Lib.hid hX; have RZ := Lib.hid hZ; have RM := Lib.hid hM; have HP := Lib.hid hps; have HEQ := Lib.hid heq; have HONE := Lib.hid hone; have HW := Lib.hid hw; have HZ := Lib.hid hz; have HLE := Lib.hid hlen
    clear hX hZ hM hps heq hw hz hlen hone
    have hm6 : wr.cell? ⟨w.heap.size + 1 + 1, 6, none⟩ = some (.slice vo j vc) := cell_block RM.out rfl
    have fm6 : wr.frozen? ⟨w.heap.size + 1 + 1, 6, none⟩ = false := frozen_block RM.out
    have hx0 := cell_block RX.out (o := 0) rfl; have hx1 := cell_block RX.out (o := 1) rfl; have hx2 := cell_block RX.out (o := 2) rfl; have hx3 := cell_block RX.out (o := 3) rfl; have hx4 := cell_block RX.out (o := 4) rfl; have hx5 := cell_block RX.out (o := 5) rfl; have hx6 := cell_block RX.out (o := 6) rfl
    by_cases hlt : j < L
    · obtain ⟨e, hee⟩ : ∃ e : Nat, L - 1 - j = e := ⟨_, rfl⟩
      have hel : e < L := by omega
      have hei : (L : Int) - 1 - (j : Int) = (e : Int) := by omega
      have hej : e + 1 + j = L := by omega
      rw [hei]
      have hji : (0 : Int) ≤ (e : Int) := by omega
      have hji2 : (e : Int) < (L : Int) := by omega
      obtain ⟨b, off, hao, lb, hpf⟩ := HC.out e (by omega)
      subst hao
      obtain ⟨d', k', he⟩ := Fo.drop_step k e (by rw [HL.out]; omega)
      have hget := mirL_get k e d' k' _ he
      have hsz := Fo.drop_size k e
      have hgd := Fo.good_drop k e HG.out
      rw [he] at hpf hsz hgd
      simp only [Fo.size] at hsz
      obtain ⟨gd1, gd2, -⟩ := hgd
      obtain ⟨e0, e1, e2, e3, e4, e5, e6, e7, -⟩ := hpf
      have hc := fun o v (h : w.cell? ⟨b, o, none⟩ = some v) => (HW.out.cell (p := ⟨b, o, none⟩) lb).trans h
      have f0 := hc _ _ e0; have f1 := hc _ _ e1; have f2 := hc _ _ e2; have f3 := hc _ _ e3; have f4 := hc _ _ e4; have f5 := hc _ _ e5; have f6 := hc _ _ e6
      obtain ⟨ao', cap', hsl', -, -, -⟩ := Pt.open e7
      have hrec := fun W (hb : Below w.heap.size w W) => IH.out d' k' (by have := HK.out; omega) W (Pt.below e7 hb) (by have := HK.out; omega) gd1 gd2
      unfold ndV at hrec
      rw [hsl'] at hrec f6

      have hlenT : j < (mirL k).reverse.length := by rw [List.length_reverse, HML.out]; exact hlt
      have hlenE : e < (mirL k).length := by rw [HML.out]; exact hel
      have hgj : (mirL k).reverse[j] = (mirD d', mirC d' k') := by
        rw [List.getElem?_eq_getElem hlenE] at hget
        have h1 := Option.some.inj hget
        rw [List.getElem_reverse]
        have h2 : (mirL k).length - 1 - j = e := by rw [HML.out]; omega
        simp only [h2]
        exact h1
      have htk : (mirL k).reverse.take (j + 1) = (mirL k).reverse.take j ++ [(mirD d', mirC d' k')] := by rw [List.take_succ_eq_append_getElem hlenT, hgj]
      have HREC := Lib.hid hrec; have HTK := Lib.hid htk; have HEJ := Lib.hid hej
      clear hrec htk hget hgj hlenT hlenE hsl' e0 e1 e2 e3 e4 e5 e6 e7 he hsz hc HC gd1 gd2 hei hee hej
      go_wp2_with fail
      go_region_law (first
        | (go_simp; go_at_call 61; refine calls_gen ?_; intro V hV; have hv : Below wr.heap.size wr V := (by rw [hV]; go_grown); clear hV; refine (HREC.out V (HW.out.trans (hv.mono HW.out.size))).mono ?_; rintro e w3 ⟨d3, k3, rfl, hq3, hr3, ho3, ⟨ao3, cap3, hs3⟩, hb3⟩; obtain ⟨kd3, ⟨p3, m3⟩, neg3, mi3, ma3, sl3⟩ := d3; simp only at hs3; subst hs3; have hb := hv.trans (hb3.mono hv.size); have HQ3 := Lib.hid (And.intro hq3 (And.intro hr3 (And.intro hv.size hb3.size))); have HB3 := Lib.hid hb; have hp3 := HP.out.below hb; have HOW := Lib.hid (fun O : Obj => hp3.1.below ((Below.refl _ w3).alloc (Nat.le_refl _) O)); have HLEN := Lib.hid (show (ps.map (·.1)).length + 1 ≤ 1000000 by rw [List.length_map, HLE.out]; omega); have hz3 : w.heap.size + 1 + 1 + 1 ≤ w3.heap.size := (by have := HZ.out; have := hb.size; omega); have HZ3 := Lib.hid hz3; have HBASE := Lib.hid (fun O : Obj => show w.heap.size + 1 + 1 + 1 ≤ (w3.alloc O).heap.size by rw [World.size_alloc]; omega); have hrm := (hb.block _ (Array.getElem?_eq_some_iff.1 RM.out).1).trans RM.out; have HRM := Lib.hid hrm; have hm3 := cell_block hrm (o := 6) rfl; have ha3 : ∀ O : Obj, (w3.alloc O).cell? ⟨w.heap.size + 1 + 1, 6, none⟩ = some (.slice vo j vc) := (fun O => keep_alloc (X := O) hm3 (by have := HZ3.out; omega)); clear hq3 hr3 ho3 hb3 hv hb hp3 hrm hz3)
        | (refine step_appD rfl (.tmp 45) (.tmp 52) rfl (w.heap.size + 1 + 1 + 1) w3.heap.size (.slice vo j vc) (ps.map (·.1)) ⟨kd3, (p3, m3), neg3, mi3, ma3, .slice ao3 k3.len cap3⟩ rfl rfl rfl (World.alloc_heap_new w3 _) (HOW.out _) HLEN.out (HBASE.out _) (w3.heap.size + 1) (by rw [World.size_alloc]) ?_; intro g4 c4 n4 w4 ho4 hg4 hv4; have hn4 : n4 = j + 1 := (ownD_len ho4).trans (by simp [HLE.out]); subst hn4; have hown4 := (fun q e => (ownsRow_block HP.out.1 q e).1); have F := Lib.hid (And.intro ho4 (And.intro hg4 hv4)); have rm4 := old_block hg4 (by omega) HZ3.out hown4 HRM.out; have cm4 := cell_block rm4 (o := 6) rfl; have fm4 := frozen_block rm4 (o := 6); clear ho4 hg4 hv4 hown4 rm4))
      all_goals
        have hown := fun q e => (ownsRow_block HP.out.1 q e).1
        have hps4 := PsR.snoc (k := k3) HP.out HZ.out HB3.out HQ3.out.2.1 HQ3.out.2.2.1 HQ3.out.2.2.2 F.out.1 F.out.2.1 (F.out.2.2.elim (fun h => .inl h.symm) (fun h => .inr (by rw [h]; rfl)))
        have x4 := old_block F.out.2.1 (M := w.heap.size) (by omega) HZ3.out hown ((HB3.out.block _ (by have := HZ.out; omega)).trans RX.out)
        have z4 := old_block F.out.2.1 (M := w.heap.size + 1) (by omega) HZ3.out hown ((HB3.out.block _ (by have := HZ.out; omega)).trans RZ.out)
        have m4 := old_block F.out.2.1 (M := w.heap.size + 1 + 1) (by omega) HZ3.out hown HRM.out
        have b3 := HW.out.trans (HB3.out.mono HW.out.size)
        have b4 := (b3.alloc b3.size _).grown F.out.2.1 (by rw [World.size_alloc]; have := b3.size; omega) (fun q e => by have := hown q e; omega)
        have s4 : w.heap.size + 1 + 1 + 1 ≤ w4.heap.size := by have h1 := F.out.2.1.size; rw [World.size_alloc] at h1; have := HZ3.out; omega
        have F1 := Lib.hid (And.intro hps4 (And.intro x4 (And.intro z4 (And.intro m4 (And.intro b4 s4)))))
        clear hown hps4 x4 z4 m4 b3 b4 s4
        go_wp2_with fail
        go_roundw
        case rel =>
          obtain ⟨q1, q2, q3, q4, q5, q6⟩ := F1.out
          exact ⟨j + 1, ps ++ [(_, k3)], .slice (some ⟨g4, 0, none⟩) (j + 1) c4, by omega, by have := HEJ.out; go_num, by rw [HTK.out]; exact EqL.append _ _ _ _ HEQ.out (by simp [EqL, HQ3.out.1]), (fun x hx => by rcases List.mem_append.1 hx with hx | hx; exact HONE.out x hx; rw [List.mem_singleton.1 hx]; rfl),
            q1.other (by first | rfl | simp) (fun b hb => heap_setCell_other _ _ _ _ (by simp only []; omega)), (heap_setCell_other _ _ _ _ (by simp only []; omega)).trans q2, (heap_setCell_other _ _ _ _ (by simp only []; omega)).trans q3, by rw [heap_setCell_same _ _ _ _ _ _ q4]; rfl, by simpa using q6, q5.setCell (p := ⟨w.heap.size + 1 + 1, 6, none⟩) (by simp only []; omega) _⟩
        case measure => simp [intOf] <;> omega
    · obtain rfl : j = L := by omega
      have hei : (j : Int) - 1 - (j : Int) = -1 := by omega
      rw [hei]
      have heq : EqL (mirL k).reverse ps = true := by have := HEQ.out; rwa [List.take_of_length_le (by simp only [List.length_reverse, HML.out]; omega)] at this
      have HE := Lib.hid heq
      clear heq HC
      have hm0 := cell_block RM.out (o := 0) rfl; have hm1 := cell_block RM.out (o := 1) rfl; have hm2 := cell_block RM.out (o := 2) rfl; have hm3 := cell_block RM.out (o := 3) rfl; have hm4 := cell_block RM.out (o := 4) rfl; have hm5 := cell_block RM.out (o := 5) rfl; have hm6 := cell_block RM.out (o := 6) rfl
      have fm0 := frozen_block RM.out (o := 0); have fm1 := frozen_block RM.out (o := 1); have fm2 := frozen_block RM.out (o := 2); have fm3 := frozen_block RM.out (o := 3); have fm4 := frozen_block RM.out (o := 4); have fm5 := frozen_block RM.out (o := 5); have fm6 := frozen_block RM.out (o := 6)
      have hz0 := cell_block RZ.out (o := 0) rfl; have hz1 := cell_block RZ.out (o := 1) rfl; have hz2 := cell_block RZ.out (o := 2) rfl; have hz3 := cell_block RZ.out (o := 3) rfl; have hz4 := cell_block RZ.out (o := 4) rfl; have hz5 := cell_block RZ.out (o := 5) rfl; have hz6 := cell_block RZ.out (o := 6) rfl
      have fz0 := frozen_block RZ.out (o := 0); have fz1 := frozen_block RZ.out (o := 1); have fz2 := frozen_block RZ.out (o := 2); have fz3 := frozen_block RZ.out (o := 3); have fz4 := frozen_block RZ.out (o := 4); have fz5 := frozen_block RZ.out (o := 5); have fz6 := frozen_block RZ.out (o := 6)
      go_wp2_with fail
      refine bodyPost_gen ?_
      intro Wf hWf
      have RF := Lib.hid (show Wf.heap[w.heap.size + 1]? = some (.cells #[.int .i64 3, .int .u32 (p.toNat : Int), .int .u32 (m.toNat : Int), .bool neg, .int .i64 mi, .int .i64 ma, .slice vo j vc] 27 (0, 0)) by rw [hWf]; exact seven RZ.out _ _ _ _ _ _ _)
      have RO := Lib.hid (show Old (w.heap.size + 1 + 1 + 1) wr Wf by rw [hWf]; exact (by repeat (first | (with_reducible exact Old.refl _ _) | refine Old.set ?_ (by simp only []; omega) _)))
      have RL := Lib.hid (show Below w.heap.size w Wf by rw [hWf]; exact (by repeat (first | (with_reducible exact HW.out) | refine Below.setCell ?_ (by simp only []; omega) _)))
      clear hWf
      have q0 : Wf.cell? ⟨w.heap.size + 1, 0, none⟩ = some (.int .i64 3) := cell_block RF.out rfl
      have q1 : Wf.cell? ⟨w.heap.size + 1, 1, none⟩ = some (.int .u32 (p.toNat : Int)) := cell_block RF.out rfl
      have q2 : Wf.cell? ⟨w.heap.size + 1, 2, none⟩ = some (.int .u32 (m.toNat : Int)) := cell_block RF.out rfl
      have q3 : Wf.cell? ⟨w.heap.size + 1, 3, none⟩ = some (.bool neg) := cell_block RF.out rfl
      have q4 : Wf.cell? ⟨w.heap.size + 1, 4, none⟩ = some (.int .i64 mi) := cell_block RF.out rfl
      have q5 : Wf.cell? ⟨w.heap.size + 1, 5, none⟩ = some (.int .i64 ma) := cell_block RF.out rfl
      have q6 : Wf.cell? ⟨w.heap.size + 1, 6, none⟩ = some (.slice vo j vc) := cell_block RF.out rfl
      refine bodyPost_ret (v := .agg #[.int .i64 3, .int .u32 (p.toNat : Int), .int .u32 (m.toNat : Int), .bool neg, .int .i64 mi, .int .i64 ma, .slice vo j vc]) (by simp [results, Tryd.results61, go_sem, q0, q1, q2, q3, q4, q5, q6]) rfl ?_
      obtain ⟨x, hx⟩ := mir_fin (w := w) (d := ⟨3, (p, m), neg, mi, ma, .slice ao j cap⟩) (d' := ⟨3, (p, m), neg, mi, ma, .slice vo j vc⟩) (k := k) (wr := wr) (base := w.heap.size + 1 + 1 + 1) (ps := ps) HP.out RO.out RL.out (by omega) ⟨vo, vc, by rw [HLE.out]⟩ (mir_ptq rfl rfl rfl rfl rfl (by exact HE.out))
      first | exact ⟨⟨3, (p, m), neg, mi, ma, .slice vo j vc⟩, x, rfl, hx⟩ | exact ⟨⟨3, (p, m), neg, mi, ma, .slice vo j vc⟩, rfl, x, hx⟩
  · have b2 := int_eqf e2
    have b6 := int_eqf e6
    have b3 := int_eqf e3
    have hk : mirK kind = kind := by unfold mirK; rw [if_neg e2, if_neg e6]
    have HK2 := Lib.hid hk; have E3 := Lib.hid e3
    clear e2 e6 e3 hk
    go_enter Tryd.func61, Tryd.ntmps61
    go_wp2_with fail
    refine wp_gen ?_
    intro W1 hW1
    have RX := Lib.hid (show W1.heap[w.heap.size]? = some (.cells #[.int .i64 kind, .int .u32 (p.toNat : Int), .int .u32 (m.toNat : Int), .bool neg, .int .i64 mi, .int .i64 ma, .slice ao L cap] 27) by rw [hW1]; exact (Below.heap_alloc _ _ _ (by simp only [World.size_alloc]; omega)).trans ((Below.heap_alloc _ _ _ (by simp only [World.size_alloc]; omega)).trans (World.alloc_heap_new w _)))
    have RZ := Lib.hid (show W1.heap[w.heap.size + 1]? = some (.cells #[.int .i64 0, .int .u32 0, .int .u32 0, .bool false, .int .i64 0, .int .i64 0, .slice none 0 0] 27 (0, 0)) by rw [hW1]; exact (Below.heap_alloc _ _ _ (by simp only [World.size_alloc]; omega)).trans (heap_alloc2_new w _ _))
    have RM := Lib.hid (show W1.heap[w.heap.size + 1 + 1]? = some (.cells #[.int .i64 kind, .int .u32 (p.toNat : Int), .int .u32 (m.toNat : Int), .bool neg, .int .i64 mi, .int .i64 ma, .slice none 0 0] 27 (0, 0)) by rw [hW1]; exact a3n' w _ _ _)
    have HB := Lib.hid (show Below w.heap.size w W1 by rw [hW1]; go_grown)
    have hz1 : w.heap.size + 1 + 1 + 1 ≤ W1.heap.size := by rw [hW1]; simp
    have HZ := Lib.hid hz1
    clear hW1 hz1
    go_loopw [5] (fun i wr => ∃ (j : Nat) (ps : List (Nd × Fo)) (v : Value), j ≤ L ∧ i = .int .i64 (j : Int) ∧ EqL ((mirL k).take j) ps = true ∧ (∀ x ∈ ps, x.1.sl.oneCell' = true) ∧ PsR wr (w.heap.size + 1 + 1 + 1) v ps ∧ wr.heap[w.heap.size]? = some (.cells #[.int .i64 kind, .int .u32 (p.toNat : Int), .int .u32 (m.toNat : Int), .bool neg, .int .i64 mi, .int .i64 ma, .slice ao L cap] 27) ∧ wr.heap[w.heap.size + 1]? = some (.cells #[.int .i64 0, .int .u32 0, .int .u32 0, .bool false, .int .i64 0, .int .i64 0, .slice none 0 0] 27 (0, 0)) ∧ wr.heap[w.heap.size + 1 + 1]? = some (.cells #[.int .i64 kind, .int .u32 (p.toNat : Int), .int .u32 (m.toNat : Int), .bool neg, .int .i64 mi, .int .i64 ma, v] 27 (0, 0)) ∧ w.heap.size + 1 + 1 + 1 ≤ wr.heap.size ∧ Below w.heap.size w wr) (fun i _ => L - (intOf i).toNat)
    case atStart => exact ⟨0, [], .slice none 0 0, by omega, rfl, by simp [EqL], fun x hx => by simp at hx, PsR.nil _ _, RX.out, RZ.out, RM.out, HZ.out, HB.out⟩
    case round =>
    clear RX RZ RM HB HZ
    obtain ⟨j, ps, v, hj, rfl, heq, hone, hps, hX, hZ, hM, hz, hw⟩ := hrel
    obtain ⟨vo, vc, hv⟩ := ownsRow_slice hps.1
    rw [List.length_map] at hv
    subst hv
    have hlen : ps.length = j := by
      have := EqL.len _ _ heq
      simp only [List.length_take, List.length_reverse, HML.out] at this
      omega
    rw [hlen] at hps hM
    have RX := Lib.hid hX; have RZ := Lib.hid hZ; have RM := Lib.hid hM; have HP := Lib.hid hps; have HEQ := Lib.hid heq; have HONE := Lib.hid hone; have HW := Lib.hid hw; have HZ := Lib.hid hz; have HLE := Lib.hid hlen
    clear hX hZ hM hps heq hw hz hlen hone
    have hm6 : wr.cell? ⟨w.heap.size + 1 + 1, 6, none⟩ = some (.slice vo j vc) := cell_block RM.out rfl
    have fm6 : wr.frozen? ⟨w.heap.size + 1 + 1, 6, none⟩ = false := frozen_block RM.out
    have hx0 := cell_block RX.out (o := 0) rfl; have hx1 := cell_block RX.out (o := 1) rfl; have hx2 := cell_block RX.out (o := 2) rfl; have hx3 := cell_block RX.out (o := 3) rfl; have hx4 := cell_block RX.out (o := 4) rfl; have hx5 := cell_block RX.out (o := 5) rfl; have hx6 := cell_block RX.out (o := 6) rfl
    by_cases hlt : j < L
    · have hji : (j : Int) < (L : Int) := by omega
      obtain ⟨b, off, hao, lb, hpf⟩ := HC.out j (by omega)
      subst hao
      obtain ⟨d', k', he⟩ := Fo.drop_step k j (by rw [HL.out]; omega)
      have hget := mirL_get k j d' k' _ he
      have hsz := Fo.drop_size k j
      have hgd := Fo.good_drop k j HG.out
      rw [he] at hpf hsz hgd
      simp only [Fo.size] at hsz
      obtain ⟨gd1, gd2, -⟩ := hgd
      obtain ⟨e0, e1, e2, e3, e4, e5, e6, e7, -⟩ := hpf
      have hc := fun o v (h : w.cell? ⟨b, o, none⟩ = some v) => (HW.out.cell (p := ⟨b, o, none⟩) lb).trans h
      have f0 := hc _ _ e0; have f1 := hc _ _ e1; have f2 := hc _ _ e2; have f3 := hc _ _ e3; have f4 := hc _ _ e4; have f5 := hc _ _ e5; have f6 := hc _ _ e6
      obtain ⟨ao', cap', hsl', -, -, -⟩ := Pt.open e7
      have hrec := fun W (hb : Below w.heap.size w W) => IH.out d' k' (by have := HK.out; omega) W (Pt.below e7 hb) (by have := HK.out; omega) gd1 gd2
      unfold ndV at hrec
      rw [hsl'] at hrec f6

      have hlenT : j < (mirL k).length := by rw [HML.out]; exact hlt
      have hgj : (mirL k)[j] = (mirD d', mirC d' k') := by
        rw [List.getElem?_eq_getElem hlenT] at hget
        exact Option.some.inj hget
      have htk : (mirL k).take (j + 1) = (mirL k).take j ++ [(mirD d', mirC d' k')] := by rw [List.take_succ_eq_append_getElem hlenT, hgj]
      have HREC := Lib.hid hrec; have HTK := Lib.hid htk
      clear hrec htk hget hgj hlenT hsl' e0 e1 e2 e3 e4 e5 e6 e7 he hsz hc HC gd1 gd2
      go_wp2_with fail
      go_region_law (first
        | (go_simp; go_at_call 61; refine calls_gen ?_; intro V hV; have hv : Below wr.heap.size wr V := (by rw [hV]; go_grown); clear hV; refine (HREC.out V (HW.out.trans (hv.mono HW.out.size))).mono ?_; rintro e w3 ⟨d3, k3, rfl, hq3, hr3, ho3, ⟨ao3, cap3, hs3⟩, hb3⟩; obtain ⟨kd3, ⟨p3, m3⟩, neg3, mi3, ma3, sl3⟩ := d3; simp only at hs3; subst hs3; have hb := hv.trans (hb3.mono hv.size); have HQ3 := Lib.hid (And.intro hq3 (And.intro hr3 (And.intro hv.size hb3.size))); have HB3 := Lib.hid hb; have hp3 := HP.out.below hb; have HOW := Lib.hid (fun O : Obj => hp3.1.below ((Below.refl _ w3).alloc (Nat.le_refl _) O)); have HLEN := Lib.hid (show (ps.map (·.1)).length + 1 ≤ 1000000 by rw [List.length_map, HLE.out]; omega); have hz3 : w.heap.size + 1 + 1 + 1 ≤ w3.heap.size := (by have := HZ.out; have := hb.size; omega); have HZ3 := Lib.hid hz3; have HBASE := Lib.hid (fun O : Obj => show w.heap.size + 1 + 1 + 1 ≤ (w3.alloc O).heap.size by rw [World.size_alloc]; omega); have hrm := (hb.block _ (Array.getElem?_eq_some_iff.1 RM.out).1).trans RM.out; have HRM := Lib.hid hrm; have hm3 := cell_block hrm (o := 6) rfl; have ha3 : ∀ O : Obj, (w3.alloc O).cell? ⟨w.heap.size + 1 + 1, 6, none⟩ = some (.slice vo j vc) := (fun O => keep_alloc (X := O) hm3 (by have := HZ3.out; omega)); clear hq3 hr3 ho3 hb3 hv hb hp3 hrm hz3)
        | (refine step_appD rfl (.tmp 18) (.tmp 25) rfl (w.heap.size + 1 + 1 + 1) w3.heap.size (.slice vo j vc) (ps.map (·.1)) ⟨kd3, (p3, m3), neg3, mi3, ma3, .slice ao3 k3.len cap3⟩ rfl rfl rfl (World.alloc_heap_new w3 _) (HOW.out _) HLEN.out (HBASE.out _) (w3.heap.size + 1) (by rw [World.size_alloc]) ?_; intro g4 c4 n4 w4 ho4 hg4 hv4; have hn4 : n4 = j + 1 := (ownD_len ho4).trans (by simp [HLE.out]); subst hn4; have hown4 := (fun q e => (ownsRow_block HP.out.1 q e).1); have F := Lib.hid (And.intro ho4 (And.intro hg4 hv4)); have rm4 := old_block hg4 (by omega) HZ3.out hown4 HRM.out; have cm4 := cell_block rm4 (o := 6) rfl; have fm4 := frozen_block rm4 (o := 6); clear ho4 hg4 hv4 hown4 rm4))
      all_goals
        have hown := fun q e => (ownsRow_block HP.out.1 q e).1
        have hps4 := PsR.snoc (k := k3) HP.out HZ.out HB3.out HQ3.out.2.1 HQ3.out.2.2.1 HQ3.out.2.2.2 F.out.1 F.out.2.1 (F.out.2.2.elim (fun h => .inl h.symm) (fun h => .inr (by rw [h]; rfl)))
        have x4 := old_block F.out.2.1 (M := w.heap.size) (by omega) HZ3.out hown ((HB3.out.block _ (by have := HZ.out; omega)).trans RX.out)
        have z4 := old_block F.out.2.1 (M := w.heap.size + 1) (by omega) HZ3.out hown ((HB3.out.block _ (by have := HZ.out; omega)).trans RZ.out)
        have m4 := old_block F.out.2.1 (M := w.heap.size + 1 + 1) (by omega) HZ3.out hown HRM.out
        have b3 := HW.out.trans (HB3.out.mono HW.out.size)
        have b4 := (b3.alloc b3.size _).grown F.out.2.1 (by rw [World.size_alloc]; have := b3.size; omega) (fun q e => by have := hown q e; omega)
        have s4 : w.heap.size + 1 + 1 + 1 ≤ w4.heap.size := by have h1 := F.out.2.1.size; rw [World.size_alloc] at h1; have := HZ3.out; omega
        have F1 := Lib.hid (And.intro hps4 (And.intro x4 (And.intro z4 (And.intro m4 (And.intro b4 s4)))))
        clear hown hps4 x4 z4 m4 b3 b4 s4
        go_wp2_with fail
        go_roundw
        case rel =>
          obtain ⟨q1, q2, q3, q4, q5, q6⟩ := F1.out
          exact ⟨j + 1, ps ++ [(_, k3)], .slice (some ⟨g4, 0, none⟩) (j + 1) c4, by omega, by go_num, by rw [HTK.out]; exact EqL.append _ _ _ _ HEQ.out (by simp [EqL, HQ3.out.1]), (fun x hx => by rcases List.mem_append.1 hx with hx | hx; exact HONE.out x hx; rw [List.mem_singleton.1 hx]; rfl),
            q1.other (by first | rfl | simp) (fun b hb => heap_setCell_other _ _ _ _ (by simp only []; omega)), (heap_setCell_other _ _ _ _ (by simp only []; omega)).trans q2, (heap_setCell_other _ _ _ _ (by simp only []; omega)).trans q3, by rw [heap_setCell_same _ _ _ _ _ _ q4]; rfl, by simpa using q6, q5.setCell (p := ⟨w.heap.size + 1 + 1, 6, none⟩) (by simp only []; omega) _⟩
        case measure => simp [intOf] <;> omega
    · obtain rfl : j = L := by omega
      have hji : ¬ (j : Int) < (j : Int) := by omega
      have heq : EqL (mirL k) ps = true := by have := HEQ.out; rwa [List.take_of_length_le (by simp only [List.length_reverse, HML.out]; omega)] at this
      have HE := Lib.hid heq
      clear heq HC
      have hm0 := cell_block RM.out (o := 0) rfl; have hm1 := cell_block RM.out (o := 1) rfl; have hm2 := cell_block RM.out (o := 2) rfl; have hm3 := cell_block RM.out (o := 3) rfl; have hm4 := cell_block RM.out (o := 4) rfl; have hm5 := cell_block RM.out (o := 5) rfl; have hm6 := cell_block RM.out (o := 6) rfl
      have fm0 := frozen_block RM.out (o := 0); have fm1 := frozen_block RM.out (o := 1); have fm2 := frozen_block RM.out (o := 2); have fm3 := frozen_block RM.out (o := 3); have fm4 := frozen_block RM.out (o := 4); have fm5 := frozen_block RM.out (o := 5); have fm6 := frozen_block RM.out (o := 6)
      have hz0 := cell_block RZ.out (o := 0) rfl; have hz1 := cell_block RZ.out (o := 1) rfl; have hz2 := cell_block RZ.out (o := 2) rfl; have hz3 := cell_block RZ.out (o := 3) rfl; have hz4 := cell_block RZ.out (o := 4) rfl; have hz5 := cell_block RZ.out (o := 5) rfl; have hz6 := cell_block RZ.out (o := 6) rfl
      have fz0 := frozen_block RZ.out (o := 0); have fz1 := frozen_block RZ.out (o := 1); have fz2 := frozen_block RZ.out (o := 2); have fz3 := frozen_block RZ.out (o := 3); have fz4 := frozen_block RZ.out (o := 4); have fz5 := frozen_block RZ.out (o := 5); have fz6 := frozen_block RZ.out (o := 6)
      go_wp2_with fail
      refine bodyPost_gen ?_
      intro Wf hWf
      have RF := Lib.hid (show Wf.heap[w.heap.size + 1]? = some (.cells #[.int .i64 kind, .int .u32 (p.toNat : Int), .int .u32 (m.toNat : Int), .bool neg, .int .i64 mi, .int .i64 ma, .slice vo j vc] 27 (0, 0)) by rw [hWf]; exact seven RZ.out _ _ _ _ _ _ _)
      have RO := Lib.hid (show Old (w.heap.size + 1 + 1 + 1) wr Wf by rw [hWf]; exact (by repeat (first | (with_reducible exact Old.refl _ _) | refine Old.set ?_ (by simp only []; omega) _)))
      have RL := Lib.hid (show Below w.heap.size w Wf by rw [hWf]; exact (by repeat (first | (with_reducible exact HW.out) | refine Below.setCell ?_ (by simp only []; omega) _)))
      clear hWf
      have q0 : Wf.cell? ⟨w.heap.size + 1, 0, none⟩ = some (.int .i64 kind) := cell_block RF.out rfl
      have q1 : Wf.cell? ⟨w.heap.size + 1, 1, none⟩ = some (.int .u32 (p.toNat : Int)) := cell_block RF.out rfl
      have q2 : Wf.cell? ⟨w.heap.size + 1, 2, none⟩ = some (.int .u32 (m.toNat : Int)) := cell_block RF.out rfl
      have q3 : Wf.cell? ⟨w.heap.size + 1, 3, none⟩ = some (.bool neg) := cell_block RF.out rfl
      have q4 : Wf.cell? ⟨w.heap.size + 1, 4, none⟩ = some (.int .i64 mi) := cell_block RF.out rfl
      have q5 : Wf.cell? ⟨w.heap.size + 1, 5, none⟩ = some (.int .i64 ma) := cell_block RF.out rfl
      have q6 : Wf.cell? ⟨w.heap.size + 1, 6, none⟩ = some (.slice vo j vc) := cell_block RF.out rfl
      refine bodyPost_ret (v := .agg #[.int .i64 kind, .int .u32 (p.toNat : Int), .int .u32 (m.toNat : Int), .bool neg, .int .i64 mi, .int .i64 ma, .slice vo j vc]) (by simp [results, Tryd.results61, go_sem, q0, q1, q2, q3, q4, q5, q6]) rfl ?_
      obtain ⟨x, hx⟩ := mir_fin (w := w) (d := ⟨kind, (p, m), neg, mi, ma, .slice ao j cap⟩) (d' := ⟨kind, (p, m), neg, mi, ma, .slice vo j vc⟩) (k := k) (wr := wr) (base := w.heap.size + 1 + 1 + 1) (ps := ps) HP.out RO.out RL.out (by omega) ⟨vo, vc, by rw [HLE.out]⟩ (mir_ptq HK2.out.symm rfl rfl rfl rfl (by rw [if_neg E3.out]; exact HE.out))
      first | exact ⟨⟨kind, (p, m), neg, mi, ma, .slice vo j vc⟩, x, rfl, hx⟩ | exact ⟨⟨kind, (p, m), neg, mi, ma, .slice vo j vc⟩, rfl, x, hx⟩
end Go.Proofs.YtmobilppakjihaaDoor
