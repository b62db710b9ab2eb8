/-
  Lemmas that the theorem of this claim rests on: 4 texts, one behind the other.
-/
import Derived.Test.YtmobilppakjihaaDoorM24
import Derived.Test.YtmobilppakjihaaDoorM14
import Derived.Test.YtmobilppakjihaaDoorM23
import Derived.Test.YtmobilppakjihaaDoorM7
set_option linter.unusedSimpArgs false
set_option linter.unusedVariables false
/-
  The specification's tables of patterns (Table): with patterns below them.
-/
namespace Go.Proofs.YtmobilppakjihaaDoor
open Go.RowKit Go.Sort

theorem tabF_len (ss : List Snd) : ∀ f : Fo, (tabF ss f).length = f.len
  | .nil => rfl
  | .cons d k r => by simp only [tabF, List.length_cons, tabF_len ss r, Fo.len]
theorem tabF_get (ss : List Snd) : ∀ (f : Fo) (j : Nat) (d : Nd) (k r : Fo), f.drop j = .cons d k r → (tabF ss f)[j]? = some (tabP ss d k)
  | .nil, 0, d, k, r, h => by cases h
  | .nil, j + 1, d, k, r, h => by cases h
  | .cons d' k' r', 0, d, k, r, h => by cases h; rfl
  | .cons d' k' r', j + 1, d, k, r, h => by
    simp only [Fo.drop] at h
    simpa [tabF] using tabF_get ss r' j d k r h
/-- What Table does with a pattern. -/
def TableAt (d : Nd) (k : Fo) : Prop := ∀ (ss : List Snd) (sv : Value) (w : World), Pt w d k → ndE d k.len = 0 → k.good → k.size ≤ 100 → ss.length ≤ 32 → Wd w sv ss → Calls Tryd.prog 51 #[ndV d, sv] w fun e w' => ∃ v, e = .returned v ∧ TbS w' v ss.length (tabP ss d k) ∧ Below w.heap.size w w'
set_option maxRecDepth 100000 in
set_option maxHeartbeats 4000000 in
theorem rtab_3 (s : Nat) (ih : ∀ d k, k.size < s → TableAt d k) (k : Fo) (hks : k.size ≤ s) (h100 : k.size ≤ 100) (hg : k.good) (p m : BitVec 32) (neg : Bool) (mi ma : Int) (ao : Option Addr) (kl cap : Nat) (ss : List Snd) (wv : Value) (w : World) (n : Nat) (hn : n ≤ 32) (hl : ss.length = n) (hW : Wd w wv ss) (hkl : k.len = kl) (hp : Pt w ⟨3, (p, m), neg, mi, ma, .slice ao kl cap⟩ k) :
    Calls Tryd.prog 51 #[.agg #[.int .i64 3, .int .u32 (p.toNat : Int), .int .u32 (m.toNat : Int), .bool neg, .int .i64 mi, .int .i64 ma, .slice ao kl cap], wv] w fun e w' => ∃ v, e = .returned v ∧ TbS w' v n ((tabF ss k).foldl (thnT n) (sameT n)) ∧ Below w.heap.size w w' := by
  have hwd := hW
  obtain ⟨wo, wc, rfl, lw, mw, H1⟩ := hW.open
  obtain ⟨ao2, cap2, hsl, c1, m1, hcell⟩ := hp.open
  simp only [Value.slice.injEq] at hsl
  obtain ⟨rfl, -, rfl⟩ := hsl
  have hlk := Fo.len_size k
  rw [hkl] at hcell
  have l1 : kl ≤ 100 := by omega
  have HC := Lib.hid hcell; have HL := Lib.hid hkl; have IH := Lib.hid ih; have HG := Lib.hid hg; have HN := Lib.hid hl; have HWD := Lib.hid hwd
  have HK := Lib.hid (And.intro hks h100)
  have htl : (tabF ss k).length = kl := by rw [tabF_len, hkl]
  have HTL := Lib.hid htl
  rw [hl]
  clear hcell ih hg hp hwd hl H1 hks h100 hlk htl c1 m1 lw mw hkl
  have hmk : ∀ w, Sem.run Tryd.prog (Instr.makeSlice 78 (Value.int IntKind.i64 ((n : Int) + 1)) (Value.int IntKind.i64 ((n : Int) + 1))) w = .ok (.slice (some ⟨w.heap.size, 0, none⟩) (n + 1) (n + 1)) (w.alloc (.cells (uR n zeroT) 71)) := make_rowT n hn
  have hwr : IntKind.i64.wrap ((n : Int) + 1) = (n : Int) + 1 := by rw [IntKind.wrap_i64]; omega
  have R0 := Lib.hid (show ((w.alloc (.cells #[.int .i64 3, .int .u32 (p.toNat : Int), .int .u32 (m.toNat : Int), .bool neg, .int .i64 mi, .int .i64 ma, .slice ao kl cap] 27)).alloc (.cells (uR n zeroT) 71)).heap[w.heap.size]? = some (.cells #[.int .i64 3, .int .u32 (p.toNat : Int), .int .u32 (m.toNat : Int), .bool neg, .int .i64 mi, .int .i64 ma, .slice ao kl cap] 27) from (Below.heap_alloc _ _ _ (by rw [World.size_alloc]; omega)).trans (World.alloc_heap_new w _))
  have T0 := Lib.hid (show RowT ((w.alloc (.cells #[.int .i64 3, .int .u32 (p.toNat : Int), .int .u32 (m.toNat : Int), .bool neg, .int .i64 mi, .int .i64 ma, .slice ao kl cap] 27)).alloc (.cells (uR n zeroT) 71)) (w.heap.size + 1) n zeroT from heap_alloc2_new w _ _)
  have HB0 := Lib.hid (show Below w.heap.size w ((w.alloc (.cells #[.int .i64 3, .int .u32 (p.toNat : Int), .int .u32 (m.toNat : Int), .bool neg, .int .i64 mi, .int .i64 ma, .slice ao kl cap] 27)).alloc (.cells (uR n zeroT) 71)) by go_grown)
  go_enter Tryd.func51, Tryd.ntmps51
  go_wp2_with fail
  go_loopw [7] (fun i wr => ∃ q : Nat, q ≤ n + 1 ∧ i = .int .i64 (q : Int) ∧ RowT wr (w.heap.size + 1) n (fun a => if a < q then 0#64 else 0#64) ∧ wr.heap[w.heap.size]? = some (.cells #[.int .i64 3, .int .u32 (p.toNat : Int), .int .u32 (m.toNat : Int), .bool neg, .int .i64 mi, .int .i64 ma, .slice ao kl cap] 27) ∧ Below w.heap.size w wr) (fun i _ => n + 1 - (intOf i).toNat)
  case atStart => exact ⟨0, by omega, rfl, RowT.eq T0.out (fun a _ => by simp [zeroT]), R0.out, HB0.out⟩
  case round =>
    clear R0 T0 HB0 hmk
    obtain ⟨q, hk, rfl, hr, hR, hw⟩ := hrel
    have g0 := cell_block hR (o := 0) rfl; have g1 := cell_block hR (o := 1) rfl; have g2 := cell_block hR (o := 2) rfl; have g3 := cell_block hR (o := 3) rfl; have g4 := cell_block hR (o := 4) rfl; have g5 := cell_block hR (o := 5) rfl; have g6 := cell_block hR (o := 6) rfl
    have HR := Lib.hid hr; have HW := Lib.hid hw; have RR := Lib.hid hR
    clear hr hw hR
    by_cases hlt : q < n + 1
    · have hki : (q : Int) ≤ (n : Int) := by omega
      have hki2 : (q : Int) < (n : Int) + 1 := by omega
      clear HC
      skip
      go_wp2_with fail
      go_roundw
      case rel => exact ⟨q + 1, by omega, by go_num, HR.out.eq (fun a _ => by by_cases h : a < q <;> by_cases h2 : a < q + 1 <;> simp [h, h2]), RR.out, HW.out⟩
      case measure => simp [intOf] <;> omega
    · obtain rfl : q = n + 1 := by omega
      have hki : ¬ (((n + 1 : Nat) : Int) ≤ (n : Int)) := by omega
      clear hlt
      go_wp2_with fail
      go_at_call 74
      refine (rsame_any n hn _).mono ?_
      rintro e w1 ⟨v1, rfl, ht1, hb1⟩
      obtain ⟨gt, rfl, hrow⟩ := ht1
      have HT1 := Lib.hid (show TbS w1 _ n (sameT n) from ⟨gt, rfl, hrow⟩)
      have HW1 := Lib.hid (HW.out.trans (hb1.mono HW.out.size))
      have RR1 := Lib.hid ((hb1.block _ (Array.getElem?_eq_some_iff.1 RR.out).1).trans RR.out)
      clear hrow hb1 HR HW RR g0 g1 g2 g3 g4 g5 g6
      have g0 := cell_block RR1.out (o := 0) rfl; have g1 := cell_block RR1.out (o := 1) rfl; have g2 := cell_block RR1.out (o := 2) rfl; have g3 := cell_block RR1.out (o := 3) rfl; have g4 := cell_block RR1.out (o := 4) rfl; have g5 := cell_block RR1.out (o := 5) rfl; have g6 := cell_block RR1.out (o := 6) rfl
      go_wp2_with fail
      go_loopw [6, 8] (fun o i wr => ∃ j : Nat, j ≤ kl ∧ i = .int .i64 (j : Int) ∧ TbS wr o n (((tabF ss k).take j).foldl (thnT n) (sameT n)) ∧ wr.heap[w.heap.size]? = some (.cells #[.int .i64 3, .int .u32 (p.toNat : Int), .int .u32 (m.toNat : Int), .bool neg, .int .i64 mi, .int .i64 ma, .slice ao kl cap] 27) ∧ Below w.heap.size w wr) (fun _ i _ => kl - (intOf i).toNat)
      case atStart => exact ⟨0, by omega, rfl, HT1.out, RR1.out, HW1.out⟩
      case round =>
      clear HT1 RR1 HW1 g0 g1 g2 g3 g4 g5 g6
      obtain ⟨j, hj, rfl, ht, hR, hw⟩ := hrel
      have g0 := cell_block hR (o := 0) rfl; have g1 := cell_block hR (o := 1) rfl; have g2 := cell_block hR (o := 2) rfl; have g3 := cell_block hR (o := 3) rfl; have g4 := cell_block hR (o := 4) rfl; have g5 := cell_block hR (o := 5) rfl; have g6 := cell_block hR (o := 6) rfl
      have HW := Lib.hid hw; have RR := Lib.hid hR
      obtain ⟨go, rfl, hrow⟩ := ht
      have HT := Lib.hid (show TbS _ _ n _ from ⟨go, rfl, hrow⟩)
      clear hw hR hrow
      by_cases hlt : j < kl
      · have hji : (j : Int) < (kl : Int) := by omega
        obtain ⟨b, off, hao, lb, hpf⟩ := HC.out j hlt
        subst hao
        obtain ⟨d', k', he⟩ := Fo.drop_step k j (by rw [HL.out]; exact hlt)
        have hget := tabF_get ss k j d' k' _ he
        have hgd := Fo.good_drop k j HG.out
        have hsz := Fo.drop_size k j
        rw [he] at hpf hgd hsz
        simp only [Fo.size] at hsz
        obtain ⟨gd1, gd2, -⟩ := hgd
        obtain ⟨e0, e1, e2, e3, e4, e5, e6, e7, -⟩ := hpf
        have hc := fun o v (h : w.cell? ⟨b, o, none⟩ = some v) => (HW.out.cell (p := ⟨b, o, none⟩) lb).trans h
        have f0 := hc _ _ e0
        have f1 := hc _ _ e1
        have f2 := hc _ _ e2
        have f3 := hc _ _ e3
        have f4 := hc _ _ e4
        have f5 := hc _ _ e5
        have f6 := hc _ _ e6
        obtain ⟨ao', cap', hsl', -, -, -⟩ := Pt.open e7
        have hrec := fun W (hb : Below w.heap.size w W) => IH.out d' k' (by have := HK.out; omega) ss (.slice wo ss.length wc) W (Pt.below e7 hb) gd1 gd2 (by have := HK.out; omega) (by rw [HN.out]; exact hn) (HWD.out.below hb)
        unfold ndV at hrec
        rw [hsl'] at hrec f6
        have hlenT : j < (tabF ss k).length := by rw [tabF_len, HL.out]; exact hlt
        have hgj : (tabF ss k)[j] = tabP ss d' k' := by
          rw [List.getElem?_eq_getElem hlenT] at hget
          exact Option.some.inj hget
        have htk : (tabF ss k).take (j + 1) = (tabF ss k).take j ++ [tabP ss d' k'] := by rw [List.take_succ_eq_append_getElem hlenT, hgj]
        rw [HN.out] at hrec
        have HREC := Lib.hid hrec; have HTK := Lib.hid htk
        clear hrec htk hget hgj hlenT hsl' e0 e1 e2 e3 e4 e5 e6 e7 he hsz gd1 gd2 hc HC
        go_wp2_with fail
        go_at_call 51
        refine (HREC.out _ HW.out).mono ?_
        rintro e w3 ⟨u, rfl, hu, hb3⟩
        obtain ⟨gu, rfl, hrow⟩ := hu
        have HU := Lib.hid (show TbS w3 _ n _ from ⟨gu, rfl, hrow⟩)
        have HT3 := Lib.hid (HT.out.below hb3)
        have HW3 := Lib.hid (HW.out.trans (hb3.mono HW.out.size))
        have RR3 := Lib.hid ((hb3.block _ (Array.getElem?_eq_some_iff.1 RR.out).1).trans RR.out)
        clear hrow hb3 HT HW RR f0 f1 f2 f3 f4 f5 f6 g0 g1 g2 g3 g4 g5 g6
        go_wp2_with fail
        go_at_call 75
        refine (rfollow_any n hn _ _ _ _ _ HT3.out HU.out).mono ?_
        rintro e w4 ⟨r, rfl, hr, hb4⟩
        obtain ⟨gr, rfl, hrow⟩ := hr
        have HFIN := Lib.hid (show TbS w4 (.slice (some ⟨gr, 0, none⟩) (n + 1) (n + 1)) n (((tabF ss k).take (j + 1)).foldl (thnT n) (sameT n)) by rw [HTK.out, List.foldl_append]; exact ⟨gr, rfl, hrow⟩)
        have HW4 := Lib.hid (HW3.out.trans (hb4.mono HW3.out.size))
        have RR4 := Lib.hid ((hb4.block _ (Array.getElem?_eq_some_iff.1 RR3.out).1).trans RR3.out)
        clear hrow hb4 HT3 HW3 RR3 HU
        go_wp2_with fail
        go_roundw
        case rel => exact ⟨j + 1, by omega, by go_num, HFIN.out, RR4.out, HW4.out⟩
        case measure => simp [intOf] <;> omega
      · obtain rfl : j = kl := by omega
        have hji : ¬ (j : Int) < (j : Int) := by omega
        have htk : (tabF ss k).take j = tabF ss k := List.take_of_length_le (by rw [HTL.out]; exact Nat.le_refl _)
        have HFIN := Lib.hid (show TbS wr (.slice (some ⟨go, 0, none⟩) (n + 1) (n + 1)) n ((tabF ss k).foldl (thnT n) (sameT n)) by have := HT.out; rw [htk] at this; exact this)
        clear HT htk HC hlt
        go_wp2_with fail
        go_returns
        exact ⟨_, rfl, HFIN.out, HW.out⟩
set_option maxRecDepth 100000 in
set_option maxHeartbeats 4000000 in
theorem rtab_4 (s : Nat) (ih : ∀ d k, k.size < s → TableAt d k) (k : Fo) (hks : k.size ≤ s) (h100 : k.size ≤ 100) (hg : k.good) (p m : BitVec 32) (neg : Bool) (mi ma : Int) (ao : Option Addr) (kl cap : Nat) (ss : List Snd) (wv : Value) (w : World) (n : Nat) (hn : n ≤ 32) (hl : ss.length = n) (hW : Wd w wv ss) (hkl : k.len = kl) (hp : Pt w ⟨4, (p, m), neg, mi, ma, .slice ao kl cap⟩ k) :
    Calls Tryd.prog 51 #[.agg #[.int .i64 4, .int .u32 (p.toNat : Int), .int .u32 (m.toNat : Int), .bool neg, .int .i64 mi, .int .i64 ma, .slice ao kl cap], wv] w fun e w' => ∃ v, e = .returned v ∧ TbS w' v n ((tabF ss k).foldl orT zeroT) ∧ Below w.heap.size w w' := by
  have hwd := hW
  obtain ⟨wo, wc, rfl, lw, mw, H1⟩ := hW.open
  obtain ⟨ao2, cap2, hsl, c1, m1, hcell⟩ := hp.open
  simp only [Value.slice.injEq] at hsl
  obtain ⟨rfl, -, rfl⟩ := hsl
  have hlk := Fo.len_size k
  rw [hkl] at hcell
  have l1 : kl ≤ 100 := by omega
  have HC := Lib.hid hcell; have HL := Lib.hid hkl; have IH := Lib.hid ih; have HG := Lib.hid hg; have HN := Lib.hid hl; have HWD := Lib.hid hwd
  have HK := Lib.hid (And.intro hks h100)
  have htl : (tabF ss k).length = kl := by rw [tabF_len, hkl]
  have HTL := Lib.hid htl
  rw [hl]
  clear hcell ih hg hp hwd hl H1 hks h100 hlk htl c1 m1 lw mw hkl
  have hmk : ∀ w, Sem.run Tryd.prog (Instr.makeSlice 78 (Value.int IntKind.i64 ((n : Int) + 1)) (Value.int IntKind.i64 ((n : Int) + 1))) w = .ok (.slice (some ⟨w.heap.size, 0, none⟩) (n + 1) (n + 1)) (w.alloc (.cells (uR n zeroT) 71)) := make_rowT n hn
  have hwr : IntKind.i64.wrap ((n : Int) + 1) = (n : Int) + 1 := by rw [IntKind.wrap_i64]; omega
  have R0 := Lib.hid (show ((w.alloc (.cells #[.int .i64 4, .int .u32 (p.toNat : Int), .int .u32 (m.toNat : Int), .bool neg, .int .i64 mi, .int .i64 ma, .slice ao kl cap] 27)).alloc (.cells (uR n zeroT) 71)).heap[w.heap.size]? = some (.cells #[.int .i64 4, .int .u32 (p.toNat : Int), .int .u32 (m.toNat : Int), .bool neg, .int .i64 mi, .int .i64 ma, .slice ao kl cap] 27) from (Below.heap_alloc _ _ _ (by rw [World.size_alloc]; omega)).trans (World.alloc_heap_new w _))
  have T0 := Lib.hid (show RowT ((w.alloc (.cells #[.int .i64 4, .int .u32 (p.toNat : Int), .int .u32 (m.toNat : Int), .bool neg, .int .i64 mi, .int .i64 ma, .slice ao kl cap] 27)).alloc (.cells (uR n zeroT) 71)) (w.heap.size + 1) n zeroT from heap_alloc2_new w _ _)
  have HB0 := Lib.hid (show Below w.heap.size w ((w.alloc (.cells #[.int .i64 4, .int .u32 (p.toNat : Int), .int .u32 (m.toNat : Int), .bool neg, .int .i64 mi, .int .i64 ma, .slice ao kl cap] 27)).alloc (.cells (uR n zeroT) 71)) by go_grown)
  go_enter Tryd.func51, Tryd.ntmps51
  go_wp2_with fail
  go_loopw [7] (fun i wr => ∃ q : Nat, q ≤ n + 1 ∧ i = .int .i64 (q : Int) ∧ RowT wr (w.heap.size + 1) n (fun a => if a < q then 0#64 else 0#64) ∧ wr.heap[w.heap.size]? = some (.cells #[.int .i64 4, .int .u32 (p.toNat : Int), .int .u32 (m.toNat : Int), .bool neg, .int .i64 mi, .int .i64 ma, .slice ao kl cap] 27) ∧ Below w.heap.size w wr) (fun i _ => n + 1 - (intOf i).toNat)
  case atStart => exact ⟨0, by omega, rfl, RowT.eq T0.out (fun a _ => by simp [zeroT]), R0.out, HB0.out⟩
  case round =>
    clear R0 T0 HB0 hmk
    obtain ⟨q, hk, rfl, hr, hR, hw⟩ := hrel
    have g0 := cell_block hR (o := 0) rfl; have g1 := cell_block hR (o := 1) rfl; have g2 := cell_block hR (o := 2) rfl; have g3 := cell_block hR (o := 3) rfl; have g4 := cell_block hR (o := 4) rfl; have g5 := cell_block hR (o := 5) rfl; have g6 := cell_block hR (o := 6) rfl
    have HR := Lib.hid hr; have HW := Lib.hid hw; have RR := Lib.hid hR
    clear hr hw hR
    by_cases hlt : q < n + 1
    · have hki : (q : Int) ≤ (n : Int) := by omega
      have hki2 : (q : Int) < (n : Int) + 1 := by omega
      clear HC
      skip
      go_wp2_with fail
      go_roundw
      case rel => exact ⟨q + 1, by omega, by go_num, HR.out.eq (fun a _ => by by_cases h : a < q <;> by_cases h2 : a < q + 1 <;> simp [h, h2]), RR.out, HW.out⟩
      case measure => simp [intOf] <;> omega
    · obtain rfl : q = n + 1 := by omega
      have hki : ¬ (((n + 1 : Nat) : Int) ≤ (n : Int)) := by omega
      clear hlt
      have HT1 := Lib.hid (show TbS wr (.slice (some ⟨w.heap.size + 1, 0, none⟩) (n + 1) (n + 1)) n zeroT from ⟨w.heap.size + 1, rfl, HR.out.eq (fun a ha => by rw [if_pos (by omega)]; rfl)⟩)
      have HW1 := Lib.hid HW.out
      have RR1 := Lib.hid RR.out
      clear HR HW RR
      go_wp2_with fail
      go_loopw [6, 9] (fun o i wr => ∃ j : Nat, j ≤ kl ∧ i = .int .i64 (j : Int) ∧ TbS wr o n (((tabF ss k).take j).foldl orT zeroT) ∧ wr.heap[w.heap.size]? = some (.cells #[.int .i64 4, .int .u32 (p.toNat : Int), .int .u32 (m.toNat : Int), .bool neg, .int .i64 mi, .int .i64 ma, .slice ao kl cap] 27) ∧ Below w.heap.size w wr) (fun _ i _ => kl - (intOf i).toNat)
      case atStart => exact ⟨0, by omega, rfl, HT1.out, RR1.out, HW1.out⟩
      case round =>
      clear HT1 RR1 HW1 g0 g1 g2 g3 g4 g5 g6
      obtain ⟨j, hj, rfl, ht, hR, hw⟩ := hrel
      have g0 := cell_block hR (o := 0) rfl; have g1 := cell_block hR (o := 1) rfl; have g2 := cell_block hR (o := 2) rfl; have g3 := cell_block hR (o := 3) rfl; have g4 := cell_block hR (o := 4) rfl; have g5 := cell_block hR (o := 5) rfl; have g6 := cell_block hR (o := 6) rfl
      have HW := Lib.hid hw; have RR := Lib.hid hR
      obtain ⟨go, rfl, hrow⟩ := ht
      have HT := Lib.hid (show TbS _ _ n _ from ⟨go, rfl, hrow⟩)
      clear hw hR hrow
      by_cases hlt : j < kl
      · have hji : (j : Int) < (kl : Int) := by omega
        obtain ⟨b, off, hao, lb, hpf⟩ := HC.out j hlt
        subst hao
        obtain ⟨d', k', he⟩ := Fo.drop_step k j (by rw [HL.out]; exact hlt)
        have hget := tabF_get ss k j d' k' _ he
        have hgd := Fo.good_drop k j HG.out
        have hsz := Fo.drop_size k j
        rw [he] at hpf hgd hsz
        simp only [Fo.size] at hsz
        obtain ⟨gd1, gd2, -⟩ := hgd
        obtain ⟨e0, e1, e2, e3, e4, e5, e6, e7, -⟩ := hpf
        have hc := fun o v (h : w.cell? ⟨b, o, none⟩ = some v) => (HW.out.cell (p := ⟨b, o, none⟩) lb).trans h
        have f0 := hc _ _ e0
        have f1 := hc _ _ e1
        have f2 := hc _ _ e2
        have f3 := hc _ _ e3
        have f4 := hc _ _ e4
        have f5 := hc _ _ e5
        have f6 := hc _ _ e6
        obtain ⟨ao', cap', hsl', -, -, -⟩ := Pt.open e7
        have hrec := fun W (hb : Below w.heap.size w W) => IH.out d' k' (by have := HK.out; omega) ss (.slice wo ss.length wc) W (Pt.below e7 hb) gd1 gd2 (by have := HK.out; omega) (by rw [HN.out]; exact hn) (HWD.out.below hb)
        unfold ndV at hrec
        rw [hsl'] at hrec f6
        have hlenT : j < (tabF ss k).length := by rw [tabF_len, HL.out]; exact hlt
        have hgj : (tabF ss k)[j] = tabP ss d' k' := by
          rw [List.getElem?_eq_getElem hlenT] at hget
          exact Option.some.inj hget
        have htk : (tabF ss k).take (j + 1) = (tabF ss k).take j ++ [tabP ss d' k'] := by rw [List.take_succ_eq_append_getElem hlenT, hgj]
        rw [HN.out] at hrec
        have HREC := Lib.hid hrec; have HTK := Lib.hid htk
        clear hrec htk hget hgj hlenT hsl' e0 e1 e2 e3 e4 e5 e6 e7 he hsz gd1 gd2 hc HC
        go_wp2_with fail
        go_at_call 51
        refine (HREC.out _ HW.out).mono ?_
        rintro e w3 ⟨u, rfl, hu, hb3⟩
        obtain ⟨gu, rfl, hrow⟩ := hu
        have HU := Lib.hid (show TbS w3 _ n _ from ⟨gu, rfl, hrow⟩)
        have HT3 := Lib.hid (HT.out.below hb3)
        have HW3 := Lib.hid (HW.out.trans (hb3.mono HW.out.size))
        have RR3 := Lib.hid ((hb3.block _ (Array.getElem?_eq_some_iff.1 RR.out).1).trans RR.out)
        clear hrow hb3 HT HW RR f0 f1 f2 f3 f4 f5 f6 g0 g1 g2 g3 g4 g5 g6
        go_wp2_with fail
        go_at_call 76
        refine (rjoin_any n hn _ _ _ _ _ HT3.out HU.out).mono ?_
        rintro e w4 ⟨r, rfl, hr, hb4⟩
        obtain ⟨gr, rfl, hrow⟩ := hr
        have HFIN := Lib.hid (show TbS w4 (.slice (some ⟨gr, 0, none⟩) (n + 1) (n + 1)) n (((tabF ss k).take (j + 1)).foldl orT zeroT) by rw [HTK.out, List.foldl_append]; exact ⟨gr, rfl, hrow⟩)
        have HW4 := Lib.hid (HW3.out.trans (hb4.mono HW3.out.size))
        have RR4 := Lib.hid ((hb4.block _ (Array.getElem?_eq_some_iff.1 RR3.out).1).trans RR3.out)
        clear hrow hb4 HT3 HW3 RR3 HU
        go_wp2_with fail
        go_roundw
        case rel => exact ⟨j + 1, by omega, by go_num, HFIN.out, RR4.out, HW4.out⟩
        case measure => simp [intOf] <;> omega
      · obtain rfl : j = kl := by omega
        have hji : ¬ (j : Int) < (j : Int) := by omega
        have htk : (tabF ss k).take j = tabF ss k := List.take_of_length_le (by rw [HTL.out]; exact Nat.le_refl _)
        have HFIN := Lib.hid (show TbS wr (.slice (some ⟨go, 0, none⟩) (n + 1) (n + 1)) n ((tabF ss k).foldl orT zeroT) by have := HT.out; rw [htk] at this; exact this)
        clear HT htk HC hlt
        go_wp2_with fail
        go_returns
        exact ⟨_, rfl, HFIN.out, HW.out⟩
end Go.Proofs.YtmobilppakjihaaDoor

/-
  The specification's tables of patterns (Table): a repeated pattern.
-/
namespace Go.Proofs.YtmobilppakjihaaDoor
open Go.RowKit Go.Sort
/-- The table behind so many rounds. -/
def outT (n : Nat) (x : Tb) (lo j : Nat) : Tb := if j ≤ lo then zeroT else unT n x lo (j - lo - 1)
theorem outT_lo {n : Nat} {x : Tb} {lo j : Nat} (h : j ≤ lo) : outT n x lo j = zeroT := if_pos h
theorem outT_hi {n : Nat} {x : Tb} {lo j : Nat} (h : lo < j) : outT n x lo j = unT n x lo (j - lo - 1) := if_neg (by omega)
theorem outT_first {n : Nat} {x : Tb} {lo : Nat} : orT (outT n x lo lo) (pwT n x lo) = outT n x lo (lo + 1) := by
  rw [outT_lo (Nat.le_refl _), show orT zeroT (pwT n x lo) = pwT n x lo from by funext a; simp [orT, zeroT], outT_hi (by omega), show lo + 1 - lo - 1 = 0 from by omega]
  rfl
theorem outT_next {n : Nat} {x : Tb} {lo j : Nat} (h : lo < j) : orT (outT n x lo j) (pwT n x j) = outT n x lo (j + 1) := by
  obtain ⟨i, rfl⟩ : ∃ i, j = lo + i + 1 := ⟨j - lo - 1, by omega⟩
  rw [outT_hi (by omega), outT_hi (by omega), show lo + i + 1 - lo - 1 = i from by omega, show lo + i + 1 + 1 - lo - 1 = i + 1 from by omega]
  rfl
theorem outT_ok {n : Nat} {x : Tb} (hn : n < 64) (hx : OkT n x) (lo j : Nat) : OkT n (outT n x lo j) := by
  unfold outT
  split
  · exact OkT.zero n
  · exact OkT.un hn hx lo _
theorem outT_max {n : Nat} {x : Tb} {lo j : Nat} {hi : Int} (h : lo ≤ j) (e : (j : Int) = hi) : outT n x lo (j + 1) = repT n x lo hi := by
  rw [outT_hi (by omega), rep_most (by omega) (show (lo : Int) + ((j - lo : Nat) : Int) = hi by omega), show j + 1 - lo - 1 = j - lo from by omega]
theorem outT_stop {n : Nat} {x : Tb} {lo j : Nat} {hi : Int} (h : lo < j) (hb : j - lo - 1 ≤ 2112) (h1 : hi = -1 ∨ (j : Int) ≤ hi) (e : outT n x lo j = outT n x lo (j + 1)) : outT n x lo (j + 1) = repT n x lo hi := by
  have e2 := e
  obtain ⟨i, rfl⟩ : ∃ i, j = lo + i + 1 := ⟨j - lo - 1, by omega⟩
  rw [outT_hi (by omega), outT_hi (by omega), show lo + i + 1 - lo - 1 = i from by omega, show lo + i + 1 + 1 - lo - 1 = i + 1 from by omega] at e2
  rw [← e, outT_hi (by omega), show lo + i + 1 - lo - 1 = i from by omega]
  exact (rep_stop (by unfold bigN; omega) (by omega) e2.symm).symm
theorem outT_cnt {n : Nat} {x : Tb} (hn : n ≤ 32) (hx : OkT n x) {lo j : Nat} (h : lo < j) (hc : j - lo - 1 ≤ cntT (outT n x lo j)) (hne : outT n x lo j ≠ outT n x lo (j + 1)) : j + 1 - lo - 1 ≤ cntT (outT n x lo (j + 1)) := by
  obtain ⟨i, rfl⟩ : ∃ i, j = lo + i + 1 := ⟨j - lo - 1, by omega⟩
  rw [outT_hi (by omega), outT_hi (by omega), show lo + i + 1 - lo - 1 = i from by omega, show lo + i + 1 + 1 - lo - 1 = i + 1 from by omega] at hne
  rw [outT_hi (by omega), show lo + i + 1 - lo - 1 = i from by omega] at hc
  rw [outT_hi (by omega), show lo + i + 1 + 1 - lo - 1 = i + 1 from by omega]
  exact cnt_step hn hx (fun e => hne e.symm) hc
set_option maxRecDepth 100000 in
set_option maxHeartbeats 8000000 in
theorem rtab_5 (p m : BitVec 32) (neg : Bool) (lo : Nat) (ma : Int) (hlo : lo ≤ 32) (hma : ma = -1 ∨ (lo : Int) ≤ ma ∧ ma ≤ 32) (ao : Option Addr) (cap : Nat) (ss : List Snd) (wv : Value) (w : World) (n : Nat) (hn : n ≤ 32) (hl : ss.length = n) (hW : Wd w wv ss)
    (T : Tb) (hok : OkT n T) (kd kmi kma : Int) (kp km : Int) (kn : Bool) (sa : Option Addr) (sn sc : Nat) (hC : ∃ b off, ao = some ⟨b, off, none⟩ ∧ b < w.heap.size ∧ w.cell? ⟨b, off, none⟩ = some (.int .i64 kd) ∧ w.cell? ⟨b, off + 1, none⟩ = some (.int .u32 kp) ∧ w.cell? ⟨b, off + 2, none⟩ = some (.int .u32 km) ∧ w.cell? ⟨b, off + 3, none⟩ = some (.bool kn) ∧ w.cell? ⟨b, off + 4, none⟩ = some (.int .i64 kmi) ∧ w.cell? ⟨b, off + 5, none⟩ = some (.int .i64 kma) ∧ w.cell? ⟨b, off + 6, none⟩ = some (.slice sa sn sc))
    (hrec : ∀ W, Below w.heap.size w W → Calls Tryd.prog 51 #[.agg #[.int .i64 kd, .int .u32 kp, .int .u32 km, .bool kn, .int .i64 kmi, .int .i64 kma, .slice sa sn sc], wv] W fun e w' => ∃ v, e = .returned v ∧ TbS w' v n T ∧ Below W.heap.size W w') :
    Calls Tryd.prog 51 #[.agg #[.int .i64 5, .int .u32 (p.toNat : Int), .int .u32 (m.toNat : Int), .bool neg, .int .i64 (lo : Int), .int .i64 ma, .slice ao 1 cap], wv] w fun e w' => ∃ v, e = .returned v ∧ TbS w' v n (repT n T lo ma) ∧ Below w.heap.size w w' := by
  obtain ⟨wo, wc, rfl, lw, mw, H1⟩ := hW.open
  rw [hl] at hrec ⊢
  have HC := Lib.hid hC; have HREC := Lib.hid hrec; have HOK := Lib.hid hok; have HMA := Lib.hid hma
  clear hC hrec H1 lw mw hok hma hl hW
  have hmk : ∀ w, Sem.run Tryd.prog (Instr.makeSlice 78 (Value.int IntKind.i64 ((n : Int) + 1)) (Value.int IntKind.i64 ((n : Int) + 1))) w = .ok (.slice (some ⟨w.heap.size, 0, none⟩) (n + 1) (n + 1)) (w.alloc (.cells (uR n zeroT) 71)) := make_rowT n hn
  have hwr : IntKind.i64.wrap ((n : Int) + 1) = (n : Int) + 1 := by rw [IntKind.wrap_i64]; omega
  have R0 := Lib.hid (show ((w.alloc (.cells #[.int .i64 5, .int .u32 (p.toNat : Int), .int .u32 (m.toNat : Int), .bool neg, .int .i64 (lo : Int), .int .i64 ma, .slice ao 1 cap] 27)).alloc (.cells (uR n zeroT) 71)).heap[w.heap.size]? = some (.cells #[.int .i64 5, .int .u32 (p.toNat : Int), .int .u32 (m.toNat : Int), .bool neg, .int .i64 (lo : Int), .int .i64 ma, .slice ao 1 cap] 27) from (Below.heap_alloc _ _ _ (by rw [World.size_alloc]; omega)).trans (World.alloc_heap_new w _))
  have T0 := Lib.hid (show RowT ((w.alloc (.cells #[.int .i64 5, .int .u32 (p.toNat : Int), .int .u32 (m.toNat : Int), .bool neg, .int .i64 (lo : Int), .int .i64 ma, .slice ao 1 cap] 27)).alloc (.cells (uR n zeroT) 71)) (w.heap.size + 1) n zeroT from heap_alloc2_new w _ _)
  have HB0 := Lib.hid (show Below w.heap.size w ((w.alloc (.cells #[.int .i64 5, .int .u32 (p.toNat : Int), .int .u32 (m.toNat : Int), .bool neg, .int .i64 (lo : Int), .int .i64 ma, .slice ao 1 cap] 27)).alloc (.cells (uR n zeroT) 71)) by go_grown)
  go_enter Tryd.func51, Tryd.ntmps51
  go_wp2_with fail
  go_loopw [7] (fun i wr => ∃ q : Nat, q ≤ n + 1 ∧ i = .int .i64 (q : Int) ∧ RowT wr (w.heap.size + 1) n (fun a => if a < q then 0#64 else 0#64) ∧ wr.heap[w.heap.size]? = some (.cells #[.int .i64 5, .int .u32 (p.toNat : Int), .int .u32 (m.toNat : Int), .bool neg, .int .i64 (lo : Int), .int .i64 ma, .slice ao 1 cap] 27) ∧ Below w.heap.size w wr) (fun i _ => n + 1 - (intOf i).toNat)
  case atStart => exact ⟨0, by omega, rfl, RowT.eq T0.out (fun a _ => by simp [zeroT]), R0.out, HB0.out⟩
  case round =>
    clear R0 T0 HB0 hmk
    obtain ⟨q, hk, rfl, hr, hR, hw⟩ := hrel
    have g0 := cell_block hR (o := 0) rfl; have g1 := cell_block hR (o := 1) rfl; have g2 := cell_block hR (o := 2) rfl; have g3 := cell_block hR (o := 3) rfl; have g4 := cell_block hR (o := 4) rfl; have g5 := cell_block hR (o := 5) rfl; have g6 := cell_block hR (o := 6) rfl
    have HR := Lib.hid hr; have HW := Lib.hid hw; have RR := Lib.hid hR
    clear hr hw hR
    by_cases hlt : q < n + 1
    · have hki : (q : Int) ≤ (n : Int) := by omega
      have hki2 : (q : Int) < (n : Int) + 1 := by omega
      clear HC
      skip
      go_wp2_with fail
      go_roundw
      case rel => exact ⟨q + 1, by omega, by go_num, HR.out.eq (fun a _ => by by_cases h : a < q <;> by_cases h2 : a < q + 1 <;> simp [h, h2]), RR.out, HW.out⟩
      case measure => simp [intOf] <;> omega
    · obtain rfl : q = n + 1 := by omega
      have hki : ¬ (((n + 1 : Nat) : Int) ≤ (n : Int)) := by omega
      clear hlt
      have HT1 := Lib.hid (show TbS wr (.slice (some ⟨w.heap.size + 1, 0, none⟩) (n + 1) (n + 1)) n zeroT from ⟨w.heap.size + 1, rfl, HR.out.eq (fun a ha => by rw [if_pos (by omega)]; rfl)⟩)
      obtain ⟨b, off, hao, lb, e0, e1, e2, e3, e4, e5, e6⟩ := HC.out
      subst hao
      have hc := fun o v (h : w.cell? ⟨b, o, none⟩ = some v) => (HW.out.cell (p := ⟨b, o, none⟩) lb).trans h
      have f0 := hc _ _ e0
      have f1 := hc _ _ e1
      have f2 := hc _ _ e2
      have f3 := hc _ _ e3
      have f4 := hc _ _ e4
      have f5 := hc _ _ e5
      have f6 := hc _ _ e6
      clear hc e0 e1 e2 e3 e4 e5 e6 HC HR
      go_wp2_with fail
      go_at_call 51
      refine (HREC.out _ HW.out).mono ?_
      rintro e w1 ⟨u, rfl, hu, hb⟩
      obtain ⟨g1', rfl, hrow⟩ := hu
      have HU := Lib.hid (show TbS w1 (.slice (some ⟨g1', 0, none⟩) (n + 1) (n + 1)) n T from ⟨g1', rfl, hrow⟩)
      have HT2 := Lib.hid (HT1.out.below hb)
      have HW2 := Lib.hid (HW.out.trans (hb.mono HW.out.size))
      have RR2 := Lib.hid ((hb.block _ (Array.getElem?_eq_some_iff.1 RR.out).1).trans RR.out)
      clear hrow hb HT1 HW RR f0 f1 f2 f3 f4 f5 f6 g0 g1 g2 g3 g4 g5 g6 HREC
      go_wp2_with fail
      go_at_call 74
      refine (rsame_any n hn _).mono ?_
      rintro e w2 ⟨u, rfl, hu, hb⟩
      obtain ⟨g2', rfl, hrow⟩ := hu
      have HS3 := Lib.hid (show TbS w2 (.slice (some ⟨g2', 0, none⟩) (n + 1) (n + 1)) n (pwT n T 0) from ⟨g2', rfl, hrow⟩)
      have HU3 := Lib.hid (HU.out.below hb)
      have HT3 := Lib.hid (HT2.out.below hb)
      have HW3 := Lib.hid (HW2.out.trans (hb.mono HW2.out.size))
      have RR3 := Lib.hid ((hb.block _ (Array.getElem?_eq_some_iff.1 RR2.out).1).trans RR2.out)
      clear hrow hb HT2 HU HW2 RR2
      go_wp2_with fail
      go_loopw [6, 11, 12, 13] (fun o t i _ wr => ∃ j : Nat, i = .int .i64 (j : Int) ∧ TbS wr o n (outT n T lo j) ∧ TbS wr t n (pwT n T j) ∧ TbS wr (.slice (some ⟨g1', 0, none⟩) (n + 1) (n + 1)) n T ∧ (ma = -1 ∨ (j : Int) ≤ ma) ∧ (lo < j → j - lo - 1 ≤ cntT (outT n T lo j)) ∧ wr.heap[w.heap.size]? = some (.cells #[.int .i64 5, .int .u32 (p.toNat : Int), .int .u32 (m.toNat : Int), .bool neg, .int .i64 (lo : Int), .int .i64 ma, .slice (some ⟨b, off, none⟩) 1 cap] 27) ∧ Below w.heap.size w wr) (fun _ _ i _ _ => lo + 2200 - (intOf i).toNat)
      case atStart => exact ⟨0, rfl, by rw [outT_lo (Nat.zero_le _)]; exact HT3.out, HS3.out, HU3.out, by have := HMA.out; omega, fun h => by omega, RR3.out, HW3.out⟩
      case round =>
      clear HT3 HS3 HU3 RR3 HW3
      obtain ⟨j, rfl, ho, ht, hu, hj1, hj2, hR, hw⟩ := hrel
      have g0 := cell_block hR (o := 0) rfl; have g1 := cell_block hR (o := 1) rfl; have g2 := cell_block hR (o := 2) rfl; have g3 := cell_block hR (o := 3) rfl; have g4 := cell_block hR (o := 4) rfl; have g5 := cell_block hR (o := 5) rfl; have g6 := cell_block hR (o := 6) rfl
      obtain ⟨go, rfl, hro⟩ := ho
      obtain ⟨gt, rfl, hrt⟩ := ht
      have HO := Lib.hid (show TbS _ _ n _ from ⟨go, rfl, hro⟩); have HTT := Lib.hid (show TbS _ _ n _ from ⟨gt, rfl, hrt⟩)
      have HU := Lib.hid hu; have HW := Lib.hid hw; have RR := Lib.hid hR
      have hjb : j ≤ lo + 2113 := by
        by_cases h : lo < j
        · have := hj2 h; have := cntT_le (outT n T lo j); omega
        · omega
      have HJ1 := Lib.hid hj1; have HJ2 := Lib.hid hj2
      clear hro hrt hu hw hR hj1 hj2
      by_cases hjlo : j < lo
      · have hji : ¬ (lo : Int) ≤ (j : Int) := by omega
        have HJLO := Lib.hid hjlo
        clear hjlo
        go_wp2_with fail
        go_at_call 75
        refine (rfollow_any n hn _ _ _ _ _ HTT.out HU.out).mono ?_
        rintro e w4 ⟨r, rfl, hr, hb⟩
        obtain ⟨gr, rfl, hrow⟩ := hr
        have HN4 := Lib.hid (show TbS w4 (.slice (some ⟨gr, 0, none⟩) (n + 1) (n + 1)) n (pwT n T (j + 1)) from ⟨gr, rfl, hrow⟩)
        have HO4 := Lib.hid (show TbS w4 _ n (outT n T lo (j + 1)) by rw [outT_lo (by have := HJLO.out; omega), ← outT_lo (n := n) (x := T) (j := j) (lo := lo) (by have := HJLO.out; omega)]; exact HO.out.below hb)
        have HU4 := Lib.hid (HU.out.below hb)
        have HW4 := Lib.hid (HW.out.trans (hb.mono HW.out.size))
        have RR4 := Lib.hid ((hb.block _ (Array.getElem?_eq_some_iff.1 RR.out).1).trans RR.out)
        clear hrow hb HTT HO HU HW RR g0 g1 g2 g3 g4 g5 g6
        go_wp2_with fail
        go_roundw
        case rel => exact ⟨j + 1, by go_num, HO4.out, HN4.out, HU4.out, by have := HMA.out; have := HJLO.out; omega, fun h => by have := HJLO.out; omega, RR4.out, HW4.out⟩
        case measure => simp [intOf] <;> omega
      · have hji : (lo : Int) ≤ (j : Int) := by omega
        have hnext : orT (outT n T lo j) (pwT n T j) = outT n T lo (j + 1) := by
          by_cases h : lo < j
          · exact outT_next h
          · obtain rfl : lo = j := by omega
            exact outT_first
        have HNX := Lib.hid hnext
        clear hnext
        go_wp2_with fail
        go_at_call 76
        refine (rjoin_any n hn _ _ _ _ _ HO.out HTT.out).mono ?_
        rintro e w4 ⟨r, rfl, hr, hb⟩
        rw [HNX.out] at hr
        obtain ⟨gr, rfl, hrow⟩ := hr
        have HN4 := Lib.hid (show TbS w4 (.slice (some ⟨gr, 0, none⟩) (n + 1) (n + 1)) n (outT n T lo (j + 1)) from ⟨gr, rfl, hrow⟩)
        have HO4 := Lib.hid (HO.out.below hb)
        have HT4 := Lib.hid (HTT.out.below hb)
        have HU4 := Lib.hid (HU.out.below hb)
        have HW4 := Lib.hid (HW.out.trans (hb.mono HW.out.size))
        have RR4 := Lib.hid ((hb.block _ (Array.getElem?_eq_some_iff.1 RR.out).1).trans RR.out)
        clear hrow hb HTT HO HU HW RR g0 g1 g2 g3 g4 g5 g6 HNX
        have g0 := cell_block RR4.out (o := 0) rfl; have g1 := cell_block RR4.out (o := 1) rfl; have g2 := cell_block RR4.out (o := 2) rfl; have g3 := cell_block RR4.out (o := 3) rfl; have g4 := cell_block RR4.out (o := 4) rfl; have g5 := cell_block RR4.out (o := 5) rfl; have g6 := cell_block RR4.out (o := 6) rfl
        by_cases hjm : (j : Int) = ma
        · have hres := outT_max (n := n) (x := T) (lo := lo) (by omega) hjm
          rw [hres] at HN4
          have hjm1 : ((j : Int) == ma) = true := by simp [hjm]
          have HRES := Lib.hid HN4.out
          clear hres HN4 HJ1 HJ2 hjm HMA
          go_wp2_with fail
          go_returns
          exact ⟨_, rfl, HRES.out, HW4.out⟩
        · have hjm1 : ((j : Int) == ma) = false := by simp [hjm]
          by_cases hjl : lo < j
          · have hjl1 : (lo : Int) < (j : Int) := by omega
            have heq := fun W hb B hB => requal_any n hn _ _ (outT_ok (by omega) HOK.out lo j) (outT_ok (by omega) HOK.out lo (j + 1)) _ _ W (HO4.out.below hb) (HN4.out.below hb) B hB
            by_cases hst : outT n T lo j = outT n T lo (j + 1)
            · have heq' := fun W hb => heq W hb true ⟨fun _ => hst, fun _ => rfl⟩
              have hres := outT_stop (n := n) (x := T) hjl (by have := HJ2.out hjl; have := cntT_le (outT n T lo j); omega) HJ1.out hst
              have HRES := Lib.hid (show TbS w4 _ n (repT n T lo ma) by rw [← hres]; exact HN4.out)
              have HEQ := Lib.hid heq'
              clear heq heq' hst hres HJ1 HJ2 hjm HN4 HMA
              go_wp2_with (go_at_call 77; refine Gives.then (HEQ.out _ (Below.refl _ _)) ?_; intro w5 hb5; have HRES5 := Lib.hid (HRES.out.below hb5); have HW5 := Lib.hid (HW4.out.trans (hb5.mono HW4.out.size)); clear hb5)
              go_returns
              exact ⟨_, rfl, HRES5.out, HW5.out⟩
            · have heq' := fun W hb => heq W hb false ⟨fun h => (by cases h), fun h => absurd h hst⟩
              have hcnt := outT_cnt hn HOK.out hjl (HJ2.out hjl) hst
              have HEQ := Lib.hid heq'; have HCNT := Lib.hid hcnt; have HJM := Lib.hid hjm
              clear heq heq' hst hcnt HJ2 hjm
              go_wp2_with (go_at_call 77; refine Gives.then (HEQ.out _ (Below.refl _ _)) ?_; intro w5 hb5; have HN5 := Lib.hid (HN4.out.below hb5); have HT5 := Lib.hid (HT4.out.below hb5); have HU5 := Lib.hid (HU4.out.below hb5); have HW5 := Lib.hid (HW4.out.trans (hb5.mono HW4.out.size)); have RR5 := Lib.hid ((hb5.block _ (Array.getElem?_eq_some_iff.1 RR4.out).1).trans RR4.out); clear hb5)
              go_at_call 75
              refine (rfollow_any n hn _ _ _ _ _ HT5.out HU5.out).mono ?_
              rintro e w6 ⟨r, rfl, hr, hb⟩
              obtain ⟨gr', rfl, hrow⟩ := hr
              have HP6 := Lib.hid (show TbS w6 (.slice (some ⟨gr', 0, none⟩) (n + 1) (n + 1)) n (pwT n T (j + 1)) from ⟨gr', rfl, hrow⟩)
              have HN6 := Lib.hid (HN5.out.below hb)
              have HU6 := Lib.hid (HU5.out.below hb)
              have HW6 := Lib.hid (HW5.out.trans (hb.mono HW5.out.size))
              have RR6 := Lib.hid ((hb.block _ (Array.getElem?_eq_some_iff.1 RR5.out).1).trans RR5.out)
              clear hrow hb HN5 HT5 HU5 HW5 RR5 g0 g1 g2 g3 g4 g5 g6
              go_wp2_with fail
              go_roundw
              case rel => exact ⟨j + 1, by go_num, HN6.out, HP6.out, HU6.out, by have := HJ1.out; have := HJM.out; omega, fun _ => HCNT.out, RR6.out, HW6.out⟩
              case measure => simp [intOf] <;> omega
          · have hjl1 : ¬ (lo : Int) < (j : Int) := by omega
            have HJM := Lib.hid hjm
            clear hjm HJ2
            go_wp2_with fail
            go_at_call 75
            refine (rfollow_any n hn _ _ _ _ _ HT4.out HU4.out).mono ?_
            rintro e w6 ⟨r, rfl, hr, hb⟩
            obtain ⟨gr', rfl, hrow⟩ := hr
            have HP6 := Lib.hid (show TbS w6 (.slice (some ⟨gr', 0, none⟩) (n + 1) (n + 1)) n (pwT n T (j + 1)) from ⟨gr', rfl, hrow⟩)
            have HN6 := Lib.hid (HN4.out.below hb)
            have HU6 := Lib.hid (HU4.out.below hb)
            have HW6 := Lib.hid (HW4.out.trans (hb.mono HW4.out.size))
            have RR6 := Lib.hid ((hb.block _ (Array.getElem?_eq_some_iff.1 RR4.out).1).trans RR4.out)
            clear hrow hb HN4 HT4 HU4 HW4 RR4 g0 g1 g2 g3 g4 g5 g6 HO4
            go_wp2_with fail
            go_roundw
            case rel => exact ⟨j + 1, by go_num, HN6.out, HP6.out, HU6.out, by have := HJ1.out; have := HJM.out; omega, fun _ => by omega, RR6.out, HW6.out⟩
            case measure => simp [intOf] <;> omega
end Go.Proofs.YtmobilppakjihaaDoor

/-
  The specification's table of any valid pattern.
-/
namespace Go.Proofs.YtmobilppakjihaaDoor
open Go.RowKit Go.Sort
set_option maxRecDepth 100000 in
set_option maxHeartbeats 4000000 in
theorem rtable_all : ∀ (s : Nat) (d : Nd) (k : Fo), k.size < s → TableAt d k := by
  intro s
  induction s with
  | zero => intro d k h; omega
  | succ s ih =>
  intro d k hks ss sv w hp hnd hg h100 hl hW
  obtain ⟨k0, k6, -, -, -, -, h5⟩ := ndE_ok hnd
  obtain ⟨ao, cap, hsl, c1, m1, hcell⟩ := hp.open
  obtain ⟨kind, ⟨p, m⟩, neg, mi, ma, sl⟩ := d
  simp only at hsl h5 k0 k6
  subst hsl
  show Calls _ _ #[.agg #[.int .i64 kind, .int .u32 (p.toNat : Int), .int .u32 (m.toNat : Int), .bool neg, .int .i64 mi, .int .i64 ma, .slice ao k.len cap], sv] _ _
  by_cases e0 : kind = 0
  · subst e0
    have ht : tabP ss ⟨0, (p, m), neg, mi, ma, .slice ao k.len cap⟩ k = sameT ss.length := by
      unfold tabP tabN
      rw [if_pos rfl]
    rw [ht]
    exact rtab_0 p m neg mi ma ao k.len cap ss sv w ss.length hl rfl hW
  by_cases e1 : kind = 1
  · subst e1
    have ht : tabP ss ⟨1, (p, m), neg, mi, ma, .slice ao k.len cap⟩ k = sndT ss (p, m) neg := by
      unfold tabP tabN
      rw [if_neg (show ¬ (1 : Int) = 0 by decide), if_pos rfl]
      rfl
    rw [ht]
    exact rtab_1 p m neg mi ma ao k.len cap ss sv w ss.length hl rfl hW
  by_cases e2 : kind = 2
  · subst e2
    have ht : tabP ss ⟨2, (p, m), neg, mi, ma, .slice ao k.len cap⟩ k = fun a => if a = 0 then 1#64 else 0#64 := by
      unfold tabP tabN
      rw [if_neg (show ¬ (2 : Int) = 0 by decide), if_neg (show ¬ (2 : Int) = 1 by decide), if_pos rfl]
    rw [ht]
    exact rtab_2 p m neg mi ma ao k.len cap ss sv w ss.length hl rfl hW
  by_cases e6 : kind = 6
  · subst e6
    have ht : tabP ss ⟨6, (p, m), neg, mi, ma, .slice ao k.len cap⟩ k = fun a => if a = ss.length then 1#64 <<< a else 0#64 := by
      unfold tabP tabN
      rw [if_neg (show ¬ (6 : Int) = 0 by decide), if_neg (show ¬ (6 : Int) = 1 by decide), if_neg (show ¬ (6 : Int) = 2 by decide), if_neg (show ¬ (6 : Int) = 3 by decide), if_neg (show ¬ (6 : Int) = 4 by decide), if_neg (show ¬ (6 : Int) = 5 by decide)]
    rw [ht]
    exact rtab_6 p m neg mi ma ao k.len cap ss sv w ss.length hl rfl hW
  by_cases e3 : kind = 3
  · subst e3
    have ht : tabP ss ⟨3, (p, m), neg, mi, ma, .slice ao k.len cap⟩ k = (tabF ss k).foldl (thnT ss.length) (sameT ss.length) := by
      unfold tabP tabN
      rw [if_neg (show ¬ (3 : Int) = 0 by decide), if_neg (show ¬ (3 : Int) = 1 by decide), if_neg (show ¬ (3 : Int) = 2 by decide), if_pos rfl]
    rw [ht]
    exact rtab_3 s ih k (by omega) h100 hg p m neg mi ma ao k.len cap ss sv w ss.length hl rfl hW rfl hp
  by_cases e4 : kind = 4
  · subst e4
    have ht : tabP ss ⟨4, (p, m), neg, mi, ma, .slice ao k.len cap⟩ k = (tabF ss k).foldl orT zeroT := by
      unfold tabP tabN
      rw [if_neg (show ¬ (4 : Int) = 0 by decide), if_neg (show ¬ (4 : Int) = 1 by decide), if_neg (show ¬ (4 : Int) = 2 by decide), if_neg (show ¬ (4 : Int) = 3 by decide), if_pos rfl]
    rw [ht]
    exact rtab_4 s ih k (by omega) h100 hg p m neg mi ma ao k.len cap ss sv w ss.length hl rfl hW rfl hp
  have e5 : kind = 5 := by omega
  subst e5
  obtain ⟨hlen, hmi, hmi2, hma⟩ := h5 rfl
  obtain ⟨b, off, hao, lb, hpf⟩ := hcell 0 (by omega)
  obtain ⟨d', k', he⟩ := Fo.drop_step k 0 (by omega)
  have hsz := Fo.drop_size k 0
  rw [he] at hpf hsz
  have hkk : k = .cons d' k' (k.drop 1) := by rw [← he, Fo.drop_zero]
  have hg2 := hg
  rw [hkk] at hg2
  obtain ⟨gd1, gd2, -⟩ := hg2
  simp only [Fo.size] at hsz
  rw [Nat.zero_mul, Nat.add_zero] at hpf
  obtain ⟨f0, f1, f2, f3, f4, f5, f6, e7, -⟩ := hpf
  obtain ⟨ao', cap', hsl', -, -, -⟩ := Pt.open e7
  have hrec := fun W (hb : Below w.heap.size w W) => ih d' k' (by omega) ss sv W (Pt.below e7 hb) gd1 gd2 (by omega) hl (hW.below hb)
  unfold ndV at hrec
  rw [hsl'] at hrec f6
  obtain ⟨M, hM⟩ := Int.eq_ofNat_of_zero_le hmi
  subst hM
  have ht : tabP ss ⟨5, (p, m), neg, (M : Int), ma, .slice ao k.len cap⟩ k = repT ss.length (tabP ss d' k') M ma := by
    rw [hkk]; rfl
  rw [ht, hlen]
  exact rtab_5 p m neg M ma (by omega) hma ao cap ss sv w ss.length hl rfl hW (tabP ss d' k') (OkT.pat hl d' k') d'.kind d'.mi d'.ma _ _ d'.neg ao' k'.len cap' ⟨b, off, hao, lb, f0, f1, f2, f3, f4, f5, f6⟩ hrec
theorem rtable_any (d : Nd) (k : Fo) (ss : List Snd) (sv : Value) (w : World) (hp : Pt w d k) (hW : Wd w sv ss) (hE : mtE d k ss = 0) : Calls Tryd.prog 51 #[ndV d, sv] w fun e w' => ∃ v, e = .returned v ∧ TbS w' v ss.length (tabP ss d k) ∧ Below w.heap.size w w' := by
  obtain ⟨g1, g2, g3⟩ := pkE_good (node_ok hE).1
  exact rtable_all (k.size + 1) d k (by omega) ss sv w hp g1 g2 (by omega) (chk_len (node_ok hE).2) hW
end Go.Proofs.YtmobilppakjihaaDoor

/-
  The specification's walk over the nodes, its Check and its Size.
-/
namespace Go.Proofs.YtmobilppakjihaaDoor
open Go.RowKit Go.Sort
/-- The nodes of the first patterns. -/
def Fo.preT : Fo → Nat → List (Nd × Nat)
  | _, 0 => []
  | .nil, _ + 1 => []
  | .cons d k r, n + 1 => (d, k.len) :: (k.pre ++ r.preT n)
theorem Fo.preT_zero (f : Fo) : f.preT 0 = [] := by cases f <;> rfl
theorem Fo.pre_split : ∀ (f : Fo) (j : Nat), f.pre = f.preT j ++ (f.drop j).pre
  | f, 0 => by rw [Fo.preT_zero, Fo.drop_zero]; rfl
  | .nil, _ + 1 => rfl
  | .cons d k r, j + 1 => by
    simp only [Fo.pre, Fo.preT, Fo.drop, List.cons_append, List.append_assoc]
    rw [← Fo.pre_split r j]
theorem Fo.preT_step : ∀ (f : Fo) (j : Nat) (d : Nd) (k r : Fo), f.drop j = .cons d k r → f.preT (j + 1) = f.preT j ++ ((d, k.len) :: k.pre)
  | .nil, 0, d, k, r, h => by cases h
  | .nil, j + 1, d, k, r, h => by cases h
  | .cons d' k' r', 0, d, k, r, h => by cases h; simp [Fo.preT, Fo.preT_zero]
  | .cons d' k' r', j + 1, d, k, r, h => by
    simp only [Fo.drop] at h
    show (d', k'.len) :: (k'.pre ++ r'.preT (j + 1)) = _
    rw [Fo.preT_step r' j d k r h]
    simp [Fo.preT]
theorem Fo.preT_all (f : Fo) : f.preT f.len = f.pre := by
  have := Fo.pre_split f f.len
  rw [Fo.drop_len] at this
  simpa [Fo.pre] using this.symm
theorem Fo.preT_len (f : Fo) (j : Nat) : (f.preT j).length + (f.drop j).size = f.size := by
  have := congrArg List.length (Fo.pre_split f j)
  rw [List.length_append, Fo.pre_length, Fo.pre_length] at this
  exact this.symm
def wkV (x : Nat × Int) : Value := .tuple #[.int .i64 (x.1 : Int), .int .i64 x.2]
theorem wkL_node {d : Nd} {n b : Nat} {l : List (Nd × Nat)} (hb : b ≠ 40) (h : ndE d n = 0) : wkL ((d, n) :: l) b = wkL l (b + 1) := by
  show (if b = 40 then _ else _) = _
  rw [if_neg hb, if_pos h]
theorem ndE_neq {d : Nd} {n : Nat} (h : ndE d n ≠ 0) : (ndE d n != 0) = true := by simpa using h
set_option maxRecDepth 100000 in
set_option maxHeartbeats 4000000 in
theorem rwalk_all : ∀ (s : Nat) (d : Nd) (k : Fo) (b : Nat) (w : World), k.size < s → b ≤ 40 → Pt w d k → Gives 47 #[ndV d, .int .i64 (b : Int)] w (wkV (wkL ((d, k.len) :: k.pre) b)) := by
  intro s
  induction s with
  | zero => intro d k b w h; omega
  | succ s ih =>
  intro d k b w hks hb hp
  unfold Gives
  obtain ⟨ao, cap, hsl, c1, m1, hcell⟩ := hp.open
  have hnod := fun W => rnode_any d ao k.len cap W hsl (Nat.le_trans c1 m1)
  have hml := maxLen_lt (Nat.le_trans c1 m1)
  have HP := Lib.hid hp
  have hlen : ∀ l, ndE d k.len = 0 → b ≠ 40 → wkL ((d, k.len) :: l) b = wkL l (b + 1) := fun l h1 h2 => wkL_node h2 h1
  have hbad : ndE d k.len ≠ 0 → b ≠ 40 → wkL ((d, k.len) :: k.pre) b = (b, ndE d k.len) := fun h1 h2 => by
    show (if b = 40 then _ else _) = _
    rw [if_neg h2, if_neg h1]
  have hfull : b = 40 → wkL ((d, k.len) :: k.pre) b = (40, 12) := fun h => by
    show (if b = 40 then _ else _) = _
    rw [if_pos h]
  obtain ⟨E, hE⟩ : ∃ E, ndE d k.len = E := ⟨_, rfl⟩
  obtain ⟨R, hR⟩ : ∃ R, wkL ((d, k.len) :: k.pre) b = R := ⟨_, rfl⟩
  rw [hR] at hbad hfull ⊢
  rw [hE] at hnod hbad hlen
  have hgo : E = 0 → b ≠ 40 → wkL k.pre (b + 1) = R := fun h1 h2 => by rw [← hR, hlen _ h1 h2]
  clear hlen hR hE
  obtain ⟨kind, ⟨p, m⟩, neg, mi, ma, sl⟩ := d
  simp only at hsl
  subst hsl
  obtain ⟨L, hL⟩ : ∃ L, k.len = L := ⟨_, rfl⟩
  rw [hL] at hnod hml hcell ⊢
  unfold ndV at hnod ⊢
  simp only at hnod ⊢
  have HNOD := Lib.hid hnod; have HC := Lib.hid hcell; have HL := Lib.hid hL; have IH := Lib.hid ih; have HKS := Lib.hid hks
  clear hnod hcell hL ih hks hp c1 m1
  have R0 := Lib.hid (World.alloc_heap_new w (.cells #[.int .i64 kind, .int .u32 (p.toNat : Int), .int .u32 (m.toNat : Int), .bool neg, .int .i64 mi, .int .i64 ma, .slice ao L cap] 27))
  have HB0 := Lib.hid (show Below w.heap.size w (w.alloc (.cells #[.int .i64 kind, .int .u32 (p.toNat : Int), .int .u32 (m.toNat : Int), .bool neg, .int .i64 mi, .int .i64 ma, .slice ao L cap] 27)) by go_grown)
  by_cases hb40 : b = 40
  · obtain rfl := hfull hb40
    subst hb40
    clear hgo hbad hfull
    unfold wkV
    go_enter Tryd.func47, Tryd.ntmps47
    go_wp2_with fail
    go_returns
    exact ⟨rfl, HB0.out⟩
  have hbi : ((b : Int) == 40) = false := by rw [beq_eq_false_iff_ne]; omega
  by_cases hE : E = 0
  · subst hE
    replace hgo := hgo rfl hb40
    have HGO := Lib.hid hgo
    clear hgo hbad hfull
    have hb1 : IntKind.i64.wrap ((b : Int) + 1) = (b : Int) + 1 := by rw [IntKind.wrap_i64]; omega
    go_enter Tryd.func47, Tryd.ntmps47
    go_wp2_with fail
    generalize (w.alloc (.cells #[.int .i64 kind, .int .u32 (p.toNat : Int), .int .u32 (m.toNat : Int), .bool neg, .int .i64 mi, .int .i64 ma, .slice ao L cap] 27)) = v0 at *
    go_at_call 70
    refine Gives.then (HNOD.out _) ?_
    intro w1 hb'
    have HB1 := Lib.hid (HB0.out.trans (hb'.mono HB0.out.size))
    have R1 := Lib.hid ((hb'.block _ (Array.getElem?_eq_some_iff.1 R0.out).1).trans R0.out)
    clear hb' R0 HB0 HNOD
    have g0 := cell_block R1.out (o := 0) rfl; have g1 := cell_block R1.out (o := 1) rfl; have g2 := cell_block R1.out (o := 2) rfl; have g3 := cell_block R1.out (o := 3) rfl; have g4 := cell_block R1.out (o := 4) rfl; have g5 := cell_block R1.out (o := 5) rfl; have g6 := cell_block R1.out (o := 6) rfl
    go_wp2_with fail
    go_loopw [7, 6, 8] (fun c e i wr => ∃ j cc : Nat, j ≤ L ∧ i = .int .i64 (j : Int) ∧ c = .int .i64 (cc : Int) ∧ e = .int .i64 0 ∧ cc ≤ 40 + 1 ∧ wkL (k.preT j) (b + 1) = (cc, 0) ∧ (cc ≤ 40 ∨ L ≤ 0 ∨ True) ∧ wr.heap[w.heap.size]? = some (.cells #[.int .i64 kind, .int .u32 (p.toNat : Int), .int .u32 (m.toNat : Int), .bool neg, .int .i64 mi, .int .i64 ma, .slice ao L cap] 27) ∧ Below w.heap.size w wr) (fun _ _ i _ => L - (intOf i).toNat)
    case atStart => exact ⟨0, b + 1, by omega, rfl, by go_num, rfl, by omega, by rw [Fo.preT_zero]; rfl, by omega, R1.out, HB1.out⟩
    case round =>
    clear R1 HB1 g0 g1 g2 g3 g4 g5 g6
    obtain ⟨j, cc, hj, rfl, rfl, rfl, hcc, hst, -, hR, hw⟩ := hrel
    have g0 := cell_block hR (o := 0) rfl; have g1 := cell_block hR (o := 1) rfl; have g2 := cell_block hR (o := 2) rfl; have g3 := cell_block hR (o := 3) rfl; have g4 := cell_block hR (o := 4) rfl; have g5 := cell_block hR (o := 5) rfl; have g6 := cell_block hR (o := 6) rfl
    have HW := Lib.hid hw; have RR := Lib.hid hR; have HST := Lib.hid hst
    clear hw hR hst
    by_cases hlt : j < L
    · have hji : (j : Int) < (L : Int) := by omega
      obtain ⟨b', off, hao, lb, hpf⟩ := HC.out j hlt
      subst hao
      obtain ⟨d', k', he⟩ := Fo.drop_step k j (by rw [HL.out]; exact hlt)
      have hsz := Fo.drop_size k j
      have hstep := Fo.preT_step k j d' k' _ he
      have hsplit := Fo.pre_split k j
      rw [he] at hpf hsz hsplit
      simp only [Fo.size] at hsz
      obtain ⟨e0, e1, e2, e3, e4, e5, e6, e7, -⟩ := hpf
      have hc := fun o v (h : w.cell? ⟨b', o, none⟩ = some v) => (HW.out.cell (p := ⟨b', o, none⟩) lb).trans h
      have f0 := hc _ _ e0
      have f1 := hc _ _ e1
      have f2 := hc _ _ e2
      have f3 := hc _ _ e3
      have f4 := hc _ _ e4
      have f5 := hc _ _ e5
      have f6 := hc _ _ e6
      obtain ⟨ao', cap', hsl', -, -, -⟩ := Pt.open e7
      have hcc40 : cc ≤ 40 := by
        have h1 := wkL_le (k.preT j) (b + 1) (by omega)
        rw [HST.out] at h1
        exact h1
      have hrec := IH.out d' k' cc wr (by have := HKS.out; omega) hcc40 (Pt.below e7 HW.out)
      obtain ⟨⟨rc, re⟩, hres⟩ : ∃ R' : Nat × Int, wkL ((d', k'.len) :: k'.pre) cc = R' := ⟨_, rfl⟩
      rw [hres] at hrec
      unfold ndV wkV at hrec
      rw [hsl'] at hrec f6
      simp only at hrec
      have hrc : re = 0 → rc ≤ 40 + 1 := fun h => by
        have h1 := wkL_le ((d', k'.len) :: k'.pre) cc hcc40
        rw [hres] at h1
        simp only at h1
        omega
      have hnext : re = 0 → wkL (k.preT (j + 1)) (b + 1) = (rc, 0) := fun h => by
        rw [hstep, wkL_append, HST.out, if_pos rfl, hres, h]
      have hend : re ≠ 0 → R = (rc, re) := fun h => by
        rw [← HGO.out, hsplit, wkL_append, HST.out, if_pos rfl]
        show wkL (((d', k'.len) :: k'.pre) ++ (k.drop (j + 1)).pre) cc = _
        rw [wkL_append, hres, if_neg h]
      have HREC := Lib.hid hrec; have HNX := Lib.hid hnext; have HEND := Lib.hid hend
      clear hrec hnext hend hres hstep hsplit hsl' e0 e1 e2 e3 e4 e5 e6 e7 he hsz hc HC
      go_wp2_with fail
      go_at_call 47
      refine Gives.then HREC.out ?_
      intro w3 hb3
      have HW3 := Lib.hid (HW.out.trans (hb3.mono HW.out.size))
      have RR3 := Lib.hid ((hb3.block _ (Array.getElem?_eq_some_iff.1 RR.out).1).trans RR.out)
      clear hb3 HW RR f0 f1 f2 f3 f4 f5 f6 g0 g1 g2 g3 g4 g5 g6 HREC
      by_cases hre : re = 0
      · subst hre
        have HRC := Lib.hid (hrc rfl)
        have HN := Lib.hid (HNX.out rfl)
        clear hrc HNX HEND
        go_wp2_with fail
        go_roundw
        case rel => exact ⟨j + 1, rc, by omega, by go_num, rfl, rfl, HRC.out, HN.out, .inr (.inr trivial), RR3.out, HW3.out⟩
        case measure => simp [intOf] <;> omega
      · have hre1 : (re != 0) = true := by simpa using hre
        obtain rfl := HEND.out hre
        clear hrc HNX HEND hre
        go_wp2_with fail
        go_returns
        exact ⟨rfl, HW3.out⟩
    · obtain rfl : j = L := by omega
      have hji : ¬ (j : Int) < (j : Int) := by omega
      have hfin : R = (cc, 0) := by
        have := HST.out
        rw [← HL.out, Fo.preT_all, HGO.out] at this
        exact this
      subst hfin
      clear HC hlt HGO
      go_wp2_with fail
      go_returns
      exact ⟨rfl, HW.out⟩
  · obtain rfl := hbad hE hb40
    have hEi : (E != 0) = true := by simpa using hE
    unfold wkV
    simp only
    clear hgo hbad hfull hE HC
    go_enter Tryd.func47, Tryd.ntmps47
    go_wp2_with (go_at_call 70; refine Gives.then (HNOD.out _) ?_; intro w1 hb'; have HB1 := Lib.hid (HB0.out.trans (hb'.mono HB0.out.size)); clear hb')
    go_returns
    exact ⟨rfl, HB1.out⟩
set_option maxHeartbeats 1000000 in
theorem rpcheck_any (d : Nd) (k : Fo) (w : World) (hp : Pt w d k) : Gives 15 #[ndV d] w (.int .i64 (pkE d k)) := by
  unfold Gives
  have hwk := fun (W : World) (hb : Below w.heap.size w W) => rwalk_all (k.size + 1) d k 0 W (by omega) (by omega) (hp.below hb)
  obtain ⟨ao, cap, hsl, c1, m1, hcell⟩ := hp.open
  unfold pkE
  obtain ⟨⟨rc, re⟩, hres⟩ : ∃ R' : Nat × Int, wkL ((d, k.len) :: k.pre) 0 = R' := ⟨_, rfl⟩
  rw [hres] at hwk ⊢
  unfold wkV at hwk
  simp only at hwk ⊢
  obtain ⟨kind, ⟨p, m⟩, neg, mi, ma, sl⟩ := d
  simp only at hsl
  subst hsl
  obtain ⟨L, hL⟩ : ∃ L, k.len = L := ⟨_, rfl⟩
  rw [hL] at hwk ⊢
  unfold ndV at hwk ⊢
  simp only at hwk ⊢
  have HWK := Lib.hid hwk
  have HB0 := Lib.hid (show Below w.heap.size w (w.alloc (.cells #[.int .i64 kind, .int .u32 (p.toNat : Int), .int .u32 (m.toNat : Int), .bool neg, .int .i64 mi, .int .i64 ma, .slice ao L cap] 27)) by go_grown)
  clear hwk hres hcell hL c1 m1 hp
  go_enter Tryd.func15, Tryd.ntmps15
  go_wp2_with fail
  go_at_call 47
  refine Gives.then (HWK.out _ HB0.out) ?_
  intro w1 hb
  have HB1 := Lib.hid (HB0.out.trans (hb.mono HB0.out.size))
  clear hb
  go_wp2_with fail
  go_returns
  exact ⟨rfl, HB1.out⟩
set_option maxRecDepth 100000 in
set_option maxHeartbeats 4000000 in
theorem rcount_all : ∀ (s : Nat) (d : Nd) (k : Fo) (b : Nat) (w : World), k.size < s → b ≤ 40 → Pt w d k → Gives 48 #[ndV d, .int .i64 (b : Int)] w (.int .i64 ((min (b + 1 + k.size) 41 : Nat) : Int)) := by
  intro s
  induction s with
  | zero => intro d k b w h; omega
  | succ s ih =>
  intro d k b w hks hb hp
  unfold Gives
  obtain ⟨ao, cap, hsl, c1, m1, hcell⟩ := hp.open
  have hml := maxLen_lt (Nat.le_trans c1 m1)
  have hall := Fo.preT_len k k.len
  rw [Fo.drop_len] at hall
  simp only [Fo.size, Nat.add_zero] at hall
  obtain ⟨R, hR⟩ : ∃ R, min (b + 1 + k.size) 41 = R := ⟨_, rfl⟩
  rw [hR]
  obtain ⟨kind, ⟨p, m⟩, neg, mi, ma, sl⟩ := d
  simp only at hsl
  subst hsl
  obtain ⟨L, hL⟩ : ∃ L, k.len = L := ⟨_, rfl⟩
  rw [hL] at hml hcell hall ⊢
  unfold ndV
  simp only
  have HC := Lib.hid hcell; have HL := Lib.hid hL; have IH := Lib.hid ih; have HKS := Lib.hid hks; have HRR := Lib.hid hR; have HALL := Lib.hid hall
  clear hcell hL ih hks hp c1 m1 hR hall
  have R0 := Lib.hid (World.alloc_heap_new w (.cells #[.int .i64 kind, .int .u32 (p.toNat : Int), .int .u32 (m.toNat : Int), .bool neg, .int .i64 mi, .int .i64 ma, .slice ao L cap] 27))
  have HB0 := Lib.hid (show Below w.heap.size w (w.alloc (.cells #[.int .i64 kind, .int .u32 (p.toNat : Int), .int .u32 (m.toNat : Int), .bool neg, .int .i64 mi, .int .i64 ma, .slice ao L cap] 27)) by go_grown)
  have hb1 : IntKind.i64.wrap ((b : Int) + 1) = (b : Int) + 1 := by rw [IntKind.wrap_i64]; omega
  go_enter Tryd.func48, Tryd.ntmps48
  go_wp2_with fail
  go_loopw [5, 6] (fun c i wr => ∃ j cc : Nat, j ≤ L ∧ i = .int .i64 (j : Int) ∧ c = .int .i64 (cc : Int) ∧ cc = min (b + 1 + (k.preT j).length) 41 ∧ wr.heap[w.heap.size]? = some (.cells #[.int .i64 kind, .int .u32 (p.toNat : Int), .int .u32 (m.toNat : Int), .bool neg, .int .i64 mi, .int .i64 ma, .slice ao L cap] 27) ∧ Below w.heap.size w wr) (fun _ i _ => L - (intOf i).toNat)
  case atStart => exact ⟨0, b + 1, by omega, rfl, by go_num, by rw [Fo.preT_zero]; simp; omega, R0.out, HB0.out⟩
  case round =>
  clear R0 HB0
  obtain ⟨j, cc, hj, rfl, rfl, hst, hR, hw⟩ := hrel
  have g0 := cell_block hR (o := 0) rfl; have g1 := cell_block hR (o := 1) rfl; have g2 := cell_block hR (o := 2) rfl; have g3 := cell_block hR (o := 3) rfl; have g4 := cell_block hR (o := 4) rfl; have g5 := cell_block hR (o := 5) rfl; have g6 := cell_block hR (o := 6) rfl
  have HW := Lib.hid hw; have RR := Lib.hid hR
  have hcc41 : cc ≤ 41 := by omega
  have HST := Lib.hid hst
  clear hw hR hst
  by_cases hlt : j < L
  · have hji : (j : Int) < (L : Int) := by omega
    obtain ⟨b', off, hao, lb, hpf⟩ := HC.out j hlt
    subst hao
    obtain ⟨d', k', he⟩ := Fo.drop_step k j (by rw [HL.out]; exact hlt)
    have hsz := Fo.drop_size k j
    have hstep := Fo.preT_step k j d' k' _ he
    have hpl := Fo.preT_len k j
    rw [he] at hpf hsz hpl
    simp only [Fo.size] at hsz hpl
    have hsl1 : (k.preT (j + 1)).length = (k.preT j).length + (k'.size + 1) := by rw [hstep, List.length_append, List.length_cons, Fo.pre_length]
    by_cases hcc : cc ≤ 40
    · have hci : (cc : Int) ≤ 40 := by omega
      obtain ⟨e0, e1, e2, e3, e4, e5, e6, e7, -⟩ := hpf
      have hc := fun o v (h : w.cell? ⟨b', o, none⟩ = some v) => (HW.out.cell (p := ⟨b', o, none⟩) lb).trans h
      have f0 := hc _ _ e0
      have f1 := hc _ _ e1
      have f2 := hc _ _ e2
      have f3 := hc _ _ e3
      have f4 := hc _ _ e4
      have f5 := hc _ _ e5
      have f6 := hc _ _ e6
      obtain ⟨ao', cap', hsl', -, -, -⟩ := Pt.open e7
      have hrec := IH.out d' k' cc wr (by have := HKS.out; omega) hcc (Pt.below e7 HW.out)
      obtain ⟨rc, hres⟩ : ∃ R' : Nat, min (cc + 1 + k'.size) 41 = R' := ⟨_, rfl⟩
      rw [hres] at hrec
      unfold ndV at hrec
      rw [hsl'] at hrec f6
      have hnx : rc = min (b + 1 + (k.preT (j + 1)).length) 41 := by have := HST.out; rw [hsl1]; omega
      have HREC := Lib.hid hrec; have HNX := Lib.hid hnx
      clear hrec hnx hres hstep hsl1 hpl hsl' e0 e1 e2 e3 e4 e5 e6 e7 he hsz hc HC
      go_wp2_with fail
      go_at_call 48
      refine Gives.then HREC.out ?_
      intro w3 hb3
      have HW3 := Lib.hid (HW.out.trans (hb3.mono HW.out.size))
      have RR3 := Lib.hid ((hb3.block _ (Array.getElem?_eq_some_iff.1 RR.out).1).trans RR.out)
      clear hb3 HW RR f0 f1 f2 f3 f4 f5 f6 g0 g1 g2 g3 g4 g5 g6 HREC
      go_wp2_with fail
      go_roundw
      case rel => exact ⟨j + 1, rc, by omega, by go_num, rfl, HNX.out, RR3.out, HW3.out⟩
      case measure => simp [intOf] <;> omega
    · have hci : ¬ (cc : Int) ≤ 40 := by omega
      have hfin : R = cc := by rw [← HRR.out]; have := HST.out; omega
      subst hfin
      clear HC hlt hstep hsl1 hpl he hsz hpf
      go_wp2_with fail
      go_returns
      exact ⟨rfl, HW.out⟩
  · obtain rfl : j = L := by omega
    have hji : ¬ (j : Int) < (j : Int) := by omega
    have hfin : R = cc := by rw [← HRR.out, HST.out, HALL.out]
    subst hfin
    clear HC hlt
    go_wp2_with fail
    go_returns
    exact ⟨rfl, HW.out⟩
set_option maxHeartbeats 1000000 in
theorem rsize_any (d : Nd) (k : Fo) (w : World) (hp : Pt w d k) : Gives 17 #[ndV d] w (.int .i64 (szP k : Int)) := by
  unfold Gives
  have hwk := fun (W : World) (hb : Below w.heap.size w W) => rcount_all (k.size + 1) d k 0 W (by omega) (by omega) (hp.below hb)
  obtain ⟨ao, cap, hsl, c1, m1, hcell⟩ := hp.open
  have hS : min (0 + 1 + k.size) 41 = szP k := by unfold szP; omega
  rw [hS] at hwk
  obtain ⟨S, hS2⟩ : ∃ S, szP k = S := ⟨_, rfl⟩
  rw [hS2] at hwk ⊢
  obtain ⟨kind, ⟨p, m⟩, neg, mi, ma, sl⟩ := d
  simp only at hsl
  subst hsl
  obtain ⟨L, hL⟩ : ∃ L, k.len = L := ⟨_, rfl⟩
  rw [hL] at hwk ⊢
  unfold ndV at hwk ⊢
  simp only at hwk ⊢
  have HWK := Lib.hid hwk
  have HB0 := Lib.hid (show Below w.heap.size w (w.alloc (.cells #[.int .i64 kind, .int .u32 (p.toNat : Int), .int .u32 (m.toNat : Int), .bool neg, .int .i64 mi, .int .i64 ma, .slice ao L cap] 27)) by go_grown)
  clear hwk hS hS2 hcell hL c1 m1 hp
  go_enter Tryd.func17, Tryd.ntmps17
  go_wp2_with fail
  go_at_call 48
  refine Gives.then (HWK.out _ HB0.out) ?_
  intro w1 hb
  have HB1 := Lib.hid (HB0.out.trans (hb.mono HB0.out.size))
  clear hb
  go_wp2_with fail
  go_returns
  exact ⟨rfl, HB1.out⟩
end Go.Proofs.YtmobilppakjihaaDoor
