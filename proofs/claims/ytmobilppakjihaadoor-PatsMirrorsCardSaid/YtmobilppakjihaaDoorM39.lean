/-
  Lemmas that the theorem of this claim rests on: 2 texts, one behind the other.
-/
import Derived.Test.YtmobilppakjihaaDoorM34
import Derived.Test.YtmobilppakjihaaDoorM35
set_option linter.unusedSimpArgs false
set_option linter.unusedVariables false
/-
  Rows of patterns that a call has made, however deep: what it may write there.
-/
namespace Go.Proofs.YtmobilppakjihaaDoor
open Go.RowKit Go.Sort
theorem block_cell {w : World} {b o : Nat} {cs : Array Value} {T : TypeId} {fz : Nat × Nat} {v : Value} (h : w.heap[b]? = some (.cells cs T fz)) (hc : w.cell? ⟨b, o, none⟩ = some v) : cs[o]? = some v := by
  unfold World.cell? at hc; simp only [h] at hc; simpa using hc
def NilS (v : Value) : Prop := v = .slice none 0 0 ∨ ∃ aa, v = .slice (some aa) 0 0
/-- Rows of patterns within [lo, hi), n deep. -/
def RW (w : World) (lo hi : Nat) : Nat → Value → Prop
  | 0, v => NilS v
  | n + 1, v => NilS v ∨ ∃ b o L cap cs, v = .slice (some ⟨b, o * 7, none⟩) L cap ∧ L ≤ 100 ∧ L ≤ cap ∧ cap ≤ maxLen ∧ lo ≤ b ∧ b < hi ∧ w.heap[b]? = some (.cells cs 27 (0, 0)) ∧ ∀ i, i < L → ∃ d : Nd, (∀ c, c < 7 → cs[(o + i) * 7 + c]? = (c7 d)[c]?) ∧ RW w lo hi n d.sl
theorem RW.nil {w : World} {lo hi : Nat} {v : Value} (h : NilS v) : ∀ n, RW w lo hi n v
  | 0 => h
  | _ + 1 => .inl h
theorem RW.mono {w : World} {lo hi : Nat} : ∀ (n : Nat) (v : Value), RW w lo hi n v → RW w lo hi (n + 1) v
  | 0, _, h => .inl h
  | n + 1, v, h => by
    rcases h with h | ⟨b, o, L, cap, cs, h0, h1, h2, h3, h4, h5, h6, h7⟩
    · exact .inl h
    · refine .inr ⟨b, o, L, cap, cs, h0, h1, h2, h3, h4, h5, h6, fun i hi => ?_⟩
      obtain ⟨d, h8, h9⟩ := h7 i hi
      exact ⟨d, h8, RW.mono n d.sl h9⟩
/-- Rows there are rows still; their patterns are the same, or have no patterns below them. -/
def Kp (lo hi : Nat) (w w' : World) : Prop := ∀ b cs, lo ≤ b → b < hi → w.heap[b]? = some (.cells cs 27 (0, 0)) → ∃ cs', w'.heap[b]? = some (.cells cs' 27 (0, 0)) ∧ ∀ (i : Nat) (d : Nd), (∀ c, c < 7 → cs[i * 7 + c]? = (c7 d)[c]?) → ∃ d' : Nd, (∀ c, c < 7 → cs'[i * 7 + c]? = (c7 d')[c]?) ∧ (d' = d ∨ NilS d'.sl)
theorem Kp.of_same {lo hi : Nat} {w w' : World} (h : ∀ b, lo ≤ b → b < hi → w'.heap[b]? = w.heap[b]?) : Kp lo hi w w' := fun b cs h1 h2 hb => ⟨cs, (h b h1 h2).trans hb, fun _ d hd => ⟨d, hd, .inl rfl⟩⟩
theorem Kp.trans {lo hi : Nat} {w w1 w2 : World} (h : Kp lo hi w w1) (h' : Kp lo hi w1 w2) : Kp lo hi w w2 := fun b cs h1 h2 hb => by
  obtain ⟨cs1, hb1, k1⟩ := h b cs h1 h2 hb
  obtain ⟨cs2, hb2, k2⟩ := h' b cs1 h1 h2 hb1
  refine ⟨cs2, hb2, fun i d hd => ?_⟩
  obtain ⟨d1, hd1, e1⟩ := k1 i d hd
  obtain ⟨d2, hd2, e2⟩ := k2 i d1 hd1
  refine ⟨d2, hd2, ?_⟩
  rcases e2 with rfl | e2
  · exact e1
  · exact .inr e2
theorem RW.kept {lo hi : Nat} {w w' : World} (hk : Kp lo hi w w') : ∀ (n : Nat) (v : Value), RW w lo hi n v → RW w' lo hi n v
  | 0, _, h => h
  | n + 1, v, h => by
    rcases h with h | ⟨b, o, L, cap, cs, h0, h1, h2, h3, h4, h5, h6, h7⟩
    · exact .inl h
    · obtain ⟨cs', hb', k'⟩ := hk b cs h4 h5 h6
      refine .inr ⟨b, o, L, cap, cs', h0, h1, h2, h3, h4, h5, hb', fun i hi => ?_⟩
      obtain ⟨d, h8, h9⟩ := h7 i hi
      obtain ⟨d', h10, h11⟩ := k' (o + i) d h8
      refine ⟨d', h10, ?_⟩
      rcases h11 with rfl | h11
      · exact RW.kept hk n _ h9
      · exact RW.nil h11 n
theorem kp_set7 {lo hi : Nat} {W : World} {b q : Nat} {cs : Array Value} (h : W.heap[b]? = some (.cells cs 27 (0, 0))) (hs : q * 7 + 7 ≤ cs.size) (d0 : Nd) (hn : NilS d0.sl) (a0 a1 a2 a3 a4 a5 a6 : Nat) (e0 : a0 = q * 7) (e1 : a1 = q * 7 + 1) (e2 : a2 = q * 7 + 2) (e3 : a3 = q * 7 + 3) (e4 : a4 = q * 7 + 4) (e5 : a5 = q * 7 + 5) (e6 : a6 = q * 7 + 6) (W' : World)
    (hW : W' = ((((((W.setCell ⟨b, a0, none⟩ (.int .i64 d0.kind)).setCell ⟨b, a1, none⟩ (.int .u32 (d0.is.1.toNat : Int))).setCell ⟨b, a2, none⟩ (.int .u32 (d0.is.2.toNat : Int))).setCell ⟨b, a3, none⟩ (.bool d0.neg)).setCell ⟨b, a4, none⟩ (.int .i64 d0.mi)).setCell ⟨b, a5, none⟩ (.int .i64 d0.ma)).setCell ⟨b, a6, none⟩ d0.sl) :
    Kp lo hi W W' ∧ (∀ b', b' ≠ b → W'.heap[b']? = W.heap[b']?) ∧ W'.heap.size = W.heap.size := by
  subst hW
  have hoth : ∀ b', b' ≠ b → (((((((W.setCell ⟨b, a0, none⟩ (.int .i64 d0.kind)).setCell ⟨b, a1, none⟩ (.int .u32 (d0.is.1.toNat : Int))).setCell ⟨b, a2, none⟩ (.int .u32 (d0.is.2.toNat : Int))).setCell ⟨b, a3, none⟩ (.bool d0.neg)).setCell ⟨b, a4, none⟩ (.int .i64 d0.mi)).setCell ⟨b, a5, none⟩ (.int .i64 d0.ma)).setCell ⟨b, a6, none⟩ d0.sl).heap[b']? = W.heap[b']? := fun b' hb' => by
    repeat rw [heap_setCell_other _ _ _ _ (by exact hb')]
  refine ⟨fun b' cs' l1 l2 hb' => ?_, hoth, by repeat rw [World.size_setCell]⟩
  by_cases hbb : b' = b
  · subst hbb
    rw [h] at hb'
    cases hb'
    refine ⟨_, heap_setCell_same _ _ _ _ _ _ (heap_setCell_same _ _ _ _ _ _ (heap_setCell_same _ _ _ _ _ _ (heap_setCell_same _ _ _ _ _ _ (heap_setCell_same _ _ _ _ _ _ (heap_setCell_same _ _ _ _ _ _ (heap_setCell_same _ _ _ _ _ _ h)))))), fun i d hd => ?_⟩
    subst e0 e1 e2 e3 e4 e5 e6
    by_cases hi : i = q
    · subst hi
      refine ⟨d0, fun c hc => ?_, .inr hn⟩
      rcases c with _ | _ | _ | _ | _ | _ | _ | c
      all_goals first | (exfalso; omega) | skip
      all_goals
        simp only [Array.getElem?_setIfInBounds, Array.size_setIfInBounds]
        simp [c7]
        omega
    · refine ⟨d, fun c hc => ?_, .inl rfl⟩
      rw [← hd c hc]
      repeat rw [Array.getElem?_setIfInBounds_ne (by omega)]
  · exact ⟨cs', (hoth b' hbb).trans hb', fun _ d hd => ⟨d, hd, .inl rfl⟩⟩
theorem pfr_rw {w : World} {lo hi : Nat} : ∀ (s : Nat) (f : Fo) (b o : Nat) (cs : Array Value), s ≤ 100 → f.size ≤ s → PfR w lo hi f b (o * 7) → w.heap[b]? = some (.cells cs 27 (0, 0)) → ∀ i, i < f.len → ∃ d : Nd, (∀ c, c < 7 → cs[(o + i) * 7 + c]? = (c7 d)[c]?) ∧ RW w lo hi s d.sl := by
  intro s
  induction s with
  | zero =>
    intro f b o cs _ hs hp hb i hi
    have := Fo.len_size f
    omega
  | succ s ih =>
    intro f b o cs h100 hs hp hb i hi
    cases f with
    | nil => simp [Fo.len] at hi
    | cons d k r =>
      simp only [Fo.size] at hs
      obtain ⟨c0, c1, c2, c3, c4, c5, c6, c7', c8⟩ := hp
      rcases i with _ | i
      · refine ⟨d, fun c hc => ?_, ?_⟩
        · rcases c with _ | _ | _ | _ | _ | _ | _ | c
          · simpa [c7] using block_cell hb c0
          · simpa [c7] using block_cell hb c1
          · simpa [c7] using block_cell hb c2
          · simpa [c7] using block_cell hb c3
          · simpa [c7] using block_cell hb c4
          · simpa [c7] using block_cell hb c5
          · simpa [c7] using block_cell hb c6
          · omega
        · rcases c7' with ⟨h0, -⟩ | ⟨b', off, cap, a1, a2, a3, a4, a5, ⟨a6, cs', a7⟩, a8⟩
          · exact .inl h0
          · obtain ⟨o', rfl⟩ : ∃ o', off = o' * 7 := ⟨off / 7, by omega⟩
            exact .inr ⟨b', o', k.len, cap, cs', a1, by have := Fo.len_size k; omega, a2, a3, a4, a5, a7, fun i hi => ih k b' o' cs' (by omega) (by omega) a8 a7 i hi⟩
      · obtain ⟨d', h1, h2⟩ := ih r b (o + 1) cs (by omega) (by omega) (by rwa [show (o + 1) * 7 = o * 7 + 7 from by omega]) hb i (by simpa [Fo.len] using hi)
        exact ⟨d', fun c hc => by rw [← h1 c hc, show o + (i + 1) = o + 1 + i from by omega], RW.mono _ _ h2⟩
theorem ptr_rw {w : World} {lo hi : Nat} {d : Nd} {k : Fo} (h : PtR w lo hi d k) (hk : k.size ≤ 100) : RW w lo hi (k.size + 1) d.sl := by
  rcases h with ⟨h0, -⟩ | ⟨b', off, cap, a1, a2, a3, a4, a5, ⟨a6, cs', a7⟩, a8⟩
  · exact .inl h0
  · obtain ⟨o', rfl⟩ : ∃ o', off = o' * 7 := ⟨off / 7, by omega⟩
    exact .inr ⟨b', o', k.len, cap, cs', a1, by have := Fo.len_size k; omega, a2, a3, a4, a5, a7, fun i hi => pfr_rw k.size k b' o' cs' hk (Nat.le_refl _) a8 a7 i hi⟩
/-- The form of such a row. -/
theorem rw_form {w : World} {lo hi : Nat} {n : Nat} {v : Value} (h : RW w lo hi n v) : ∃ ao L cap, v = .slice ao L cap ∧ L ≤ 100 ∧ ∀ j, j < L → ∃ m b o cs, n = m + 1 ∧ ao = some ⟨b, o * 7, none⟩ ∧ lo ≤ b ∧ b < hi ∧ w.heap[b]? = some (.cells cs 27 (0, 0)) ∧ ∃ d : Nd, (∀ c, c < 7 → cs[(o + j) * 7 + c]? = (c7 d)[c]?) ∧ RW w lo hi m d.sl := by
  have hnil : NilS v → ∃ ao L cap, v = .slice ao L cap ∧ L ≤ 100 ∧ ∀ j, j < L → ∃ m b o cs, n = m + 1 ∧ ao = some ⟨b, o * 7, none⟩ ∧ lo ≤ b ∧ b < hi ∧ w.heap[b]? = some (.cells cs 27 (0, 0)) ∧ ∃ d : Nd, (∀ c, c < 7 → cs[(o + j) * 7 + c]? = (c7 d)[c]?) ∧ RW w lo hi m d.sl := fun h => by
    rcases h with rfl | ⟨aa, rfl⟩
    · exact ⟨none, 0, 0, rfl, by omega, fun j hj => by omega⟩
    · exact ⟨some aa, 0, 0, rfl, by omega, fun j hj => by omega⟩
  cases n with
  | zero => exact hnil h
  | succ n =>
    rcases h with h | ⟨b, o, L, cap, cs, h0, h1, h2, h3, h4, h5, h6, h7⟩
    · exact hnil h
    · refine ⟨_, L, cap, h0, h1, fun j hj => ?_⟩
      obtain ⟨d, h8, h9⟩ := h7 j hj
      exact ⟨n, b, o, cs, rfl, rfl, h4, h5, h6, d, h8, h9⟩
end Go.Proofs.YtmobilppakjihaaDoor

/-
  The law's spoil: it writes only into the rows of its pattern.
-/
namespace Go.Proofs.YtmobilppakjihaaDoor
open Go.RowKit Go.Sort
def SpoAt (n : Nat) : Prop := ∀ (w : World) (d : Nd) (lo hi : Nat), hi ≤ w.heap.size → RW w lo hi n d.sl → Calls Tryd.prog 37 #[ndV d] w fun e w' => e = .returned (.tuple #[]) ∧ Kp lo hi w w' ∧ (∀ b, b < w.heap.size → (b < lo ∨ hi ≤ b) → w'.heap[b]? = w.heap[b]?) ∧ Below 0 w w'
set_option maxRecDepth 100000 in
set_option maxHeartbeats 8000000 in
theorem spoil_step (n : Nat) (ih : ∀ m, n = m + 1 → SpoAt m) : SpoAt n := by
  intro w d lo hi hhi hrw
  obtain ⟨ao, L, cap, hsl, hL, hcell⟩ := rw_form hrw
  obtain ⟨kind, ⟨p, m⟩, neg, mi, ma, sl⟩ := d
  simp only at hsl
  subst hsl
  have HC := Lib.hid hcell; have IH := Lib.hid ih; have HHI := Lib.hid hhi
  clear hcell ih hhi hrw
  show Calls _ _ #[.agg #[.int .i64 kind, .int .u32 (p.toNat : Int), .int .u32 (m.toNat : Int), .bool neg, .int .i64 mi, .int .i64 ma, .slice ao L cap]] _ _
  go_enter Tryd.func37, Tryd.ntmps37
  go_wp2_with fail
  refine wp_gen ?_
  intro W1 hW1
  have RX := Lib.hid (show W1.heap[w.heap.size]? = some (.cells #[.int .i64 kind, .int .u32 (p.toNat : Int), .int .u32 (m.toNat : Int), .bool neg, .int .i64 mi, .int .i64 ma, .slice ao L cap] 27) by rw [hW1]; exact World.alloc_heap_new w _)
  have HO1 := Lib.hid (show ∀ b, b < w.heap.size → W1.heap[b]? = w.heap[b]? from fun b hb => by rw [hW1]; exact Below.heap_alloc _ _ _ hb)
  have HS1 := Lib.hid (show w.heap.size + 1 ≤ W1.heap.size by rw [hW1, World.size_alloc]; omega)
  have HZ1 := Lib.hid (show Below 0 w W1 by rw [hW1]; exact (Below.refl 0 w).alloc (Nat.zero_le _) _)
  clear hW1
  go_loopw [2] (fun i wr => ∃ j : Nat, j ≤ L ∧ i = .int .i64 (j : Int) ∧ wr.heap[w.heap.size]? = some (.cells #[.int .i64 kind, .int .u32 (p.toNat : Int), .int .u32 (m.toNat : Int), .bool neg, .int .i64 mi, .int .i64 ma, .slice ao L cap] 27) ∧ Kp lo hi w wr ∧ (∀ b, b < w.heap.size → (b < lo ∨ hi ≤ b) → wr.heap[b]? = w.heap[b]?) ∧ w.heap.size + 1 ≤ wr.heap.size ∧ Below 0 w wr) (fun i _ => L - (intOf i).toNat)
  case atStart => exact ⟨0, by omega, rfl, RX.out, Kp.of_same (fun b _ l2 => HO1.out b (by have := HHI.out; omega)), fun b hb _ => HO1.out b hb, HS1.out, HZ1.out⟩
  case round =>
  clear RX HO1 HS1 HZ1
  obtain ⟨j, hj, rfl, hX, hK, hO, hS, hZ⟩ := hrel
  have HZ := Lib.hid hZ
  have HX := Lib.hid hX; have HK := Lib.hid hK; have HO := Lib.hid hO; have HS := Lib.hid hS
  clear hX hK hO hS hZ
  have hx6 := cell_block HX.out (o := 6) rfl
  by_cases hlt : j < L
  · have hji : (j : Int) < (L : Int) := by omega
    obtain ⟨n', b, o, cs, hn', hao, lb1, lb2, hb, d', hc7, hr⟩ := HC.out j hlt
    subst hao
    obtain ⟨off, hoff⟩ : ∃ off, o * 7 = off := ⟨_, rfl⟩
    rw [hoff] at hx6 HX HC
    obtain ⟨cs2, hb2, hk2⟩ := HK.out b cs lb1 lb2 hb
    obtain ⟨d2, hd2, hor⟩ := hk2 (o + j) d' hc7
    have hr2 : RW wr lo hi n' d2.sl := by
      rcases hor with rfl | h
      · exact RW.kept HK.out _ _ hr
      · exact RW.nil h _
    obtain ⟨kd2, ⟨p2, m2⟩, neg2, mi2, ma2, sl2⟩ := d2
    obtain ⟨ao2, L2, cap2, hsl2, -, -⟩ := rw_form hr2
    simp only at hsl2
    subst hsl2
    have f0 : wr.cell? ⟨b, off + j * 7, none⟩ = some (.int .i64 kd2) := cell_block hb2 (by have := hd2 0 (by omega); rw [show off + j * 7 = (o + j) * 7 + 0 from by omega]; exact this)
    have f1 : wr.cell? ⟨b, off + j * 7 + 1, none⟩ = some (.int .u32 (p2.toNat : Int)) := cell_block hb2 (by have := hd2 1 (by omega); rw [show off + j * 7 + 1 = (o + j) * 7 + 1 from by omega]; exact this)
    have f2 : wr.cell? ⟨b, off + j * 7 + 2, none⟩ = some (.int .u32 (m2.toNat : Int)) := cell_block hb2 (by have := hd2 2 (by omega); rw [show off + j * 7 + 2 = (o + j) * 7 + 2 from by omega]; exact this)
    have f3 : wr.cell? ⟨b, off + j * 7 + 3, none⟩ = some (.bool neg2) := cell_block hb2 (by have := hd2 3 (by omega); rw [show off + j * 7 + 3 = (o + j) * 7 + 3 from by omega]; exact this)
    have f4 : wr.cell? ⟨b, off + j * 7 + 4, none⟩ = some (.int .i64 mi2) := cell_block hb2 (by have := hd2 4 (by omega); rw [show off + j * 7 + 4 = (o + j) * 7 + 4 from by omega]; exact this)
    have f5 : wr.cell? ⟨b, off + j * 7 + 5, none⟩ = some (.int .i64 ma2) := cell_block hb2 (by have := hd2 5 (by omega); rw [show off + j * 7 + 5 = (o + j) * 7 + 5 from by omega]; exact this)
    have f6 : wr.cell? ⟨b, off + j * 7 + 6, none⟩ = some (.slice ao2 L2 cap2) := cell_block hb2 (by have := hd2 6 (by omega); rw [show off + j * 7 + 6 = (o + j) * 7 + 6 from by omega]; exact this)
    have HREC := Lib.hid (show ∀ V, hi ≤ V.heap.size → RW V lo hi n' (.slice ao2 L2 cap2) → Calls Tryd.prog 37 #[.agg #[.int .i64 kd2, .int .u32 (p2.toNat : Int), .int .u32 (m2.toNat : Int), .bool neg2, .int .i64 mi2, .int .i64 ma2, .slice ao2 L2 cap2]] V fun e w' => e = .returned (.tuple #[]) ∧ Kp lo hi V w' ∧ (∀ b, b < V.heap.size → (b < lo ∨ hi ≤ b) → w'.heap[b]? = V.heap[b]?) ∧ Below 0 V w' from fun V h1 h2 => IH.out n' hn' V ⟨kd2, (p2, m2), neg2, mi2, ma2, .slice ao2 L2 cap2⟩ lo hi h1 h2)
    have HR2 := Lib.hid hr2; have HB2 := Lib.hid hb2; have HOFF := Lib.hid hoff; have HL1 := Lib.hid (And.intro lb1 lb2)
    have HD2 := Lib.hid hd2
    clear hr2 hb2 hoff hb hc7 hr hk2 hor hn' hd2 lb1 lb2
    go_wp2_with fail
    go_at_call 37
    refine (HREC.out wr (by have := HHI.out; have := HS.out; omega) HR2.out).mono ?_
    rintro e w3 ⟨rfl, hk3, ho3, hz3⟩
    have hs3 := hz3.size
    have HZ3 := Lib.hid (HZ.out.trans hz3)
    obtain ⟨cs3, hb3, hc3⟩ := hk3 b cs2 HL1.out.1 HL1.out.2 HB2.out
    obtain ⟨d3, hd3, -⟩ := hc3 (o + j) _ HD2.out
    have hx3 := (ho3 w.heap.size (by have := HS.out; omega) (.inr HHI.out)).trans HX.out
    have HX3 := Lib.hid hx3; have HB3 := Lib.hid hb3
    have HK3 := Lib.hid (Kp.trans HK.out hk3)
    have HO3 := Lib.hid (show ∀ b, b < w.heap.size → (b < lo ∨ hi ≤ b) → w3.heap[b]? = w.heap[b]? from fun b h1 h2 => (ho3 b (by have := HS.out; omega) h2).trans (HO.out b h1 h2))
    have HS3 := Lib.hid (show w.heap.size + 1 ≤ w3.heap.size by have := HS.out; omega)
    obtain ⟨kd3, ⟨p3, m3⟩, neg3, mi3, ma3, sl3⟩ := d3
    have k0 : w3.cell? ⟨b, off + j * 7, none⟩ = some (.int .i64 kd3) := cell_block HB3.out (by have := hd3 0 (by omega); rw [show off + j * 7 = (o + j) * 7 + 0 from by have := HOFF.out; omega]; exact this); have z0 : w3.frozen? ⟨b, off + j * 7, none⟩ = false := frozen_block HB3.out
    have k1 : w3.cell? ⟨b, off + j * 7 + 1, none⟩ = some (.int .u32 (p3.toNat : Int)) := cell_block HB3.out (by have := hd3 1 (by omega); rw [show off + j * 7 + 1 = (o + j) * 7 + 1 from by have := HOFF.out; omega]; exact this); have z1 : w3.frozen? ⟨b, off + j * 7 + 1, none⟩ = false := frozen_block HB3.out
    have k2 : w3.cell? ⟨b, off + j * 7 + 2, none⟩ = some (.int .u32 (m3.toNat : Int)) := cell_block HB3.out (by have := hd3 2 (by omega); rw [show off + j * 7 + 2 = (o + j) * 7 + 2 from by have := HOFF.out; omega]; exact this); have z2 : w3.frozen? ⟨b, off + j * 7 + 2, none⟩ = false := frozen_block HB3.out
    have k3 : w3.cell? ⟨b, off + j * 7 + 3, none⟩ = some (.bool neg3) := cell_block HB3.out (by have := hd3 3 (by omega); rw [show off + j * 7 + 3 = (o + j) * 7 + 3 from by have := HOFF.out; omega]; exact this); have z3 : w3.frozen? ⟨b, off + j * 7 + 3, none⟩ = false := frozen_block HB3.out
    have k4 : w3.cell? ⟨b, off + j * 7 + 4, none⟩ = some (.int .i64 mi3) := cell_block HB3.out (by have := hd3 4 (by omega); rw [show off + j * 7 + 4 = (o + j) * 7 + 4 from by have := HOFF.out; omega]; exact this); have z4 : w3.frozen? ⟨b, off + j * 7 + 4, none⟩ = false := frozen_block HB3.out
    have k5 : w3.cell? ⟨b, off + j * 7 + 5, none⟩ = some (.int .i64 ma3) := cell_block HB3.out (by have := hd3 5 (by omega); rw [show off + j * 7 + 5 = (o + j) * 7 + 5 from by have := HOFF.out; omega]; exact this); have z5 : w3.frozen? ⟨b, off + j * 7 + 5, none⟩ = false := frozen_block HB3.out
    have k6 : w3.cell? ⟨b, off + j * 7 + 6, none⟩ = some (sl3) := cell_block HB3.out (by have := hd3 6 (by omega); rw [show off + j * 7 + 6 = (o + j) * 7 + 6 from by have := HOFF.out; omega]; exact this); have z6 : w3.frozen? ⟨b, off + j * 7 + 6, none⟩ = false := frozen_block HB3.out
    have HSZ := Lib.hid (show (o + j) * 7 + 7 ≤ cs3.size by have := (Array.getElem?_eq_some_iff.1 (hd3 6 (by omega))).1; omega)
    clear hk3 ho3 hs3 hz3 HZ hb3 hc3 hd3 hx3 f0 f1 f2 f3 f4 f5 f6 hx6 HK HO HS HX HB2 HR2 HREC HD2
    have hx6 := cell_block HX3.out (o := 6) rfl
    go_wp2_with fail
    go_roundw
    case rel =>
      obtain ⟨q1, q2, q3⟩ := kp_set7 (lo := lo) (hi := hi) HB3.out HSZ.out ⟨9, (0#32, 0#32), false, 0, 0, .slice none 0 0⟩ (.inl rfl) _ _ _ _ _ _ _ (show off + j * 7 = _ by have := HOFF.out; omega) (show off + j * 7 + 1 = _ by have := HOFF.out; omega) (show off + j * 7 + 2 = _ by have := HOFF.out; omega) (show off + j * 7 + 3 = _ by have := HOFF.out; omega) (show off + j * 7 + 4 = _ by have := HOFF.out; omega) (show off + j * 7 + 5 = _ by have := HOFF.out; omega) (show off + j * 7 + 6 = _ by have := HOFF.out; omega) _ rfl
      have l2 := HL1.out.2; have l3 := HHI.out; have l4 := HS3.out
      exact ⟨j + 1, by omega, by go_num, (q2 _ (by omega)).trans (by first | exact HX3.out | (rw [HOFF.out]; exact HX3.out)), Kp.trans HK3.out q1, fun b' h1 h2 => (q2 b' (by have := HL1.out.1; omega)).trans (HO3.out b' h1 h2), Nat.le_trans l4 (Nat.le_of_eq q3.symm), by repeat (first | (with_reducible exact HZ3.out) | refine Below.setCell ?_ (Nat.zero_le _) _)⟩
    case measure => simp [intOf] <;> omega
  · obtain rfl : j = L := by omega
    have hji : ¬ (j : Int) < (j : Int) := by omega
    go_wp2_with fail
    go_returns
    exact ⟨rfl, HK.out, HO.out, HZ.out⟩
theorem spoil_all : ∀ n, SpoAt n
  | 0 => spoil_step 0 (fun m h => by omega)
  | n + 1 => spoil_step (n + 1) (fun m h => by obtain rfl : n = m := by omega
                                               exact spoil_all n)
end Go.Proofs.YtmobilppakjihaaDoor
