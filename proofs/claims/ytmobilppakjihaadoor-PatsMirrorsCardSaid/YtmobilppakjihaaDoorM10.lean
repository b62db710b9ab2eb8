/-
  Lemmas that the theorem of this claim rests on: 1 texts, one behind the other.
-/
import Derived.Test.YtmobilppakjihaaDoorM8
set_option linter.unusedSimpArgs false
set_option linter.unusedVariables false
/-
  What the nodes for the ends of a word, and for a sound, match.
-/
namespace Go.Proofs.YtmobilppakjihaaDoor
open Go.RowKit Go.Sort
theorem calls_gen {P : Program} {f : FuncId} {args : Array Value} {W : World} {Q : Ending → World → Prop} (h : ∀ W1, W1 = W → Calls P f args W1 Q) : Calls P f args W Q := h W rfl
theorem ite_step {T : Tb} {k : Nat} (y : BitVec 64) (h : T k = y) : (fun b => if b = k then y else (fun a => if a < k then T a else 0#64) b) = fun a => if a < k + 1 then T a else 0#64 := by
  funext a
  by_cases ha : a = k
  · subst ha; simp [h]
  · simp only [if_neg ha]
    by_cases hb : a < k
    · rw [if_pos hb, if_pos (by omega)]
    · rw [if_neg hb, if_neg (by omega)]
theorem ite_skip {T : Tb} {k : Nat} (h : T k = 0#64) : (fun a => if a < k then T a else 0#64) = fun a => if a < k + 1 then T a else 0#64 := by
  funext a
  by_cases ha : a = k
  · subst ha; simp [h]
  · by_cases hb : a < k
    · rw [if_pos hb, if_pos (by omega)]
    · rw [if_neg hb, if_neg (by omega)]
theorem ite_all {T : Tb} {n : Nat} (h : ∀ k, n ≤ k → T k = 0#64) (a : Nat) : (if a < n then T a else 0#64) = T a := by
  by_cases ha : a < n
  · rw [if_pos ha]
  · rw [if_neg ha, h a (by omega)]
def beginT : Tb := fun a => if a = 0 then 1#64 else 0#64
def endT (n : Nat) : Tb := fun a => if a = n then 1#64 <<< a else 0#64
def soundT (ss : List Snd) (c : Snd) (neg : Bool) : Tb := fun a => match ss[a]? with
  | none => 0#64
  | some s => if satB s c != neg then 1#64 <<< (a + 1) else 0#64
theorem tbR_begin : (tbR beginT) = #[.int .u64 1, .int .u64 0, .int .u64 0, .int .u64 0, .int .u64 0, .int .u64 0, .int .u64 0, .int .u64 0, .int .u64 0, .int .u64 0, .int .u64 0, .int .u64 0, .int .u64 0, .int .u64 0, .int .u64 0, .int .u64 0, .int .u64 0, .int .u64 0, .int .u64 0, .int .u64 0, .int .u64 0, .int .u64 0, .int .u64 0, .int .u64 0, .int .u64 0, .int .u64 0, .int .u64 0, .int .u64 0, .int .u64 0, .int .u64 0, .int .u64 0, .int .u64 0, .int .u64 0] := rfl
set_option maxRecDepth 100000 in
set_option maxHeartbeats 1000000 in
theorem pbegin_any (v : Value) (w : World) : Gives 107 #[.agg #[], v] w (.agg (tbR beginT)) := by
  unfold Gives
  have HZ := Lib.hid tbR_zero
  have HG := Lib.hid tbR_begin
  go_enter Tryd.func107, Tryd.ntmps107
  go_wp2_with (first | (go_at_call 106; refine (only_any 0 (by omega) _).mono ?_; rintro e w1 ⟨rfl, rfl⟩) | (rw [← HZ.out]; have H1 := TbAt.new (w.alloc (.cells #[] 108)) zeroT; rw [World.size_alloc] at H1; refine wpList_st rfl (.tmp 4) (.tmp 6) rfl (w.heap.size + 1) _ beginT rfl (by rw [HG.out]; rfl) H1 ?_))
  have H1 := TbAt.new (w.alloc (.cells #[] 108)) zeroT
  rw [World.size_alloc] at H1
  refine bodyPost_ret (v := .agg (tbR beginT)) ?_ rfl ⟨rfl, below_setRow (by go_grown) (by omega) _⟩
  exact parts_ret rfl _ _ (w.heap.size + 1) _ _ rfl (H1.setRow _) (fun a ha => rfl)
set_option maxRecDepth 100000 in
set_option maxHeartbeats 1000000 in
theorem pend_any (ss : List Snd) (v : Value) (w : World) (hl : ss.length ≤ 32) (h : Wd w v ss) : Gives 113 #[.agg #[], v] w (.agg (tbR (endT ss.length))) := by
  unfold Gives
  obtain ⟨ao, cap, rfl, -, -, -⟩ := h.open
  clear h
  obtain ⟨n, hn⟩ : ∃ n, ss.length = n := ⟨_, rfl⟩
  rw [hn] at hl ⊢
  clear hn
  have HZ := Lib.hid tbR_zero
  have hn33 : n < 33 := by omega
  go_enter Tryd.func113, Tryd.ntmps113
  go_wp2_with fail
  rw [← HZ.out]
  refine calls_gen ?_
  intro W1 hW1
  have hB1 : Below w.heap.size w W1 := by rw [hW1]; go_grown
  have t1 : TbAt W1 (w.heap.size + 1) zeroT := by rw [hW1]; have := (TbAt.new (w.alloc (.cells #[] 115)) zeroT).past (.cells (tbR zeroT) 74); rwa [World.size_alloc] at this
  have t2 : TbAt W1 (w.heap.size + 1 + 1) zeroT := by rw [hW1]; have := TbAt.new ((w.alloc (.cells #[] 115)).alloc (.cells (tbR zeroT) 74)) zeroT; rwa [World.size_alloc, World.size_alloc] at this
  have c0 := t2.cell hn33
  have f0 := t2.frozen n
  obtain ⟨y, hy⟩ : ∃ y, y = 1#64 <<< n := ⟨_, rfl⟩
  have u1 := (t1.other (a := ⟨w.heap.size + 1 + 1, n, none⟩) (by simp) (.int .u64 (y.toNat : Int)))
  have u2 := t2.set n y
  have hbs := hB1.setCell (p := ⟨w.heap.size + 1 + 1, n, none⟩) (by simp only []; omega) (.int .u64 (y.toNat : Int))
  have hO := only_any n (by omega) W1
  rw [← hy] at hO
  have HY := Lib.hid hy; have U1 := Lib.hid u1; have U2 := Lib.hid u2; have HBS := Lib.hid hbs; have HO := Lib.hid hO
  clear hW1 hB1 t1 t2 hy u1 u2 hbs hO
  go_at_call 106
  refine HO.out.mono ?_
  rintro e w1 ⟨rfl, rfl⟩
  go_wp2_with (first | (refine wpList_ld rfl (.tmp 5) rfl (w.heap.size + 1 + 1) _ rfl U2.out ?_) | (refine wpList_st rfl (.tmp 4) (.tmp 12) rfl (w.heap.size + 1) _ _ rfl rfl U1.out ?_))
  refine bodyPost_ret (v := .agg (tbR (endT n))) ?_ rfl ⟨rfl, below_setRow HBS.out (by omega) _⟩
  exact parts_ret rfl _ _ (w.heap.size + 1) _ _ rfl (U1.out.setRow _) (fun a ha => by unfold endT zeroT; rw [HY.out]; by_cases hb : a = n <;> simp [hb])
set_option maxRecDepth 100000 in
set_option maxHeartbeats 1000000 in
theorem psound_any (c : Snd) (neg : Bool) (ss : List Snd) (v : Value) (w : World) (hl : ss.length ≤ 32) (h : Wd w v ss) : Gives 104 #[.agg #[.int .u32 (c.1.toNat : Int), .int .u32 (c.2.toNat : Int), .bool neg], v] w (.agg (tbR (soundT ss c neg))) := by
  unfold Gives
  obtain ⟨ao, cap, rfl, -, -, hcell⟩ := h.open
  have hT : ∀ k (hk : k < ss.length), soundT ss c neg k = if satB ss[k] c != neg then 1#64 <<< (k + 1) else 0#64 := fun k hk => by
    unfold soundT; rw [List.getElem?_eq_getElem hk]
  have hTn : ∀ k, ss.length ≤ k → soundT ss c neg k = 0#64 := fun k hk => by
    unfold soundT; rw [List.getElem?_eq_none hk]
  have HT := Lib.hid hT; have HTN := Lib.hid hTn; have HC := Lib.hid hcell
  generalize soundT ss c neg = T at *
  obtain ⟨n, hn⟩ : ∃ n, ss.length = n := ⟨_, rfl⟩
  have HN := Lib.hid hn
  rw [hn] at hl ⊢
  clear hn h hcell hT hTn
  have HZ := Lib.hid tbR_zero
  obtain ⟨p1, p2⟩ := c
  simp only
  go_enter Tryd.func104, Tryd.ntmps104
  go_wp2_with fail
  rw [← HZ.out]
  refine wp_gen ?_
  intro W1 hW1
  have hB1 : Below w.heap.size w W1 := by rw [hW1]; go_grown
  have t1 : TbAt W1 (w.heap.size + 1) zeroT := by rw [hW1]; have := (TbAt.new (w.alloc (.cells #[.int .u32 (p1.toNat : Int), .int .u32 (p2.toNat : Int), .bool neg] 106)) zeroT).past (.cells (tbR zeroT) 74); rwa [World.size_alloc] at this
  have t2 : TbAt W1 (w.heap.size + 1 + 1) zeroT := by rw [hW1]; have := TbAt.new ((w.alloc (.cells #[.int .u32 (p1.toNat : Int), .int .u32 (p2.toNat : Int), .bool neg] 106)).alloc (.cells (tbR zeroT) 74)) zeroT; rwa [World.size_alloc, World.size_alloc] at this
  have b0 : W1.cell? ⟨w.heap.size, 0, none⟩ = some (.int .u32 (p1.toNat : Int)) := by rw [hW1]; go_cell
  have b1 : W1.cell? ⟨w.heap.size, 1, none⟩ = some (.int .u32 (p2.toNat : Int)) := by rw [hW1]; go_cell
  have b2 : W1.cell? ⟨w.heap.size, 2, none⟩ = some (.bool neg) := by rw [hW1]; go_cell
  have hz1 : W1.heap.size = w.heap.size + 3 := by rw [hW1]; simp
  have T1 := Lib.hid t1; have T2 := Lib.hid t2; have B0 := Lib.hid (And.intro b0 (And.intro b1 b2)); have HZ1 := Lib.hid hz1; have HB1 := Lib.hid hB1
  clear hW1 t1 t2 b0 b1 b2 hz1 hB1
  go_loopw [10] (fun i wr => ∃ k : Nat, k ≤ n ∧ i = .int .i64 (k : Int) ∧ TbAt wr (w.heap.size + 1 + 1) (fun a => if a < k then T a else 0#64) ∧ TbAt wr (w.heap.size + 1) zeroT ∧ (wr.cell? ⟨w.heap.size, 0, none⟩ = some (.int .u32 (p1.toNat : Int)) ∧ wr.cell? ⟨w.heap.size, 1, none⟩ = some (.int .u32 (p2.toNat : Int)) ∧ wr.cell? ⟨w.heap.size, 2, none⟩ = some (.bool neg)) ∧ Below w.heap.size w wr) (fun i _ => n - (intOf i).toNat)
  case atStart => exact ⟨0, by omega, rfl, T2.out.eq (by funext a; simp [zeroT]), T1.out, B0.out, HB1.out⟩
  case round =>
    obtain ⟨k, hk, rfl, h2, h1, ⟨d0, d1, d2⟩, hw⟩ := hrel
    by_cases hlt : k < n
    · have hkl : k < ss.length := by rw [HN.out]; exact hlt
      obtain ⟨b, off, rfl, lb, s0, s1⟩ := HC.out k hkl
      have s0 := (hw.cell (p := ⟨b, off + k * 2, none⟩) lb).trans s0
      have s1 := (hw.cell (p := ⟨b, off + k * 2 + 1, none⟩) lb).trans s1
      have ht := HT.out k hkl
      clear HC
      generalize ss[k] = x at *
      obtain ⟨x1, x2⟩ := x
      have hsat := fun W => psat_any (x1, x2) (p1, p2) W
      unfold sdV at hsat
      simp only at hsat s0 s1
      obtain ⟨sb, hsb⟩ : ∃ sb, satB (x1, x2) (p1, p2) = sb := ⟨_, rfl⟩
      simp only [hsb] at hsat ht
      have H1 := Lib.hid h1; have H2 := Lib.hid h2; have HW := Lib.hid hw; have HSAT := Lib.hid hsat; have HTK := Lib.hid ht
      have hk33 : k < 33 := by omega
      have hsz : w.heap.size + 1 + 1 < wr.heap.size := h2.lt
      clear h1 h2 hw T1 T2 hsat ht hsb B0 HB1 HZ1
      go_wp2_with fail
      refine wp_gen ?_
      intro Wa hWa
      have hba : Below wr.heap.size wr Wa := by rw [hWa]; go_grown
      have hza : wr.heap.size + 1 ≤ Wa.heap.size := by rw [hWa, World.size_alloc]; exact Nat.le_refl _
      have a3 : Wa.cell? ⟨wr.heap.size, 0, none⟩ = some (.int .u32 (x1.toNat : Int)) := by rw [hWa]; go_cell
      have a4 : Wa.cell? ⟨wr.heap.size, 1, none⟩ = some (.int .u32 (x2.toNat : Int)) := by rw [hWa]; go_cell
      have hlw : w.heap.size < wr.heap.size := by omega
      have d0 := (hba.cell (p := ⟨w.heap.size, 0, none⟩) hlw).trans d0
      have d1 := (hba.cell (p := ⟨w.heap.size, 1, none⟩) hlw).trans d1
      have d2 := (hba.cell (p := ⟨w.heap.size, 2, none⟩) hlw).trans d2
      have h1a := H1.out.below hba
      have h2a := H2.out.below hba
      have hwa := HW.out.trans (hba.mono HW.out.size)
      have H1 := Lib.hid h1a; have H2 := Lib.hid h2a
      clear hWa h1a h2a hba s0 s1
      refine wp_gen ?_
      intro W1 hW1
      have hw1 : Below w.heap.size w W1 := by rw [hW1]; go_grown
      have hz1 : Wa.heap.size ≤ W1.heap.size := by rw [hW1]; go_size
      have c0 : W1.cell? ⟨w.heap.size, 0, none⟩ = some (.int .u32 (p1.toNat : Int)) := by rw [hW1]; first | assumption | go_cell | (go_simp; done) | exact cell_past (by first | assumption | omega) (by assumption)
      have c1 : W1.cell? ⟨w.heap.size, 1, none⟩ = some (.int .u32 (p2.toNat : Int)) := by rw [hW1]; first | assumption | go_cell | (go_simp; done) | exact cell_past (by first | assumption | omega) (by assumption)
      have c2 : W1.cell? ⟨w.heap.size, 2, none⟩ = some (.bool neg) := by rw [hW1]; first | assumption | go_cell | (go_simp; done) | exact cell_past (by first | assumption | omega) (by assumption)
      have c3 : W1.cell? ⟨wr.heap.size, 0, none⟩ = some (.int .u32 (x1.toNat : Int)) := by rw [hW1]; first | assumption | go_cell | (go_simp; done) | exact cell_past (by first | assumption | omega) (by assumption)
      have c4 : W1.cell? ⟨wr.heap.size, 1, none⟩ = some (.int .u32 (x2.toNat : Int)) := by rw [hW1]; first | assumption | go_cell | (go_simp; done) | exact cell_past (by first | assumption | omega) (by assumption)
      subst hW1
      have k0 := cell_regrown c0
      have k1 := cell_regrown c1
      have k2 := cell_regrown c2
      have k3 := cell_regrown c3
      have k4 := cell_regrown c4
      refine wp_region_quiet_below (by kernel_rfl) (by kernel_rfl) ?_
      try simp only [List.append]
      repeat (go_big_quiet_step (first | (go_at_call 105; exact Calls.regrown_of (HSAT.out _))))
      refine wpQuiet_nil ?_
      intro w2 hw2
      have hb : Below W1.heap.size W1 w2 := by obtain ⟨q, rfl⟩ := hw2; exact below_regrown _ _ _
      clear hw2
      clear k0 k1 k2 k3 k4
      have hw := chain hw1 (by omega) hb
      obtain ⟨hc, hf, hz⟩ := bcell hb
      try have r0 : w2.cell? ⟨w.heap.size, 0, none⟩ = some (.int .u32 (p1.toNat : Int)) := (hc _ _ (by omega)).trans c0
      try have r1 : w2.cell? ⟨w.heap.size, 1, none⟩ = some (.int .u32 (p2.toNat : Int)) := (hc _ _ (by omega)).trans c1
      try have r2 : w2.cell? ⟨w.heap.size, 2, none⟩ = some (.bool neg) := (hc _ _ (by omega)).trans c2
      try have r3 : w2.cell? ⟨wr.heap.size, 0, none⟩ = some (.int .u32 (x1.toNat : Int)) := (hc _ _ (by omega)).trans c3
      try have r4 : w2.cell? ⟨wr.heap.size, 1, none⟩ = some (.int .u32 (x2.toNat : Int)) := (hc _ _ (by omega)).trans c4
      have h1b := H1.out.below hb
      have h2b := H2.out.below hb
      have e0 := h2b.cell hk33
      have f0 := h2b.frozen k
      have hwb := hw
      have H1 := Lib.hid h1b; have H2 := Lib.hid h2b; have HW := Lib.hid hw
      have HD := Lib.hid (And.intro r0 (And.intro r1 r2))
      clear h1b h2b hb hc hf hw1 hwa c0 c1 c2 c3 c4 hw a3 a4 hwb
      have HTK2 := HTK.out
      generalize hq : (!(sb == neg)) = q
      rw [show (sb != neg) = q from hq] at HTK2
      clear HTK hq HSAT s0 s1 d0 d1 d2 r0 r1 r2
      rcases q with _ | _
      · rw [if_neg Bool.false_ne_true] at HTK2
        have HTK3 := Lib.hid HTK2
        clear HTK2
        go_wp2_with fail
        go_roundw
        case rel => exact ⟨k + 1, by omega, by go_num, H2.out.eq (ite_skip HTK3.out), H1.out, HD.out, HW.out⟩
        case measure => simp [intOf]; omega
      · rw [if_pos rfl] at HTK2
        obtain ⟨y, hy⟩ : ∃ y, y = 1#64 <<< (k + 1) := ⟨_, rfl⟩
        have hO := only_any (k + 1) (by omega) w2
        rw [← hy] at HTK2 hO
        have hkc : (((k + 1 : Nat) : Int)) = (k : Int) + 1 := by omega
        rw [hkc] at hO
        have HTK3 := Lib.hid HTK2; have HO := Lib.hid hO
        clear HTK2 hy hO hkc
        go_wp2_with (go_at_call 106; refine HO.out.mono ?_; rintro e w1 ⟨rfl, rfl⟩)
        go_roundw
        case rel => exact ⟨k + 1, by omega, by go_num, (H2.out.set k y).eq (ite_step y HTK3.out), H1.out.other (by simp) _, ⟨keep_set HD.out.1 (by simp only []; omega), keep_set HD.out.2.1 (by simp only []; omega), keep_set HD.out.2.2 (by simp only []; omega)⟩, HW.out.setCell (p := ⟨w.heap.size + 1 + 1, k, none⟩) (by simp only []; omega) _⟩
        case measure => simp [intOf]; omega
    · obtain rfl : k = n := by omega
      have H1 := Lib.hid h1; have H2 := Lib.hid h2; have HW := Lib.hid hw
      clear T1 T2 h1 h2 hw hlt HC d0 d1 d2
      go_wp2_with (first | (refine wpList_ld rfl (.tmp 5) rfl (w.heap.size + 1 + 1) _ rfl H2.out ?_) | (refine wpList_st rfl (.tmp 4) (.tmp 28) rfl (w.heap.size + 1) _ _ rfl rfl H1.out ?_))
      refine bodyPost_ret (v := .agg (tbR T)) ?_ rfl ⟨rfl, below_setRow HW.out (by omega) _⟩
      exact parts_ret rfl _ _ (w.heap.size + 1) _ _ rfl (H1.out.setRow _) (fun a ha => ite_all (fun b hb => HTN.out b (by rw [HN.out]; exact hb)) a)
end Go.Proofs.YtmobilppakjihaaDoor
