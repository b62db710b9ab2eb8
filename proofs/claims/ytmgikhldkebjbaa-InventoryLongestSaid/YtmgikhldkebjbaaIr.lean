/-
  Text: writing values of features.
-/
import Derived.Test.YtmgikhldkebjbaaIq
import Derived.Test.YtmgikhldkebjbaaJn
namespace Go.Proofs.Ytmgikhldkebjbaa
open Go.RowKit Go.Shelf Go.Sort
attribute [local go_sem] bv_and bv_or ofInt32_nat
def plusS (x : ByteArray) : ByteArray := ⟨#[43]⟩ ++ x
def minusS (x : ByteArray) : ByteArray := ⟨#[45]⟩ ++ x
/-- The items of the features from number f on. -/
def txtL (s : Snd) : Nat → List ByteArray → List ByteArray
  | _, [] => []
  | f, x :: l => if s.1.toNat &&& 2 ^ f ≠ 0 then plusS x :: txtL s (f + 1) l else if s.2.toNat &&& 2 ^ f ≠ 0 then minusS x :: txtL s (f + 1) l else txtL s (f + 1) l
theorem txtL_snoc (s : Snd) (x : ByteArray) : ∀ (l : List ByteArray) (f : Nat), txtL s f (l ++ [x]) = txtL s f l ++ (if s.1.toNat &&& 2 ^ (f + l.length) ≠ 0 then [plusS x] else if s.2.toNat &&& 2 ^ (f + l.length) ≠ 0 then [minusS x] else [])
  | [], f => by simp only [List.nil_append, txtL, List.length_nil, Nat.add_zero]
  | y :: l, f => by
    have ih := txtL_snoc s x l (f + 1)
    rw [show f + 1 + l.length = f + (y :: l).length from by simp; omega] at ih
    simp only [List.cons_append, txtL, ih]
    split
    · rfl
    · split <;> rfl
theorem txtL_le (s : Snd) : ∀ (l : List ByteArray) (f : Nat), (txtL s f l).length ≤ l.length
  | [], _ => Nat.le_refl _
  | y :: l, f => by
    have ih := txtL_le s l (f + 1)
    simp only [txtL, List.length_cons]
    split
    · simp only [List.length_cons]; omega
    · split
      · simp only [List.length_cons]; omega
      · omega
theorem txtL_take (s : Snd) (l : List ByteArray) (k : Nat) (h : k < l.length) : txtL s 0 (l.take (k + 1)) = txtL s 0 (l.take k) ++ (if s.1.toNat &&& 2 ^ k ≠ 0 then [plusS l[k]] else if s.2.toNat &&& 2 ^ k ≠ 0 then [minusS l[k]] else []) := by
  rw [List.take_succ_eq_append_getElem h, txtL_snoc]
  have e : 0 + (l.take k).length = k := by rw [List.length_take]; omega
  rw [e]
/-- The text of a sound with the features l. -/
def txtS (l : List ByteArray) (s : Snd) : ByteArray := joinS (txtL s 0 l) ⟨#[32]⟩
theorem ss_one (w : World) (y : ByteArray) : Ss (w.alloc (.cells #[.string y] 9)) (.slice (some ⟨w.heap.size, 0, none⟩) 1 1) [y] :=
  .inr ⟨w.heap.size, 0, 1, rfl, Nat.le_refl _, by decide, by rw [World.size_alloc]; omega, fun i hi => by
    obtain rfl : i = 0 := by simp at hi; omega
    exact cell_block (World.alloc_heap_new w _) rfl⟩
set_option maxHeartbeats 4000000 in
set_option maxRecDepth 100000 in
theorem text_any {w : World} {base B : Nat} {l : List ByteArray} {a : List (ByteArray × Snd)} {nv av : Value} {bf bs by_ : Nat} (h : Inv w base B l a nv av bf bs by_) (hl : l.length ≤ 24) (s : Snd) (hs : hasB l.length s = true) (hxs : ∀ x ∈ l, x.size ≤ 1000) (hlen : (txtS l s).size ≤ 140737488355328) : Gives 31 #[.pointer (some ⟨B, 0, none⟩), snv s] w (.tuple #[.string (txtS l s), .int .i64 0]) := by
  unfold Gives
  have hB := h.lt
  have hv := fun (W : World) (hb : Below w.heap.size w W) => valid_yes B W (h.below hb).cells.1
  have hh := fun (W : World) (hb : Below w.heap.size w W) => has_any (h.below hb) s hl
  rw [hs] at hh
  unfold snv at *
  have HI := Lib.hid h; have HV := Lib.hid hv; have HH := Lib.hid hh
  obtain ⟨ao, ac, hnv⟩ := h.names.form
  subst hnv
  clear h hv hh
  go_enter Try.func31, Try.ntmps31
  have hq0 : Below w.heap.size w (w.alloc (.cells #[.int .u32 (s.1.toNat : Int), .int .u32 (s.2.toNat : Int)] 39)) := (Below.refl _ w).alloc (Nat.le_refl _) _
  have p0 : (w.alloc (.cells #[.int .u32 (s.1.toNat : Int), .int .u32 (s.2.toNat : Int)] 39)).cell? ⟨w.heap.size, 0, none⟩ = some (.int .u32 (s.1.toNat : Int)) := by go_cell
  have p1 : (w.alloc (.cells #[.int .u32 (s.1.toNat : Int), .int .u32 (s.2.toNat : Int)] 39)).cell? ⟨w.heap.size, 1, none⟩ = some (.int .u32 (s.2.toNat : Int)) := by go_cell
  have p2 : (w.alloc (.cells #[.int .u32 (s.1.toNat : Int), .int .u32 (s.2.toNat : Int)] 39)).heap.size = w.heap.size + 1 := World.size_alloc _ _
  go_wp2_with (first | (go_at_call 44; refine (HV.out _ (by go_grown)).mono ?_; rintro e wa ⟨rfl, hwa⟩; have hba := hq0.trans (hwa.mono hq0.size); have kz := hwa.size; rw [p2] at kz; have q0 := (hwa.cell (p := ⟨w.heap.size, 0, none⟩) (by simp only [p2]; omega)).trans p0; have q1 := (hwa.cell (p := ⟨w.heap.size, 1, none⟩) (by simp only [p2]; omega)).trans p1) | (go_at_call 47; refine (HH.out _ hba).mono ?_; rintro e wb ⟨rfl, hwb⟩; have hbb := hba.trans (hwb.mono hba.size); have kz2 := hwb.size; have r0 := (hwb.cell (p := ⟨w.heap.size, 0, none⟩) (by simp only []; omega)).trans q0; have r1 := (hwb.cell (p := ⟨w.heap.size, 1, none⟩) (by simp only []; omega)).trans q1; have cB := (HI.out.below hbb).cells.2.1))
  have hnn := (HI.out.below hbb).names.ss
  have HN := Lib.hid hnn; have HB := Lib.hid hbb
  have hz1 : w.heap.size < wb.heap.size := by omega
  clear hq0 p0 p1 p2 hwa hba q0 q1 hwb hnn hbb HV HH kz kz2 cB hs
  go_loopw [6, 22] (fun v i wr => ∃ k : Nat, k ≤ l.length ∧ i = .int .i64 (k : Int) ∧ OwnS wr wb.heap.size v (txtL s 0 (l.take k)) ∧ Below wb.heap.size wb wr) (fun _ i _ => l.length - (intOf i).toNat)
  case atStart => exact ⟨0, Nat.zero_le _, rfl, OwnS.nil _ _, Below.refl _ _⟩
  case round =>
    obtain ⟨k, hk, rfl, ho, hw⟩ := hrel
    have HO := Lib.hid ho; have HW := Lib.hid hw
    have c0 := (hw.cell (p := ⟨w.heap.size, 0, none⟩) hz1).trans r0
    have c1 := (hw.cell (p := ⟨w.heap.size, 1, none⟩) hz1).trans r1
    clear ho hw
    by_cases hlt : k < l.length
    · obtain ⟨ao', cap', hv', hc', hm', hcells⟩ := HN.out.open
      obtain ⟨b, off, hao, hb, hcell⟩ := hcells k hlt
      cases hv'
      subst hao
      have hcell := (HW.out.cell (p := ⟨b, off + k, none⟩) hb).trans hcell
      have htk := txtL_take s l k hlt
      have hx0 := hxs l[k] (List.getElem_mem hlt)
      have hln : (txtL s 0 (l.take k)).length ≤ 24 := Nat.le_trans (txtL_le s _ 0) (by rw [List.length_take]; omega)
      generalize l[k] = x at *
      have hp : (2 : Int) ^ k % 4294967296 = ((2 ^ k : Nat) : Int) := by
        have h := pow_bit k (by omega)
        rw [bit_toNat k (by omega)] at h
        exact h
      have hK32 : (2 : Nat) ^ k % 4294967296 = 2 ^ k := Nat.mod_eq_of_lt (Nat.pow_lt_pow_right (by omega) (by omega : k < 32))
      generalize hKK : (2 : Nat) ^ k = K at *
      have hx1 : ¬ ((⟨#[43]⟩ : ByteArray).size + x.size > 9223372036854775807) := by
        show ¬ (1 + x.size > _); omega
      have hx2 : ¬ ((⟨#[45]⟩ : ByteArray).size + x.size > 9223372036854775807) := by
        show ¬ (1 + x.size > _); omega
      have hx3 : ¬ (9223372036854775807 < 1 + x.size) := by omega
      have hx4 : 1 + x.size ≤ 9223372036854775807 := by omega
      have HTK := Lib.hid htk; have HLN := Lib.hid hln
      clear htk hcells hln hx0 hKK
      obtain ⟨vo, vc, hu⟩ := HO.out.form
      cases hu
      obtain ⟨N, hN⟩ : ∃ N, (txtL s 0 (l.take k)).length = N := ⟨_, rfl⟩
      have hv2 : Value.slice vo (txtL s 0 (l.take k)).length vc = Value.slice vo N vc := by rw [hN]
      rw [hN]
      rw [hv2] at HO
      have HNN := Lib.hid hN
      clear hN hv2
      by_cases h1 : s.1.toNat &&& K = 0
      · have g1 : (((s.1.toNat &&& K : Nat) : Int) != 0) = false := by rw [h1]; rfl
        by_cases h2 : s.2.toNat &&& K = 0
        · have g2 : (((s.2.toNat &&& K : Nat) : Int) != 0) = false := by rw [h2]; rfl
          have htk2 := HTK.out
          rw [if_neg (by simp [h1]), if_neg (by simp [h2]), List.append_nil] at htk2
          have HT := Lib.hid htk2
          clear htk2 HTK h1 h2
          go_wp2_with fail
          go_roundw
          case rel => exact ⟨k + 1, by omega, by go_num, by rw [HT.out]; exact HO.out, HW.out⟩
          case measure => simp [intOf]; omega
        · have g2 : (((s.2.toNat &&& K : Nat) : Int) != 0) = true := bne_iff_ne.2 (fun e => h2 (by omega))
          have htk2 := HTK.out
          rw [if_neg (by simp [h1]), if_pos h2] at htk2
          have HT := Lib.hid htk2
          clear htk2 HTK h1 h2
          go_wp2_with (at_builtin; refine wpList_appS rfl (.tmp 46) (.tmp 49) rfl wb.heap.size _ _ (txtL s 0 (l.take k)) [minusS x] rfl rfl (HO.out.below ((Below.refl _ wr).alloc (Nat.le_refl _) _)) (ss_one wr _) (by have := HLN.out; simp; omega) (by rw [World.size_alloc]; have := HW.out.size; omega) ?_; intro v' w2 ho2 hk2 hz2)
          go_roundw
          case rel => exact ⟨k + 1, by omega, by go_num, by rw [HT.out]; exact ho2, hk2 _ _ (Nat.le_refl _) (HW.out.alloc HW.out.size _)⟩
          case measure => simp [intOf]; omega
      · have g1 : (((s.1.toNat &&& K : Nat) : Int) != 0) = true := bne_iff_ne.2 (fun e => h1 (by omega))
        have htk2 := HTK.out
        rw [if_pos h1] at htk2
        have HT := Lib.hid htk2
        clear htk2 HTK h1
        go_wp2_with (at_builtin; refine wpList_appS rfl (.tmp 35) (.tmp 38) rfl wb.heap.size _ _ (txtL s 0 (l.take k)) [plusS x] rfl rfl (HO.out.below ((Below.refl _ wr).alloc (Nat.le_refl _) _)) (ss_one wr _) (by have := HLN.out; simp; omega) (by rw [World.size_alloc]; have := HW.out.size; omega) ?_; intro v' w2 ho2 hk2 hz2)
        go_roundw
        case rel => exact ⟨k + 1, by omega, by go_num, by rw [HT.out]; exact ho2, hk2 _ _ (Nat.le_refl _) (HW.out.alloc HW.out.size _)⟩
        case measure => simp [intOf]; omega
    · have hk2 : k = l.length := by omega
      subst hk2
      rw [List.take_length] at HO
      have hs0 := HO.out.ss
      have hls : (txtL s 0 l).length ≤ 140737488355328 := Nat.le_trans (txtL_le s l 0) (by omega)
      have HJ := Lib.hid (join_any hs0 ⟨#[32]⟩ hls hlen)
      have hsz := HW.out.size
      clear hs0 hls
      go_wp2_with (go_at_call 61; refine Gives.then HJ.out ?_; intro w3 hb3)
      exact bodyPost_ret (v := .tuple #[.string (txtS l s), .int .i64 0]) (by simp [results, Try.results31, go_sem, txtS]) rfl ⟨rfl, HB.out.trans ((HW.out.mono (by omega)).trans (hb3.mono (by omega)))⟩
end Go.Proofs.Ytmgikhldkebjbaa
