/-
  Lemmas that the theorem of this claim rests on: 1 texts, one behind the other.
-/
import Derived.Test.YtmobilppakjihaaDoorM11
set_option linter.unusedSimpArgs false
set_option linter.unusedVariables false
/-
  What the nodes of either of some patterns match.
-/
namespace Go.Proofs.YtmobilppakjihaaDoor
open Go.RowKit Go.Sort
set_option maxRecDepth 100000 in
set_option maxHeartbeats 4000000 in
theorem palt_any (Ts : List (List Snd → Tb)) (sv : Value) (ss : List Snd) (wv : Value) (w : World) (hl : ss.length ≤ 32) (hW : Wd w wv ss) (hN : Ns w sv Ts) (hT : Tab64 w) (ht0 : 0 < w.heap.size) :
    Gives 111 #[sv, wv] w (.agg (tbR ((Ts.map (fun T => T ss)).foldl orT zeroT))) := by
  unfold Gives
  obtain ⟨ao, cap, rfl, c1, m1, hcell⟩ := hN.open
  obtain ⟨wo, wc, hwv, -, -, -⟩ := hW.open
  have l1 := maxLen_lt (Nat.le_trans c1 m1)
  obtain ⟨L, hL⟩ : ∃ L, Ts.length = L := ⟨_, rfl⟩
  obtain ⟨M, hM⟩ : ∃ M : Nat → Tb, ∀ k, M k = ((Ts.take k).map (fun T => T ss)).foldl orT zeroT := ⟨_, fun _ => rfl⟩
  have hM0 : M 0 = zeroT := by rw [hM]; rfl
  have hMs : ∀ k (h : k < Ts.length), M (k + 1) = orT (M k) (Ts[k] ss) := fun k h => by
    rw [hM, hM, List.take_succ_eq_append_getElem h, List.map_append, List.foldl_append]; rfl
  have hMf : M L = (Ts.map (fun T => T ss)).foldl orT zeroT := by rw [hM, ← hL, List.take_length]
  rw [← hMf]
  have HM0 := Lib.hid hM0; have HMS := Lib.hid hMs; have HC := Lib.hid hcell; have HWD := Lib.hid hW; have HTB := Lib.hid hT; have HT0 := Lib.hid ht0; have HL := Lib.hid hL; have HLE := Lib.hid hl
  rw [hL] at l1 ⊢
  have hbelow := fun (W : World) (hb : Below w.heap.size w W) => hW.below hb
  have HBW := Lib.hid hbelow
  subst hwv
  clear hM hM0 hMs hMf hcell hW hN hT ht0 hL c1 m1 hbelow hl
  have HZ := Lib.hid tbR_zero
  obtain ⟨n, hn⟩ : ∃ n, ss.length = n := ⟨_, rfl⟩
  rw [hn] at HBW ⊢
  have HN := Lib.hid hn
  clear hn
  go_enter Tryd.func111, Tryd.ntmps111
  go_wp2_with fail
  rw [← HZ.out]
  refine wp_gen ?_
  intro W1 hW1
  have s5 : TbAt W1 (w.heap.size + 1) (M 0) := by rw [hW1, HM0.out]; have := TbAt.new (w.alloc (.cells (tbR zeroT) 74)) zeroT; rwa [World.size_alloc] at this
  have s1 : TbAt W1 w.heap.size zeroT := by rw [hW1]; exact (TbAt.new w zeroT).past _
  have hBW1 : Below w.heap.size w W1 := by rw [hW1]; go_grown
  obtain ⟨B, hB⟩ : ∃ B, w.heap.size + 1 = B := ⟨_, rfl⟩
  have hBw : w.heap.size < B := by omega
  rw [hB] at s5 ⊢
  have S5 := Lib.hid s5; have S1 := Lib.hid s1; have HW1 := Lib.hid hBW1
  clear hW1 s5 s1 hBW1 hB
  go_loopw [10] (fun i wr => ∃ k : Nat, k ≤ L ∧ i = .int .i64 (k : Int) ∧ TbAt wr B (M k) ∧ TbAt wr w.heap.size zeroT ∧ Below w.heap.size w wr) (fun i _ => L - (intOf i).toNat)
  case atStart => exact ⟨0, by omega, rfl, S5.out, S1.out, HW1.out⟩
  case round =>
    obtain ⟨k, hk, rfl, h5, h1, hw⟩ := hrel
    have H5 := Lib.hid h5; have H1 := Lib.hid h1; have HW := Lib.hid hw
    clear S5 S1 HW1
    by_cases hlt : k < L
    · have hkl : k < Ts.length := by rw [HL.out]; exact hlt
      obtain ⟨b, off, u, rfl, lb, d0, t, pl, f, rfl, hfn, hokk, hmat⟩ := HC.out k hkl
      have d0 := (hw.cell (p := ⟨b, off + k, none⟩) lb).trans d0
      have hms := HMS.out k hkl
      generalize Ts[k] = Tk at *
      have HMSK := Lib.hid hms; have HFN := Lib.hid hfn; have HOKK := Lib.hid hokk; have HMAT := Lib.hid hmat
      have hBr := h5.lt
      clear h5 h1 hw HC HMS hms hfn hokk hmat
      go_wp2_with fail
      refine wp_region_makers 5 [] [0, 1, 2, 3, 4] ?A _ (by kernel_rfl) (by kernel_rfl) ?hrun (by simp [quiets, mkOf]; rfl) ?walk ?fin
      case hrun =>
        intro x hx
        cases hx
      case walk =>
        intro W2 hW2
        have hB2 := HW.out.trans (hW2.mono HW.out.size)
        refine wpQuiet_ld rfl (.tmp 5) rfl B _ rfl (Cls.row (H5.out.below hW2)) ?_
        refine wpQuiet_mv rfl (.tmp 7) rfl _ rfl ?_
        refine wpQuiet_mv rfl (.tmp 1) rfl _ rfl ?_
        refine wpQuiet_inv rfl (.tmp 15) (.tmp 16) _ rfl rfl HFN.out (.agg (tbR (Tk ss))) (Cls.gives fun w9 hw9 => HMAT.out _ (hB2.trans (hw9.mono hB2.size)) ss _ HLE.out (by have := HBW.out _ (hB2.trans (hw9.mono hB2.size)); exact this)) ?_
        refine wpQuiet_fn rfl 103 (.tmp 14) (.tmp 17) _ rfl (.agg (tbR (M (k + 1)))) (Cls.gives fun w9 hw9 => by rw [HMSK.out]; exact por_any _ _ w9) (enters_of Tryd.func103 (by kernel_rfl) rfl) ?_
        refine wpQuiet_nil ?_
        rfl
      intro bs w2 hb hF hN
      have h5b := H5.out.below hb
      have hwb := HW.out.trans (hb.mono HW.out.size)
      have h1b := H1.out.below hb
      clear hF hN
      have H5 := Lib.hid h5b; have H1 := Lib.hid h1b; have HW := Lib.hid hwb
      clear h5b hwb h1b hb
      simp only [List.drop_succ_cons, List.drop_zero, List.map_nil, List.foldr_nil]
      refine wpList_st rfl (.tmp 5) (.tmp 18) rfl B _ _ rfl rfl H5.out ?_
      go_wp2_with fail
      go_roundw
      case rel => exact ⟨k + 1, by omega, by go_num, H5.out.setRow _, H1.out.setRow_other (by omega) _, below_setRow HW.out (by omega) _⟩
      case measure => simp [intOf]; omega
    · obtain rfl : k = L := by omega
      clear hlt HC HMS
      go_wp2_with (first | (refine wpList_ld rfl (.tmp 5) rfl B _ rfl H5.out ?_) | (refine wpList_st rfl (.tmp 4) (.tmp 20) rfl w.heap.size _ _ rfl rfl H1.out ?_))
      refine bodyPost_ret (v := .agg (tbR (M k))) ?_ rfl ⟨rfl, below_setRow HW.out (Nat.le_refl _) _⟩
      exact parts_ret rfl _ _ w.heap.size _ _ rfl (H1.out.setRow _) (fun a ha => rfl)
end Go.Proofs.YtmobilppakjihaaDoor
