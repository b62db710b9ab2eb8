/-
  The specification's Text: the walk.
-/
import Derived.Test.YtmgikhldkebjbaaGi
namespace Go.Proofs.Ytmgikhldkebjbaa
open Go.RowKit Go.Shelf Go.Sort
/-- What Text returns. -/
def txtV (l : List ByteArray) (s : Snd) : Value := if hasB l.length s = true then .tuple #[.string (txtS l s), .int .i64 0] else .tuple #[.string ⟨#[]⟩, .int .i64 14]
theorem empty_toList {t : ByteArray} : t.toList.isEmpty = decide (t.size = 0) := by
  rw [Bool.eq_iff_iff, decide_eq_true_iff, Lib.toList_data, List.isEmpty_iff]
  constructor
  · intro h
    have h2 : t.data.toList.length = 0 := by rw [h]; rfl
    rwa [Array.length_toList] at h2
  · intro h; rw [bytes_empty h]
set_option maxRecDepth 100000 in
set_option maxHeartbeats 8000000 in
theorem rtext_any {w : World} {base R : Nat} {l : List ByteArray} {a : List (ByteArray × Snd)} {nv av : Value} (h : RInv w base R l a nv av) (hl : l.length ≤ 24) (hx : ∀ x ∈ l, x.size ≤ 16) (s : Snd) : Gives 32 #[.pointer (some ⟨R, 0, none⟩), snv s] w (txtV l s) := by
  unfold Gives txtV
  have hbel := fun (W : World) (hb : Below w.heap.size w W) => rbel_any (h.below hb) hl s
  have hmd := fun (W : World) (hb : Below w.heap.size w W) => rmade_yes R W (h.below hb).cells.1
  have hR := h.lt
  have HI := Lib.hid h
  have HMD := Lib.hid hmd
  obtain ⟨ao, ac, hnv, c1, m1, hcells⟩ := h.names.ss.open
  subst hnv
  have q1 := h.cells.2.1
  obtain ⟨p, m⟩ := s
  have hvld := fun hh => hasB_vld (n := l.length) (p := p) (m := m) hl hh
  have hb0 := (Below.refl w.heap.size w).alloc (Nat.le_refl _) (.cells #[.int .u32 (p.toNat : Int), .int .u32 (m.toNat : Int)] 39)
  unfold snv at *
  have HC := Lib.hid hcells
  clear h hmd hcells
  rcases hB : hasB l.length (p, m) with _ | _
  · rw [hB] at hbel
    have HBL := Lib.hid hbel
    clear hbel hB hvld
    rw [if_neg (by decide)]
    go_enter Try.func32, Try.ntmps32
    go_wp2_with fail
    go_at_call 45
    refine Gives.then (HMD.out _ hb0) ?_
    intro w1 hb
    have hw := hb0.trans (hb.mono hb0.size)
    have r0 := (hb.cell (p := ⟨w.heap.size, 0, none⟩) (by simp)).trans (cell_block (World.alloc_heap_new w _) rfl)
    have r1 := (hb.cell (p := ⟨w.heap.size, 1, none⟩) (by simp)).trans (cell_block (World.alloc_heap_new w _) rfl)
    clear hb hb0
    go_wp2_with fail
    go_at_call 49
    refine Gives.then (HBL.out _ hw) ?_
    intro w2 hb2
    have hw2 := hw.trans (hb2.mono hw.size)
    clear hb2
    go_wp2_with fail
    go_ret2
    exact ⟨rfl, hw2⟩
  · rw [hB] at hbel
    have HBL := Lib.hid hbel
    have HV := Lib.hid (hvld hB)
    clear hbel hB hvld
    rw [if_pos rfl]
    have hST := fun k h h2 => txtS_step HV.out l k h h2
    have hIt := fun k => txtL_items (p, m) (l.take k) 0 (fun x hh => hx x (List.mem_of_mem_take hh))
    have hSz : ∀ k, (joinS (txtL (p, m) 0 (l.take k)) ⟨#[32]⟩).size ≤ 432 := fun k => by
      have h1 := joinS_size (txtL (p, m) 0 (l.take k)) ⟨#[32]⟩ (by decide) (fun x hh => (hIt k x hh).2)
      have h2 := txtL_le (p, m) (l.take k) 0
      rw [List.length_take] at h2
      omega
    have HST := Lib.hid hST; have HIT := Lib.hid hIt; have HSZ := Lib.hid hSz; have HX := Lib.hid hx
    clear hST hIt hSz hx
    go_enter Try.func32, Try.ntmps32
    go_wp2_with fail
    go_at_call 45
    refine Gives.then (HMD.out _ hb0) ?_
    intro w1 hb
    have hw := hb0.trans (hb.mono hb0.size)
    have r0 := (hb.cell (p := ⟨w.heap.size, 0, none⟩) (by simp)).trans (cell_block (World.alloc_heap_new w _) rfl)
    have r1 := (hb.cell (p := ⟨w.heap.size, 1, none⟩) (by simp)).trans (cell_block (World.alloc_heap_new w _) rfl)
    have lw : w.heap.size < w1.heap.size := by have := hb.size; rw [World.size_alloc] at this; omega
    clear hb hb0
    go_wp2_with fail
    go_at_call 49
    refine Gives.then (HBL.out _ hw) ?_
    intro w2 hb2
    have hw2 := hw.trans (hb2.mono hw.size)
    have r0 := (hb2.cell (p := ⟨w.heap.size, 0, none⟩) lw).trans r0
    have r1 := (hb2.cell (p := ⟨w.heap.size, 1, none⟩) lw).trans r1
    have lw2 := Nat.lt_of_lt_of_le lw hb2.size
    have HW2 := Lib.hid hw2
    clear hb2 HBL HMD hw
    go_wp2_with fail
    go_loopw [6, 7] (fun v i wr => ∃ k : Nat, k ≤ l.length ∧ i = .int .i64 (k : Int) ∧ v = .string (joinS (txtL (p, m) 0 (l.take k)) ⟨#[32]⟩) ∧ Below w2.heap.size w2 wr) (fun _ i _ => l.length - (intOf i).toNat)
    case atStart => exact ⟨0, Nat.zero_le _, rfl, rfl, Below.refl _ _⟩
    case round =>
      obtain ⟨k, hk, rfl, rfl, hwr⟩ := hrel
      have hwq := HW2.out.trans (hwr.mono HW2.out.size)
      have c0 := (hwr.cell (p := ⟨w.heap.size, 0, none⟩) lw2).trans r0
      have c1 := (hwr.cell (p := ⟨w.heap.size, 1, none⟩) lw2).trans r1
      have c2 := (hwq.cell (p := ⟨R, 1, none⟩) hR).trans q1
      have HWR := Lib.hid hwr; have HWQ := Lib.hid hwq
      clear r0 r1 q1 hwr hw2
      by_cases hlt : k < l.length
      · obtain ⟨b, off, hao, lb, d0⟩ := HC.out k hlt
        have d0 := (hwq.cell (p := ⟨b, off + k, none⟩) lb).trans d0
        have hsz := HSZ.out k
        have hxk := HX.out l[k] (List.getElem_mem hlt)
        have hget := fun W => rget_ok p m k HV.out (by omega) W
        have lR : R < wr.heap.size := Nat.lt_of_lt_of_le hR HWQ.out.size
        have lbb : b < wr.heap.size := Nat.lt_of_lt_of_le lb HWQ.out.size
        subst hao
        have hne : txtL (p, m) 0 (l.take k) = [] ∨ (txtL (p, m) 0 (l.take k) ≠ [] ∧ 0 < (joinS (txtL (p, m) 0 (l.take k)) ⟨#[32]⟩).size) := by
          by_cases e : txtL (p, m) 0 (l.take k) = []
          · exact .inl e
          · exact .inr ⟨e, joinS_pos (fun x hh => (HIT.out k x hh).1) e⟩
        clear hwq HC
        rcases HST.out k hlt (by omega) with ⟨hg, ht⟩ | ⟨hg, ht⟩ | ⟨hg, ht⟩
        · rw [hg] at hget
          have HG := Lib.hid hget; have HT := Lib.hid ht
          clear hget ht hg hne
          go_wp2_with (go_at_call 59; refine Gives.then (HG.out _) ?_; intro w3 hb3; have HW3 := Lib.hid (HWR.out.trans (hb3.mono HWR.out.size)); clear hb3)
          go_roundw
          case rel => exact ⟨k + 1, by omega, by go_num, by rw [HT.out], HW3.out⟩
          case measure => simp [intOf]; omega
        all_goals (
          rw [hg] at hget
          have HG := Lib.hid hget
          clear hget hg
          rcases hne with hne | ⟨hne, hpos⟩
          · rw [hne, List.nil_append] at ht
            rw [hne]
            have HT := Lib.hid ((congrArg (fun z => joinS z ⟨#[32]⟩) ht).trans (joinS_one _ _))
            rw [joinS_nil]
            clear ht hne hsz
            generalize l[k] = x at *
            have z1 : ¬ (9223372036854775807 < 1 + x.size) := by omega
            have z2 : 1 + x.size ≤ 9223372036854775807 := by omega
            go_wp2_with (go_at_call 59; refine Gives.then (HG.out _) ?_; intro w3 hb3; have HW3 := Lib.hid (HWR.out.trans (hb3.mono HWR.out.size)); have e2 := (hb3.cell (p := ⟨R, 1, none⟩) lR).trans c2; have e3 := (hb3.cell (p := ⟨b, off + k, none⟩) lbb).trans d0; clear hb3)
            go_roundw
            case rel => exact ⟨k + 1, by omega, by go_num, by rw [HT.out]; first | rfl | exact congrArg Value.string (bytes_ext (by simp [append_list, plusS, minusS])), HW3.out⟩
            case measure => simp [intOf]; omega
          · have HT := Lib.hid ((congrArg (fun z => joinS z ⟨#[32]⟩) ht).trans (joinS_snoc _ _ _ hne))
            have e0 : (joinS (txtL (p, m) 0 (l.take k)) ⟨#[32]⟩).toList.isEmpty = false := by rw [empty_toList]; exact decide_eq_false (by omega)
            clear ht hne
            generalize joinS (txtL (p, m) 0 (l.take k)) ⟨#[32]⟩ = o at *
            generalize l[k] = x at *
            have z1 : ¬ (9223372036854775807 < o.size + 1) := by omega
            have z2 : o.size + 1 ≤ 9223372036854775807 := by omega
            have z3 : ¬ (9223372036854775807 < o.size + 1 + 1) := by omega
            have z4 : o.size + 1 + 1 ≤ 9223372036854775807 := by omega
            have z5 : ¬ (9223372036854775807 < o.size + 1 + 1 + x.size) := by omega
            have z6 : o.size + 1 + 1 + x.size ≤ 9223372036854775807 := by omega
            go_wp2_with (go_at_call 59; refine Gives.then (HG.out _) ?_; intro w3 hb3; have HW3 := Lib.hid (HWR.out.trans (hb3.mono HWR.out.size)); have e2 := (hb3.cell (p := ⟨R, 1, none⟩) lR).trans c2; have e3 := (hb3.cell (p := ⟨b, off + k, none⟩) lbb).trans d0; clear hb3)
            go_roundw
            case rel => exact ⟨k + 1, by omega, by go_num, by rw [HT.out]; first | rfl | exact congrArg Value.string (bytes_ext (by simp [append_list, plusS, minusS])), HW3.out⟩
            case measure => simp [intOf]; omega)
      · obtain rfl : k = l.length := by omega
        have HF := Lib.hid (show joinS (txtL (p, m) 0 (l.take l.length)) ⟨#[32]⟩ = txtS l (p, m) from by rw [List.take_length]; rfl)
        go_wp2_with fail
        go_ret2
        exact ⟨by rw [← HF.out]; rfl, HWQ.out⟩
end Go.Proofs.Ytmgikhldkebjbaa
