/-
  grown: an inventory with the first sounds of a list that it takes.
-/
import Derived.Test.YtmgikhldkebjbaaOb
namespace Go.Proofs.Ytmgikhldkebjbaa
open Go.RowKit Go.Sort
/-- Where the loop over the steps is. -/
def GrR (l : List (ByteArray × Snd)) (N : Nat) (w : World) (B : Nat) (nv : Value) (bf bs by_ : Nat) (hv i : Value) (wr : World) : Prop :=
  ∃ (k : Nat) (av : Value), k ≤ N ∧ i = .int .i64 (k : Int) ∧ Inv wr w.heap.size B (nmL 24) (grw [] (l.take k)) nv av bf bs by_ ∧ OwnN wr w.heap.size hv (grw [] (l.take k)) ∧ Apart hv av ∧ Below w.heap.size w wr
/-- What grown returns. -/
def GrP (l : List (ByteArray × Snd)) (w : World) (e : Ending) (w' : World) : Prop :=
  ∃ B nv av bf bs by_ hv, e = .returned (.tuple #[.pointer (some ⟨B, 0, none⟩), hv]) ∧ Inv w' w.heap.size B (nmL 24) (grw [] (l.take 300)) nv av bf bs by_ ∧ OwnN w' w.heap.size hv (grw [] (l.take 300)) ∧ Apart hv av ∧ Below w.heap.size w w'
theorem take300 (l : List (ByteArray × Snd)) (N : Nat) (h : min l.length 300 = N) : l.take 300 = l.take N := by
  rcases Nat.le_total l.length 300 with h1 | h1
  · rw [Nat.min_eq_left h1] at h
    rw [List.take_of_length_le h1, ← h, List.take_length]
  · rw [Nat.min_eq_right h1] at h
    rw [h]
theorem touch_block {w w' : World} {base B b : Nat} {l : List ByteArray} {a : List (ByteArray × Snd)} {nv av : Value} {bf bs by_ : Nat} {o : Obj} (h : Inv w base B l a nv av bf bs by_) (ht : Touch w w' B bs by_ av) (hb : w.heap[b]? = some o) (hne : ∀ cs, o ≠ .cells cs 59 (0, 0)) (hm : ∀ es n, o ≠ .map es n) (hn : ∀ cs fz, o ≠ .cells cs 47 fz) : w'.heap[b]? = some o := by
  obtain ⟨s1, s2, s3⟩ := h.sounds.obj
  obtain ⟨y1, y2, y3⟩ := h.symbols.obj
  refine (ht.2.2.2.2 b (Array.getElem?_eq_some_iff.1 hb).1 (ne_of_obj hb h.blk (hne _)) (ne_of_obj hb s3 (hm _ _)) (ne_of_obj hb y3 (hm _ _)) (own_far h.added hb hn)).trans hb
set_option maxRecDepth 100000 in
set_option maxHeartbeats 8000000 in
theorem grown_any (l : List (ByteArray × Snd)) (v : Value) (w : World) (hx : ∀ x ∈ l, x.1.size ≤ maxLen) (h : Sp w v l) : Calls Try.prog 41 #[v] w (GrP l w) := by
  have hN := numbered_any 24 (by decide) w
  rw [show ((24 : Nat) : Int) = 24 from rfl] at hN
  have HN := Lib.hid hN
  obtain ⟨ao, cap, rfl, c1, m1, hc⟩ := h.open
  unfold maxLen at m1 hx
  have HC := Lib.hid hc; have HX := Lib.hid hx
  have l1 : l.length ≤ 9223372036854775807 := by omega
  obtain ⟨N, hNN⟩ : ∃ N, min l.length 300 = N := ⟨_, rfl⟩
  have hN2 : min (l.length : Int) 300 = (N : Int) := by omega
  have hle : N ≤ l.length := by omega
  have hle2 : N ≤ 300 := by omega
  have hcp : N ≤ cap := by omega
  have HT := Lib.hid (take300 l N hNN)
  clear hN hc hx h hNN
  go_enter Try.func41, Try.ntmps41
  go_wp2_with fail
  go_at_call 37
  refine HN.out.mono ?_
  rintro e w1 ⟨hb1, B, nv, bf, bs, by_, lv, rfl, hI, ho⟩
  obtain ⟨al, cl, hlv, -, -, -⟩ := ho.ss.open
  rw [nmL_len] at hlv
  subst hlv
  have HI := Lib.hid hI; have HB1 := Lib.hid hb1
  clear hI ho hb1 HN
  go_wp2_with fail
  clear hN2
  go_loopw [6, 21] (fun hv i wr => GrR l N w B nv bf bs by_ hv i wr) (fun _ i _ => N - (intOf i).toNat)
  case atStart => exact ⟨0, _, Nat.zero_le _, rfl, HI.out, ⟨rfl, .inl ⟨rfl, rfl⟩⟩, (fun k e => by cases e), HB1.out⟩
  case round =>
    obtain ⟨k, av, hk, rfl, hI, hO, hD, hw⟩ := hrel
    obtain ⟨hoa, hcap, hhv⟩ := hO.slice
    obtain ⟨n, hn⟩ : ∃ n, (grw [] (l.take k)).length = n := ⟨_, rfl⟩
    rw [hn] at hhv
    subst hhv
    have hgl := grw_len (l.take k) [] (by decide)
    have hsz := hw.size
    have HII := Lib.hid hI; have HO := Lib.hid hO; have HD := Lib.hid hD; have HW := Lib.hid hw; have HNn := Lib.hid hn; have HGL := Lib.hid hgl
    clear hI hO hD hn hgl HI HB1
    by_cases hlt : k < N
    · have hkl : k < l.length := by omega
      obtain ⟨b, off, hao, lb, d0, d1, d2⟩ := HC.out k hkl
      have d0 := (hw.cell (p := ⟨b, _, none⟩) lb).trans d0
      have d1 := (hw.cell (p := ⟨b, _, none⟩) lb).trans d1
      have d2 := (hw.cell (p := ⟨b, _, none⟩) lb).trans d2
      have hxk := HX.out l[k] (List.getElem_mem hkl)
      have hsn := grw_snoc l[k] (l.take k) []
      rw [← List.take_succ_eq_append_getElem hkl] at hsn
      subst hao
      clear hw HC HX
      generalize l[k] = x at *
      obtain ⟨sy, p, m⟩ := x
      simp only at d0 d1 d2 hxk hsn
      have hb8 := (Below.refl wr.heap.size wr).alloc (Nat.le_refl _) (.cells #[.string sy, .int .u32 (p.toNat : Int), .int .u32 (m.toNat : Int)] 41)
      have hadd := add_all (HII.out.below hb8) sy (p, m) (by omega) (by rw [nmL_len]; decide) HGL.out
      have h8 := World.alloc_heap_new wr (.cells #[.string sy, .int .u32 (p.toNat : Int), .int .u32 (m.toNat : Int)] 41)
      have HB8 := Lib.hid hb8; have HADD := Lib.hid hadd; have H8 := Lib.hid h8; have HSN := Lib.hid hsn
      unfold snv at HADD
      clear hb8 hadd h8 hsn
      obtain ⟨E, hE⟩ : ∃ E, addE (nmL 24) (grw [] (l.take k)) sy (p, m) = E := ⟨_, rfl⟩
      rw [hE] at HADD HSN
      by_cases h0 : E = 0
      · subst h0
        have HSN := Lib.hid (HSN.out.trans (if_pos rfl))
        clear hE
        go_wp2_with fail
        go_at_call 23
        refine HADD.out.mono ?_
        rintro e w2 ⟨rfl, ⟨hne, _⟩ | ⟨_, av2, hI2, hT2, hF2⟩⟩
        · exact absurd rfl hne
        · have hI8 := HII.out.below HB8.out
          have hO2 := (HO.out.below HB8.out).touch hI8 HD.out hT2
          have h82 := touch_block hI8 hT2 H8.out (by intro cs e; simp at e) (by intro es n e; cases e) (by intro cs fz e; simp at e)
          have hw2 := touch_below hI8 (HW.out.trans (HB8.out.mono hsz)) (Nat.le_trans hsz HB8.out.size) hT2
          have hA2 : Apart (.slice hoa n hcap) av2 := fun q e e2 => by
            rcases hF2 q e2 with h1 | h1
            · exact HD.out q e h1
            · have := own_lt HO.out e
              rw [World.size_alloc] at h1
              omega
          have e0 : w2.cell? ⟨wr.heap.size, 0, none⟩ = some (.string sy) := cell_block h82 rfl
          have e1 : w2.cell? ⟨wr.heap.size, 1, none⟩ = some (.int .u32 (p.toNat : Int)) := cell_block h82 rfl
          have e2 : w2.cell? ⟨wr.heap.size, 2, none⟩ = some (.int .u32 (m.toNat : Int)) := cell_block h82 rfl
          have HI2 := Lib.hid hI2; have HO2 := Lib.hid hO2; have HA2 := Lib.hid hA2; have HW2 := Lib.hid hw2
          have hz2 := hw2.size
          clear hI2 hT2 hF2 hI8 hO2 h82 hA2 hw2 HADD
          go_wp2_with (at_builtin; refine wpList_appN2 rfl (.tmp 32) (.tmp 38) rfl w.heap.size w2.heap.size _ (grw [] (l.take k)) sy p m rfl rfl (World.alloc_heap_new w2 _) (HO2.out.below ((Below.refl _ w2).alloc (Nat.le_refl _) _)) (by have := HGL.out; omega) (by rw [World.size_alloc]; omega) ?_; intro g3 c3 n3 w3 ho3 hg3 hn3 hl3; have HO3 := Lib.hid ho3; have HG3 := Lib.hid hg3; have HN3 := Lib.hid hn3; clear ho3 hg3 hn3 hl3)
          have hba := (Below.refl w2.heap.size w2).alloc (Nat.le_refl _) (.cells #[.string sy, .int .u32 (p.toNat : Int), .int .u32 (m.toNat : Int)] 47)
          have hIa := HI2.out.below hba
          have hI3 := hIa.beside (HO2.out.below hba) HA2.out HG3.out
          have hA3 : Apart (.slice (some ⟨g3, 0, none⟩) n3 c3) av2 := fun q e e2 => by
            simp only [Value.ownBlock, Option.some.injEq] at e
            subst e
            rcases HN3.out with h1 | h1
            · exact HA2.out _ h1 e2
            · have := own_lt HI2.out.added e2
              rw [World.size_alloc] at h1
              omega
          have hw3 := (HW2.out.trans (hba.mono hz2)).grown HG3.out (by rw [World.size_alloc]; omega) (fun q e => by
            obtain ⟨_, ⟨hv, _⟩ | ⟨g, _, _, hv, hg, _⟩⟩ := HO2.out
            · rw [hv] at e; cases e
            · rw [hv] at e
              have e3 : some g = some q := e
              have e4 := Option.some.inj e3
              omega)
          have HI3 := Lib.hid hI3; have HA3 := Lib.hid hA3; have HW3 := Lib.hid hw3
          clear hI3 hA3 hw3 hIa hba HI2 HO2 HA2 HG3 HN3 e0 e1 e2
          go_roundw
          case rel => exact ⟨k + 1, av2, by omega, by go_num, by rw [HSN.out]; exact HI3.out, by rw [HSN.out]; exact HO3.out, HA3.out, HW3.out⟩
          case measure => simp [intOf]; omega
      · have h0b : (E == 0) = false := by rw [Bool.eq_false_iff]; intro e; exact h0 (beq_iff_eq.1 e)
        have HSN := Lib.hid (HSN.out.trans (if_neg h0))
        have H0 := Lib.hid h0
        clear h0 hE
        go_wp2_with fail
        go_at_call 23
        refine HADD.out.mono ?_
        rintro e w2 ⟨rfl, ⟨_, hb2⟩ | ⟨h00, _⟩⟩
        · have hbb := HB8.out.trans (hb2.mono HB8.out.size)
          have HI2 := Lib.hid (HII.out.below hbb); have HO2 := Lib.hid (HO.out.below hbb); have HW2 := Lib.hid (HW.out.trans (hbb.mono hsz))
          clear hb2 hbb HADD
          go_wp2_with fail
          go_roundw
          case rel => exact ⟨k + 1, av, by omega, by go_num, by rw [HSN.out]; exact HI2.out, by rw [HSN.out]; exact HO2.out, HD.out, HW2.out⟩
          case measure => simp [intOf]; omega
        · exact absurd h00 H0.out
    · obtain rfl : k = N := by omega
      clear hw
      have HP : Hid (Inv wr w.heap.size B (nmL 24) (grw [] (l.take 300)) nv av bf bs by_ ∧ OwnN wr w.heap.size (.slice hoa n hcap) (grw [] (l.take 300))) := Lib.hid (by rw [HT.out]; exact ⟨HII.out, HO.out⟩)
      go_wp2_with fail
      go_ret2
      exact ⟨B, nv, av, bf, bs, by_, _, rfl, HP.out.1, HP.out.2, HD.out, HW.out⟩
end Go.Proofs.Ytmgikhldkebjbaa
