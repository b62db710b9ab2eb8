/-
  Lists of words: checkEach; slices.Grow of a nil slice, slices.Concat.
-/
import Derived.Test.YtfjngkdpembdcaaHf
import Derived.Lib.AppendZeros
namespace Go.Proofs.Ytfjngkdpembdcaa
open Go.RowKit Go.Sort
/-- A slice of words. -/
def Ws (w : World) (v : Value) (l : List (Value × List Snd)) : Prop :=
  (v = .slice none 0 0 ∧ l = []) ∨ ∃ b off cap, v = .slice (some ⟨b, off, none⟩) l.length cap ∧ l.length ≤ cap ∧ cap ≤ maxLen ∧ b < w.heap.size ∧ ∀ i (h : i < l.length), w.cell? ⟨b, off + i, none⟩ = some l[i].1 ∧ Wd w l[i].1 l[i].2
theorem Ws.below {w w' : World} {v : Value} {l : List (Value × List Snd)} (h : Ws w v l) (hb : Below w.heap.size w w') : Ws w' v l := by
  rcases h with h | ⟨b, off, cap, h1, hc, hm, h2, h3⟩
  · exact .inl h
  · exact .inr ⟨b, off, cap, h1, hc, hm, by have := hb.size; omega, fun i hi => ⟨(hb.cell (p := ⟨b, off + i, none⟩) h2).trans (h3 i hi).1, (h3 i hi).2.below hb⟩⟩
theorem Ws.open {w : World} {v : Value} {l : List (Value × List Snd)} (h : Ws w v l) : ∃ ao cap, v = .slice ao l.length cap ∧ l.length ≤ cap ∧ cap ≤ maxLen ∧ (∀ i (_ : i < l.length), ∃ b off, ao = some ⟨b, off, none⟩ ∧ b < w.heap.size ∧ w.cell? ⟨b, off + i, none⟩ = some l[i].1 ∧ Wd w l[i].1 l[i].2) := by
  rcases h with ⟨rfl, rfl⟩ | ⟨b, off, cap, rfl, hc, hm, hb, h3⟩
  · exact ⟨none, 0, rfl, by simp, by simp, fun i hi => by simp at hi⟩
  · exact ⟨some ⟨b, off, none⟩, cap, rfl, hc, hm, fun i hi => ⟨b, off, rfl, hb, h3 i hi⟩⟩
/-- The words of a list literal, in a block that was just laid. -/
theorem Ws.lit {w : World} (l : List (Value × List Snd)) (cs : Array Value) (t : TypeId) (hcs : cs.toList = l.map (·.1)) (hl : l.length ≤ 1000000) (h : ∀ x ∈ l, Wd w x.1 x.2) : Ws (w.alloc (.cells cs t)) (.slice (some ⟨w.heap.size, 0, none⟩) l.length l.length) l := by
  refine .inr ⟨w.heap.size, 0, l.length, rfl, Nat.le_refl _, Nat.le_trans hl (by decide), by rw [World.size_alloc]; omega, fun i hi => ⟨?_, (h _ (List.getElem_mem hi)).below ((Below.refl _ w).alloc (Nat.le_refl _) _)⟩⟩
  rw [Nat.zero_add]
  refine cell_block (World.alloc_heap_new w _) ?_
  rw [← Array.getElem?_toList, hcs, List.getElem?_map, List.getElem?_eq_getElem hi]; rfl
/-- The first error of Check. -/
def cke : List (Value × List Snd) → Int
  | [] => 0
  | x :: l => if chk x.2 = 0 then cke l else chk x.2
theorem cke_step {l : List (Value × List Snd)} {k : Nat} (h : k < l.length) : cke (l.drop k) = if chk l[k].2 = 0 then cke (l.drop (k + 1)) else chk l[k].2 := by
  rw [List.drop_eq_getElem_cons h]; rfl
set_option maxHeartbeats 2000000 in
theorem checkEach_any (l : List (Value × List Snd)) (v : Value) (w : World) (h : Ws w v l) : Gives 24 #[v] w (.int .i64 (cke l)) := by
  unfold Gives
  obtain ⟨ao, cap, rfl, c1, m1, H1⟩ := h.open
  have l1 := maxLen_lt (Nat.le_trans c1 m1)
  clear h c1 m1
  have H1 := Lib.hid H1
  go_enter Try.func24, Try.ntmps24
  go_wp2_with fail
  go_loopw [8] (fun i wr => ∃ k : Nat, k ≤ l.length ∧ i = .int .i64 (k : Int) ∧ cke l = cke (l.drop k) ∧ Below w.heap.size w wr ∧ w.heap.size ≤ wr.heap.size) (fun i _ => l.length - (intOf i).toNat)
  case atStart => exact ⟨0, by omega, rfl, by simp, by go_grown, by go_size⟩
  case round =>
    obtain ⟨k, hk, rfl, hp, hw, hsz⟩ := hrel
    by_cases hlt : k < l.length
    · obtain ⟨b, off, rfl, lb, d0, dw⟩ := H1.out k hlt
      have d0 := (hw.cell (p := ⟨b, off + k, none⟩) lb).trans d0
      have dw := (dw.below (hw.mono (Nat.le_refl _)))
      rw [cke_step hlt] at hp
      have HP := Lib.hid hp
      clear H1 hp
      generalize hx : l[k] = x at *
      obtain ⟨u, ss⟩ := x
      have HC := Lib.hid (check_any ss u wr dw)
      have HP := HP.out
      simp only at HP HC d0
      generalize chk ss = c at *
      by_cases hc : c = 0
      · rw [if_pos hc] at HP
        have HP := Lib.hid HP
        subst hc
        clear dw hx
        go_wp2_with fail
        go_at_call 11
        with_reducible refine Gives.then HC.out ?_
        intro w1 hb
        go_wp2_with fail
        have hw2 := hw.trans (hb.mono hsz)
        go_roundw
        case rel => exact ⟨k + 1, by omega, by go_num, HP.out, hw2, hw2.size⟩
        case measure => simp [intOf]; omega
      · rw [if_neg hc] at HP
        have HP := Lib.hid HP
        have hb1 : (c == 0) = false := by simpa using hc
        have hb2 : (c != 0) = true := by simpa using hc
        clear dw hx
        go_wp2_with fail
        go_at_call 11
        with_reducible refine Gives.then HC.out ?_
        intro w1 hb
        go_wp2_with fail
        go_returns
        exact ⟨ret_num HP.out.symm, hw.trans (hb.mono hsz)⟩
    · rw [List.drop_of_length_le (by omega)] at hp
      have HP := Lib.hid hp
      clear H1 hp
      go_wp2_with fail
      go_returns
      exact ⟨ret_num HP.out.symm, hw⟩
theorem zeroCells_size (cs : Array Value) (n : Nat) : (Builtin.zeroCells cs n).size = n * cs.size := by simp [Builtin.zeroCells]
set_option maxHeartbeats 2000000 in
theorem grow_any (n : Nat) (hn : n ≤ 1000000000000) (w : World) : Makes 48 #[.slice none 0 0, .int .i64 (n : Int)] w [] := by
  unfold Makes
  by_cases h0 : n = 0
  · subst h0
    clear hn
    go_enter Try.func48, Try.ntmps48
    go_wp2_with fail
    go_returns
    exact ⟨_, rfl, Own.nil _ _, by go_grown⟩
  · obtain ⟨i, hi, hz, hs1, hb1⟩ := info_parts infoSound
    have hrun := fun ty => Lib.run_append_nil_zeros (P := Try.prog) w 24 3 ty 32 i _ .i64 .i64 Try.underlying24 Try.underlying3 hi hz n (by omega) (by omega) (by omega) (by rw [hb1]; omega)
    have hge := grownCap_ge w n 0 32
    have hle := grownCap_le_maxLen w n 0 32 (Nat.le_trans hn (by decide))
    generalize grownCap w n 0 32 = G at *
    have hle' : G ≤ 9223372036854775807 := hle
    have HN := Lib.hid hn; have HR := Lib.hid hrun; have HL := Lib.hid hle
    have hn' : n < 9223372036854775807 := by omega
    clear hn hrun hle hi hz hs1 hb1
    go_enter Try.func48, Try.ntmps48
    go_wp2_with (at_builtin; refine Lib.wpList_append_run _ rfl _ _ _ _ rfl _ _ rfl rfl _ _ (HR.out _) ?_)
    go_returns
    refine ⟨_, rfl, ⟨rfl, .inr ⟨w.heap.size, G, _, rfl, Nat.le_refl _, World.alloc_heap_new w _, Nat.zero_le _, HL.out, ?_, rfl⟩⟩, by go_grown⟩
    rw [Array.size_append, zeroCells_size, zeroCells_size]
    show n * 2 + (G - n) * 2 = G * 2
    omega
/-- The sounds of the first k words, one word after the other. -/
def cat (l : List (Value × List Snd)) (k : Nat) : List Snd := ((l.take k).map (·.2)).flatten
theorem cat_step {l : List (Value × List Snd)} {k : Nat} (h : k < l.length) : cat l (k + 1) = cat l k ++ l[k].2 := by
  unfold cat
  rw [List.take_succ_eq_append_getElem h, List.map_append, List.flatten_append]; simp
theorem cat_mono {l : List (Value × List Snd)} {k : Nat} (h : k < l.length) : (cat l k).length + l[k].2.length ≤ (cat l l.length).length := by
  have e : l = l.take k ++ (l[k] :: l.drop (k + 1)) := by rw [← List.drop_eq_getElem_cons h, List.take_append_drop]
  have e2 := congrArg (fun z : List (Value × List Snd) => ((z.map (·.2)).flatten).length) e
  simp only [List.map_append, List.flatten_append, List.length_append, List.map_cons, List.flatten_cons] at e2
  unfold cat
  rw [List.take_length]
  omega
set_option maxHeartbeats 2000000 in
theorem concat_any (l : List (Value × List Snd)) (v : Value) (w : World) (hl : (cat l l.length).length ≤ 1000000000) (h : Ws w v l) : Makes 37 #[v] w (cat l l.length) := by
  unfold Makes
  obtain ⟨ao, cap, rfl, c1, m1, H1⟩ := h.open
  have l1 := maxLen_lt (Nat.le_trans c1 m1)
  clear h c1 m1
  have hs0 := fun k hk => cat_step (l := l) (k := k) hk
  have hs1 := fun k hk => cat_mono (l := l) (k := k) hk
  have hz : cat l 0 = [] := rfl
  generalize hC : cat l = C at *
  have H1 := Lib.hid H1; have HL := Lib.hid hl; have HS0 := Lib.hid hs0; have HS1 := Lib.hid hs1; have HZ := Lib.hid hz
  clear hl hs0 hs1 hz hC
  go_enter Try.func37, Try.ntmps37
  go_wp2_with fail
  go_loopw [11, 3] (fun i s wr => ∃ k : Nat, k ≤ l.length ∧ i = .int .i64 (k : Int) ∧ s = .int .i64 ((C k).length : Int) ∧ wr = w) (fun i _ _ => l.length - (intOf i).toNat)
  case atStart => exact ⟨0, by omega, rfl, by rw [HZ.out]; rfl, rfl⟩
  case round =>
    obtain ⟨k, hk, rfl, rfl, hww⟩ := hrel
    obtain rfl := hww.symm
    by_cases hlt : k < l.length
    · obtain ⟨b, off, rfl, lb, d0, dw⟩ := H1.out k hlt
      have e0 := HS0.out k hlt
      have e1 := HS1.out k hlt
      have e2 := HL.out
      generalize hx : l[k] = x at *
      obtain ⟨u, ss⟩ := x
      simp only at d0 dw e0 e1
      obtain ⟨ao, cap', rfl, -, -, -⟩ := dw.open
      have hlen : (C (k + 1)).length = (C k).length + ss.length := by rw [e0, List.length_append]
      have hsum : (C k).length + ss.length ≤ 1000000000 := by omega
      have HE := Lib.hid hlen
      clear dw e0 e1 e2 hx H1 hlen
      generalize (C k).length = T at *
      generalize ss.length = U at *
      go_wp2_with fail
      go_roundw
      case rel => exact ⟨k + 1, by omega, by go_num, by rw [HE.out]; go_num, trivial⟩
      case measure => simp [intOf]; omega
    · obtain rfl : k = l.length := by omega
      go_wp2_with fail
      go_at_call 48
      with_reducible refine Makes.then (grow_any _ (Nat.le_trans HL.out (by decide)) _) ?_
      intro v1 w1 ho1 hb1
      go_wp2_with fail
      clear hlt hk
      go_loopw [27, 6] (fun i s w2 => ∃ k : Nat, k ≤ l.length ∧ i = .int .i64 (k : Int) ∧ Own w2 w.heap.size s (C k) ∧ Below w.heap.size w w2 ∧ w.heap.size ≤ w2.heap.size) (fun i _ _ => l.length - (intOf i).toNat)
      case atStart => exact ⟨0, by omega, rfl, by rw [HZ.out]; exact ho1, hb1, hb1.size⟩
      case round =>
        obtain ⟨k, hk, rfl, ho, hw, hsz⟩ := hrel
        by_cases hlt : k < l.length
        · obtain ⟨b, off, rfl, lb, d0, dw⟩ := H1.out k hlt
          have d0 := (hw.cell (p := ⟨b, off + k, none⟩) lb).trans d0
          have dw := dw.below hw
          have e0 := HS0.out k hlt
          have e1 := HS1.out k hlt
          have e2 := HL.out
          generalize hx : l[k] = x at *
          obtain ⟨u, ss⟩ := x
          simp only at d0 dw e0 e1
          have HE := Lib.hid e0
          have hle : (C k).length + ss.length ≤ 1000000000000 := by omega
          have HLE := Lib.hid hle; have HO := Lib.hid ho; have HW := Lib.hid dw
          clear e0 e1 e2 hx H1 hle ho dw
          go_wp2_with (at_builtin; (refine wpList_app rfl (.tmp 31) (.tmp 32) 24 Try.underlying24 rfl w.heap.size _ _ _ _ rfl rfl HO.out HW.out HLE.out hsz ?_); intro v' w3 ho2 hk2 hz2)
          go_roundw
          case rel => exact ⟨k + 1, by omega, by go_num, by rw [HE.out]; exact ho2, hk2 _ _ (Nat.le_refl _) hw, by omega⟩
          case measure => simp [intOf]; omega
        · obtain rfl : k = l.length := by omega
          go_wp2_with fail
          go_returns
          exact ⟨_, rfl, ho, hw⟩
end Go.Proofs.Ytfjngkdpembdcaa
