/-
  New: the inventory, or the error.
-/
import Derived.Test.YtmgikhldkebjbaaIe
import Derived.Test.YtmgikhldkebjbaaIc
namespace Go.Proofs.Ytmgikhldkebjbaa
open Go.RowKit Go.Sort
/-- The numbers of the first k names. -/
def numT (l : List ByteArray) : Nat → List (ByteArray × Value)
  | 0 => []
  | k + 1 => if h : k < l.length then put l[k] (.int .i64 (k : Int)) (numT l k) else numT l k
theorem numT_succ {l : List ByteArray} {k : Nat} (h : k < l.length) : numT l (k + 1) = put l[k] (.int .i64 (k : Int)) (numT l k) := by simp [numT, h]
/-- The error of New. -/
def newE (l : List ByteArray) : Int := if 24 < l.length then 12 else if l.all isFeat then (if (numT l l.length).length < l.length then 6 else 0) else 15
/-- An inventory to which nothing was added. -/
def InvNew (w : World) (base B : Nat) (l : List ByteArray) : Prop := ∃ nv bf bs by_, w.heap[B]? = some (.cells #[.pointer (some ⟨B, 0, none⟩), nv, .map (some bf), .slice none 0 0, .map (some bs), .map (some by_)] 59 (0, 0)) ∧
  OwnS w base nv l ∧ SMap w bf (numT l l.length) ∧ SMap w bs [] ∧ w.heap[by_]? = some (.map #[] 0) ∧ base ≤ bf ∧ base ≤ bs ∧ base ≤ by_ ∧ base ≤ B ∧ bf ≠ bs ∧ bs ≠ by_ ∧ bf ≠ by_
theorem OwnS.below {w w' : World} {base : Nat} {v : Value} {l : List ByteArray} (h : OwnS w base v l) (hb : Below w.heap.size w w') : OwnS w' base v l := by
  obtain ⟨hl, h0 | ⟨g, cap, cur, hv, hg, hh, hr⟩⟩ := h
  · exact ⟨hl, .inl h0⟩
  · exact ⟨hl, .inr ⟨g, cap, cur, hv, hg, (hb.block g (Array.getElem?_eq_some_iff.1 hh).1).trans hh, hr⟩⟩
theorem OwnS.mono {w : World} {base base' : Nat} {v : Value} {l : List ByteArray} (h : OwnS w base v l) (hb : base' ≤ base) : OwnS w base' v l := by
  obtain ⟨hl, h0 | ⟨g, cap, cur, hv, hg, hh, hr⟩⟩ := h
  · exact ⟨hl, .inl h0⟩
  · exact ⟨hl, .inr ⟨g, cap, cur, hv, by omega, hh, hr⟩⟩
theorem inv_made {w2 : World} {base bm : Nat} {v : Value} {l : List ByteArray} (ho : OwnS w2 base v l) (hs : SMap w2 bm (numT l l.length)) (h1 : base ≤ bm) (h2 : base ≤ w2.heap.size) :
    InvNew (((w2.alloc (.map #[] 0)).alloc (.map #[] 0)).alloc (.cells #[.pointer (some ⟨w2.heap.size + 1 + 1, 0, none⟩), v, .map (some bm), .slice none 0 0, .map (some w2.heap.size), .map (some (w2.heap.size + 1))] 59)) base (w2.heap.size + 1 + 1) l := by
  have hb : Below w2.heap.size w2 (((w2.alloc (.map #[] 0)).alloc (.map #[] 0)).alloc (.cells #[.pointer (some ⟨w2.heap.size + 1 + 1, 0, none⟩), v, .map (some bm), .slice none 0 0, .map (some w2.heap.size), .map (some (w2.heap.size + 1))] 59)) := by
    have h := Below.refl w2.heap.size w2
    have h := h.alloc h.size (.map #[] 0)
    have h := h.alloc h.size (.map #[] 0)
    exact h.alloc h.size _
  have hlt := hs.lt
  refine ⟨v, bm, w2.heap.size, w2.heap.size + 1, ?_, ho.below hb, hs.below hb, ?_, ?_, h1, h2, by omega, by omega, by omega, by omega, by omega⟩
  · have := World.alloc_heap_new ((w2.alloc (.map #[] 0)).alloc (.map #[] 0)) (.cells #[.pointer (some ⟨w2.heap.size + 1 + 1, 0, none⟩), v, .map (some bm), .slice none 0 0, .map (some w2.heap.size), .map (some (w2.heap.size + 1))] 59)
    simp only [World.size_alloc] at this
    exact this
  · exact ((SMap.new w2).below ((Below.refl _ _).alloc (Nat.le_refl _) _)).below ((Below.refl _ _).alloc (Nat.le_refl _) _)
  · have e := World.alloc_heap_new (w2.alloc (.map #[] 0)) (.map #[] 0)
    rw [World.size_alloc] at e
    exact (Below.heap_alloc _ _ _ (by simp only [World.size_alloc]; omega)).trans e
theorem made_any (n f a s y : Value) (w : World) : Calls Try.prog 62 #[.agg #[.pointer none, n, f, a, s, y]] w fun e w' => e = .returned (.pointer (some ⟨w.heap.size, 0, none⟩)) ∧ w.alloc (.cells #[.pointer (some ⟨w.heap.size, 0, none⟩), n, f, a, s, y] 59) = w' := by
  go_enter Try.func62, Try.ntmps62
  go_wp2
  go_returns
  exact ⟨rfl, rfl⟩
theorem all_upto {l : List ByteArray} {p : ByteArray → Bool} (h : ∀ j (hj : j < l.length), j < l.length → p l[j] = true) : l.all p = true := List.all_eq_true.2 fun x hx => by
  obtain ⟨i, hi, rfl⟩ := List.mem_iff_getElem.1 hx
  exact h i hi hi
theorem all_no {l : List ByteArray} {p : ByteArray → Bool} {k : Nat} (hk : k < l.length) (h : p l[k] = false) : l.all p = false := List.all_eq_false.2 ⟨_, List.getElem_mem hk, by simp [h]⟩
set_option maxRecDepth 100000 in
set_option maxHeartbeats 8000000 in
theorem new_any (l : List ByteArray) (v : Value) (w : World) (hx : ∀ x ∈ l, x.size ≤ 9223372036854775807) (h : Ss w v l) : Calls Try.prog 42 #[v] w fun e w' => Below w.heap.size w w' ∧ ((newE l ≠ 0 ∧ e = .returned (.tuple #[.pointer none, .int .i64 (newE l)])) ∨ (newE l = 0 ∧ ∃ B, e = .returned (.tuple #[.pointer (some ⟨B, 0, none⟩), .int .i64 0]) ∧ InvNew w' w.heap.size B l)) := by
  have hmm := @run_makeMap Try.prog
  have DL := Lib.hid h
  obtain ⟨ao, cap, rfl, c1, m1, H1⟩ := h.open
  have HX := Lib.hid hx
  clear h hx
  have H1 := Lib.hid H1
  have l1 : l.length ≤ 9223372036854775807 := Nat.le_trans c1 m1
  clear c1 m1
  obtain ⟨n, hn⟩ : ∃ n, l.length = n := ⟨_, rfl⟩
  have HN := Lib.hid hn
  have DL : Hid (Ss w (.slice ao n cap) l) := Lib.hid (by rw [← hn]; exact DL.out)
  have hE : newE l = if 24 < n then 12 else if l.all isFeat then (if (numT l n).length < n then 6 else 0) else 15 := by rw [newE, hn]
  rw [hn] at l1 ⊢
  generalize hEE : newE l = E at *
  have HE := Lib.hid hE
  clear hn hE hEE
  by_cases h24 : n ≤ 24
  · go_enter Try.func42, Try.ntmps42
    go_wp2_with fail
    go_loopw [13] (fun i wr => ∃ k : Nat, k ≤ n ∧ i = .int .i64 (k : Int) ∧ (∀ j (hj : j < l.length), j < k → isFeat l[j] = true) ∧ SMap wr w.heap.size (numT l k) ∧ Below w.heap.size w wr) (fun i _ => n - (intOf i).toNat)
    case atStart => exact ⟨0, by omega, rfl, fun j _ hj => by omega, SMap.new w, (Below.refl _ w).alloc (Nat.le_refl _) _⟩
    case round =>
      obtain ⟨k, hk, rfl, hall, hs, hw⟩ := hrel
      have HALL := Lib.hid hall; have HS := Lib.hid hs
      have hsz := hs.lt
      clear hall hs
      by_cases hlt : k < n
      · have hkl : k < l.length := by rw [HN.out]; exact hlt
        obtain ⟨b, off, rfl, lb, d0⟩ := H1.out k hkl
        have d0 := (hw.cell (p := ⟨b, off + k, none⟩) lb).trans d0
        have hF := isFeatName_any l[k] (HX.out _ (List.getElem_mem hkl)) wr
        have hT := numT_succ hkl
        have hmore : isFeat l[k] = true → ∀ j (hj : j < l.length), j < k + 1 → isFeat l[j] = true := fun h j hj hjk => by
          by_cases e : j = k
          · subst e; exact h
          · exact HALL.out j hj (by omega)
        have hno := fun h => all_no (p := isFeat) hkl h
        have HT := Lib.hid hT; have HM := Lib.hid hmore; have HNO := Lib.hid hno
        clear hT hmore hno H1
        generalize l[k] = x at *
        rcases hf : isFeat x with _ | _
        · rw [hf] at hF
          have HF := Lib.hid hF
          have he := HE.out
          rw [if_neg (by omega), HNO.out hf] at he
          have HE15 := Lib.hid (show E = 15 from he)
          clear hF hf he HM HNO
          go_wp2_with (go_at_call 68; (with_reducible refine Gives.then HF.out ?_); intro w1 hb; have hw := hw.trans (hb.mono hw.size); clear hb)
          go_ret2
          exact ⟨hw, .inl ⟨by rw [HE15.out]; decide, by rw [HE15.out]; rfl⟩⟩
        · rw [hf] at hF
          have HF := Lib.hid hF
          have HM := Lib.hid (HM.out hf)
          clear hF hf HNO
          go_wp2_with (first
            | (go_at_call 68; (with_reducible refine Gives.then HF.out ?_); intro w1 hb; have hw := hw.trans (hb.mono hw.size); have HS := Lib.hid (HS.out.below hb); clear hb)
            | (at_mapUpdate; refine wpList_update_s rfl (.tmp 21) (.tmp 22) (.tmp 23) 55 rfl Try.underlying55 Try.underlying9 w.heap.size (numT l k) x (.int .i64 (k : Int)) rfl rfl rfl HS.out ?_; intro w2 hs2 hg2; have HS2 := Lib.hid hs2; have HW2 := Lib.hid (hw.grown hg2 hw.size (fun j e => by cases e; exact Nat.le_refl _)); clear hs2 hg2))
          go_roundw
          case rel => exact ⟨k + 1, by omega, by go_num, HM.out, by rw [HT.out]; exact HS2.out, HW2.out⟩
          case measure => simp [intOf]; omega
      · obtain rfl : k = n := by omega
        have hA : l.all isFeat = true := all_upto fun j hj hj2 => HALL.out j hj (by rw [← HN.out]; exact hj)
        have he := HE.out
        rw [if_neg (by omega), if_pos hA] at he
        by_cases hd : (numT l k).length < k
        · rw [if_pos hd] at he
          have HE6 := Lib.hid he
          have e1 : decide (((numT l k).length : Int) < (k : Int)) = true := decide_eq_true (by omega)
          have e2 : decide ((numT l k).length < k) = true := decide_eq_true hd
          clear he H1 HALL hA
          go_wp2_with (at_len; refine wpList_len_s rfl (.tmp 25) 55 rfl Try.underlying55 w.heap.size (numT l k) rfl HS.out ?_)
          go_ret2
          exact ⟨hw, .inl ⟨by rw [HE6.out]; decide, by rw [HE6.out]; rfl⟩⟩
        · rw [if_neg hd] at he
          have HE0 := Lib.hid he
          have e1 : decide (((numT l k).length : Int) < (k : Int)) = false := decide_eq_false (by omega)
          have e2 : decide ((numT l k).length < k) = false := decide_eq_false hd
          have hcl := cloneS_any l _ wr (by rw [HN.out]; omega) (DL.out.below hw)
          have HCL := Lib.hid hcl
          have hw' := Lib.hid hw
          have hsz' := hw.size
          clear he H1 HALL hA hcl hw
          go_wp2_with (at_len; refine wpList_len_s rfl (.tmp 25) 55 rfl Try.underlying55 w.heap.size (numT l k) rfl HS.out ?_)
          go_at_call 15
          refine HCL.out.mono ?_
          rintro e w2 ⟨v2, rfl, ho2, hb2⟩
          have hw2 := hw'.out.trans (hb2.mono hsz')
          have HS2 := Lib.hid (HS.out.below hb2)
          have HO2 := Lib.hid (ho2.mono hsz')
          obtain ⟨a2, c2, rfl, -, -, -⟩ := ho2.ss.open
          have HW2 := Lib.hid hw2
          clear ho2 hb2 hw2
          go_wp2_with fail
          go_at_call 62
          refine (made_any _ _ _ _ _ _).mono ?_
          rintro e w3 ⟨rfl, rfl⟩
          go_wp2_with fail
          go_ret2
          have hB := (((HW2.out.alloc HW2.out.size (.map #[] 0)).alloc (HW2.out.alloc HW2.out.size (.map #[] 0)).size (.map #[] 0)))
          refine ⟨hB.alloc hB.size _, .inr ⟨HE0.out, w2.heap.size + 1 + 1, ?_, ?_⟩⟩
          · rfl
          · have hs3 := HS2.out
            rw [← HN.out] at hs3
            exact inv_made HO2.out hs3 (Nat.le_refl _) HW2.out.size
  · have he := HE.out
    rw [if_pos (by omega)] at he
    have HE12 := Lib.hid he
    clear he
    have hw := Below.refl w.heap.size w
    go_enter Try.func42, Try.ntmps42
    go_wp2_with fail
    go_ret2
    exact ⟨hw, .inl ⟨by rw [HE12.out]; decide, by rw [HE12.out]; rfl⟩⟩
end Go.Proofs.Ytmgikhldkebjbaa
