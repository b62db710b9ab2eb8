/-
  The specification's New: the walk.
-/
import Derived.Test.YtmgikhldkebjbaaGd
namespace Go.Proofs.Ytmgikhldkebjbaa
open Go.RowKit Go.Sort
theorem rnew_made {w2 : World} {base : Nat} {v : Value} {l : List ByteArray} (ho : OwnS w2 base v l) (h2 : base ≤ w2.heap.size) :
    RNew (w2.alloc (.cells #[.bool true, v, .slice none 0 0] 85)) base w2.heap.size l :=
  ⟨v, World.alloc_heap_new w2 _, ho.below ((Below.refl _ w2).alloc (Nat.le_refl _) _), h2⟩
set_option maxRecDepth 100000 in
set_option maxHeartbeats 8000000 in
theorem rnew_any (l : List ByteArray) (v : Value) (w : World) (hx : ∀ x ∈ l, x.size ≤ 9223372036854775807) (h : Ss w v l) : Calls Try.prog 43 #[v] w fun e w' => Below w.heap.size w w' ∧ ((newE l ≠ 0 ∧ e = .returned (.tuple #[.pointer none, .int .i64 (newE l)])) ∨ (newE l = 0 ∧ ∃ R, e = .returned (.tuple #[.pointer (some ⟨R, 0, none⟩), .int .i64 0]) ∧ RNew w' w.heap.size R l)) := by
  have DL := Lib.hid h
  obtain ⟨ao, cap, rfl, c1, m1, H1⟩ := h.open
  have HX := Lib.hid hx
  clear h hx
  have H1 := Lib.hid H1
  have l1 : l.length ≤ 9223372036854775807 := Nat.le_trans c1 m1
  clear c1 m1
  obtain ⟨n, hn⟩ : ∃ n, l.length = n := ⟨_, rfl⟩
  have HN := Lib.hid hn
  have DL : Hid (Ss w (.slice ao n cap) l) := Lib.hid (by rw [← hn]; exact DL.out)
  have hE12 : 24 < n → newE l = 12 := fun h => by rw [newE, hn, if_pos h]
  have hE15 : n ≤ 24 → l.all isFeat = false → newE l = 15 := fun h1 h2 => newE_name (by omega) h2
  have hE6 : n ≤ 24 → l.all isFeat = true → Dup l n → newE l = 6 := fun h1 h2 h3 => newE_dup (by omega) h2 (by rw [hn]; exact h3)
  have hE0 : n ≤ 24 → l.all isFeat = true → ¬ Dup l n → newE l = 0 := fun h1 h2 h3 => newE_ok (by omega) h2 (by rw [hn]; exact h3)
  rw [hn] at l1 ⊢
  generalize newE l = E at *
  have HE12 := Lib.hid hE12; have HE15 := Lib.hid hE15; have HE6 := Lib.hid hE6; have HE0 := Lib.hid hE0
  clear hn hE12 hE15 hE6 hE0
  by_cases h24 : n ≤ 24
  · go_enter Try.func43, Try.ntmps43
    go_wp2_with fail
    go_loopw [4] (fun i wr => ∃ k : Nat, k ≤ n ∧ i = .int .i64 (k : Int) ∧ (∀ j (hj : j < l.length), j < k → isFeat l[j] = true) ∧ Below w.heap.size w wr) (fun i _ => n - (intOf i).toNat)
    case atStart => exact ⟨0, by omega, rfl, fun j _ hj => by omega, Below.refl _ _⟩
    case round =>
      obtain ⟨k, hk, rfl, hall, hw⟩ := hrel
      have HALL := Lib.hid hall
      clear hall
      by_cases hlt : k < n
      · have hkl : k < l.length := by rw [HN.out]; exact hlt
        obtain ⟨b, off, rfl, lb, d0⟩ := H1.out k hkl
        have d0 := (hw.cell (p := ⟨b, off + k, none⟩) lb).trans d0
        have hF := rIsFeat_any l[k] (HX.out _ (List.getElem_mem hkl)) wr
        have hmore : isFeat l[k] = true → ∀ j (hj : j < l.length), j < k + 1 → isFeat l[j] = true := fun h j hj hjk => by
          by_cases e : j = k
          · subst e; exact h
          · exact HALL.out j hj (by omega)
        have hno := fun h => all_no (p := isFeat) hkl h
        have HM := Lib.hid hmore; have HNO := Lib.hid hno
        clear hmore hno H1
        generalize l[k] = x at *
        rcases hf : isFeat x with _ | _
        · rw [hf] at hF
          have HF := Lib.hid hF
          have he := HE15.out h24 (HNO.out hf)
          have HE := Lib.hid he
          clear hF hf he HM HNO
          go_wp2_with (go_at_call 69; (with_reducible refine Gives.then HF.out ?_); intro w1 hb; have hw := hw.trans (hb.mono hw.size); clear hb)
          go_ret2
          exact ⟨hw, .inl ⟨by rw [HE.out]; decide, by rw [HE.out]; rfl⟩⟩
        · rw [hf] at hF
          have HF := Lib.hid hF
          have HM := Lib.hid (HM.out hf)
          clear hF hf HNO
          go_wp2_with (go_at_call 69; (with_reducible refine Gives.then HF.out ?_); intro w1 hb; have hw := hw.trans (hb.mono hw.size); clear hb)
          go_roundw
          case rel => exact ⟨k + 1, by omega, by go_num, HM.out, hw⟩
          case measure => simp [intOf]; omega
      · obtain rfl : k = n := by omega
        have hA : l.all isFeat = true := all_upto fun j hj hj2 => HALL.out j hj (by rw [← HN.out]; exact hj)
        have HA := Lib.hid hA
        have HW := Lib.hid hw
        clear hA HALL hw hlt
        go_wp2_with fail
        go_loopw [5] (fun i w2 => ∃ k2 : Nat, k2 ≤ k ∧ i = .int .i64 (k2 : Int) ∧ (∀ i j, j < i → i < k2 → ¬ ∃ x, l[i]? = some x ∧ l[j]? = some x) ∧ Below w.heap.size w w2) (fun i _ => k - (intOf i).toNat)
        case atStart => exact ⟨0, by omega, rfl, fun i j _ hi => by omega, HW.out⟩
        case round =>
          obtain ⟨q, hq, rfl, hnd, hw⟩ := hrel
          have HND := Lib.hid hnd
          clear hnd
          by_cases hlt : q < k
          · go_wp2_with fail
            go_loopw [6] (fun i w3 => ∃ k3 : Nat, k3 ≤ q ∧ i = .int .i64 (k3 : Int) ∧ (∀ j, j < k3 → ¬ ∃ x, l[q]? = some x ∧ l[j]? = some x) ∧ Below w.heap.size w w3) (fun i _ => q - (intOf i).toNat)
            case atStart => exact ⟨0, by omega, rfl, fun j hj => by omega, hw⟩
            case round =>
              obtain ⟨r, hr, rfl, hnd2, hw⟩ := hrel
              have HND2 := Lib.hid hnd2
              clear hnd2
              by_cases hlt2 : r < q
              · have hql : q < l.length := by rw [HN.out]; exact hlt
                have hrl : r < l.length := by omega
                obtain ⟨b, off, hao, lb, d0⟩ := H1.out q hql
                obtain ⟨b', off', hao', lb', d1⟩ := H1.out r hrl
                subst hao
                cases hao'
                have d0 := (hw.cell (p := ⟨b, off + q, none⟩) lb).trans d0
                have d1 := (hw.cell (p := ⟨b, off + r, none⟩) lb).trans d1
                have hsame : l[q] = l[r] → Dup l k := fun e => ⟨q, r, hlt2, hlt, l[q], List.getElem?_eq_getElem hql, by rw [e]; exact List.getElem?_eq_getElem hrl⟩
                have hdiff : ¬ l[q] = l[r] → ∀ j, j < r + 1 → ¬ ∃ x, l[q]? = some x ∧ l[j]? = some x := fun e j hj => by
                  by_cases h2 : j = r
                  · subst h2
                    rintro ⟨x, e1, e2⟩
                    rw [List.getElem?_eq_getElem hql, Option.some.injEq] at e1
                    rw [List.getElem?_eq_getElem hrl, Option.some.injEq] at e2
                    exact e (e1.trans e2.symm)
                  · exact HND2.out j (by omega)
                have HSM := Lib.hid hsame; have HDF := Lib.hid hdiff
                have HW3 := Lib.hid hw
                clear hsame hdiff H1 DL HND2 hw
                generalize l[q] = x at *
                generalize l[r] = y at *
                by_cases hxy : x = y
                · have HE := Lib.hid (HE6.out h24 HA.out (HSM.out hxy))
                  subst hxy
                  clear HSM HDF
                  go_wp2_with fail
                  go_quiet (fail)
                  have HW4 := Lib.hid (below_drewN HW3.out nq)
                  clear HW3 d0 d1
                  generalize wr.drewN nq = wd at *
                  go_wp2_with fail
                  go_ret2
                  exact ⟨HW4.out, .inl ⟨by rw [HE.out]; decide, by rw [HE.out]; rfl⟩⟩
                · have HD := Lib.hid (HDF.out hxy)
                  have e1 : (x == y) = false := by rw [beq_bytes]; exact decide_eq_false hxy
                  have e2 : (x.toList == y.toList) = false := by rw [toList_beq]; exact decide_eq_false hxy
                  clear HSM HDF hxy
                  go_wp2_with fail
                  go_quiet (fail)
                  have HW4 := Lib.hid (below_drewN HW3.out nq)
                  clear HW3 d0 d1
                  generalize wr.drewN nq = wd at *
                  go_wp2_with fail
                  go_roundw
                  case rel => exact ⟨r + 1, by omega, by go_num, HD.out, HW4.out⟩
                  case measure => simp [intOf]; omega
              · obtain rfl : r = q := by omega
                go_wp2_with fail
                go_roundw
                case rel => exact ⟨r + 1, by omega, by go_num, fun i j hj hi => by
                  by_cases e : i = r
                  · subst e; exact HND2.out j hj
                  · exact HND.out i j hj (by omega), hw⟩
                case measure => simp [intOf]; omega
          · obtain rfl : q = k := by omega
            have HE := Lib.hid (HE0.out h24 HA.out (fun ⟨i, j, h1, h2, h3⟩ => HND.out i j h1 h2 h3))
            have HW5 := Lib.hid hw
            have hsz := hw.size
            have HO := Lib.hid ((OwnS.empty wr).mono hsz)
            have HD5 := Lib.hid (DL.out.below (hw.alloc hsz (.cells #[] 9)))
            have hlq : l.length ≤ 24 := by have := HN.out; omega
            clear HND hlt hw DL H1
            go_wp2_with (at_builtin; refine wpList_appS rfl (.tmp 42) (.tmp 43) rfl w.heap.size _ _ [] l rfl rfl HO.out HD5.out (by simp; omega) (by go_size) ?_; intro v' w2 ho2 hk2 hz2; have ho2 : OwnS w2 w.heap.size v' l := ho2; obtain ⟨a2, c2, hv2, -, -, -⟩ := ho2.ss.open; subst hv2; have HO2 := Lib.hid ho2; have HK2 := Lib.hid hk2; have hzz := hz2; clear ho2 hk2 hz2)
            go_ret2
            have hw6 := HK2.out _ _ (Nat.le_refl _) (HW5.out.alloc hsz (.cells #[] 9))
            exact ⟨hw6.alloc hw6.size _, .inr ⟨HE.out, w2.heap.size, rfl, rnew_made HO2.out hw6.size⟩⟩
  · have HE := Lib.hid (HE12.out (by omega))
    have hw := Below.refl w.heap.size w
    go_enter Try.func43, Try.ntmps43
    go_wp2_with fail
    go_ret2
    exact ⟨hw, .inl ⟨by rw [HE.out]; decide, by rw [HE.out]; rfl⟩⟩
end Go.Proofs.Ytmgikhldkebjbaa
