/-
  The specification's items of a text: the same items as the program's.
-/
import Derived.Test.YtmgikhldkebjbaaNc
namespace Go.Proofs.Ytmgikhldkebjbaa
open Go.RowKit Go.Shelf Go.Sort
theorem ib_at (c : UInt8) : ∀ (l : List UInt8) (n : Nat) (h : n < l.length), l[n] = c → (∀ j (hj : j < n), l[j]'(by omega) ≠ c) → Lib.indexByte l c = n
  | [], _, h, _, _ => by simp at h
  | b :: l, 0, _, e, _ => by
    have e : b = c := e
    simp [Lib.indexByte, e]
  | b :: l, n + 1, h, e, hn => by
    have ih := ib_at c l n (by simpa using h) (by simpa using e) (fun j hj => by have := hn (j + 1) (by omega); simpa using this)
    have hb : b ≠ c := hn 0 (by omega)
    simp only [Lib.indexByte, ih]
    rw [if_neg (by simpa using hb), if_neg (by rw [beq_iff_eq]; omega)]
    omega
theorem ib_no (c : UInt8) : ∀ (l : List UInt8), (∀ j (hj : j < l.length), l[j] ≠ c) → Lib.indexByte l c = -1
  | [], _ => rfl
  | b :: l, hn => by
    have ih := ib_no c l (fun j hj => by have := hn (j + 1) (by simpa using hj); simpa using this)
    have hb : b ≠ c := hn 0 (by simp)
    simp only [Lib.indexByte, ih]
    rw [if_neg (by simpa using hb), if_pos (by rfl)]
theorem ext_list (t : ByteArray) (a b : Nat) : (t.extract a b).data.toList = (t.data.toList.drop a).take (b - a) := by
  rw [ByteArray.data_extract, Array.toList_extract, List.extract_eq_take_drop]
theorem ext_get (t : ByteArray) (a j : Nat) (h : j < (t.extract a t.size).data.toList.length) (h2 : a + j < t.data.toList.length) : (t.extract a t.size).data.toList[j] = t.data.toList[a + j] := by
  simp only [ext_list, List.getElem_take, List.getElem_drop]
theorem ext_len (t : ByteArray) (a : Nat) : (t.extract a t.size).data.toList.length = t.size - a := by
  have e : t.data.toList.length = t.size := by rw [Array.length_toList]; rfl
  rw [ext_list, List.length_take, List.length_drop, e]
  omega
theorem len_list (t : ByteArray) : t.data.toList.length = t.size := by rw [Array.length_toList]; rfl
/-- A part ends at a space. -/
theorem todo_at (t : ByteArray) (a i : Nat) (h1 : a ≤ i) (h2 : i < t.size) (hs : t.data.toList[i]'(by rw [len_list]; exact h2) = 32) (hn : ∀ j (hj : j < t.data.toList.length), a ≤ j → j < i → t.data.toList[j] ≠ 32) :
    todo (t.extract a t.size) true = t.extract a i :: todo (t.extract (i + 1) t.size) true := by
  have hsp : spI (t.extract a t.size) = ((i - a : Nat) : Int) := by
    unfold spI
    refine ib_at 32 _ (i - a) (by rw [ext_len]; omega) ?_ (fun j hj => ?_)
    · rw [ext_get _ _ _ _ (by rw [len_list]; omega)]
      simp only [show a + (i - a) = i from by omega]
      exact hs
    · rw [ext_get _ _ _ _ (by rw [len_list]; omega)]
      exact hn (a + j) (by rw [len_list]; omega) (by omega) (by omega)
  have e0 : (0 : Int) ≤ spI (t.extract a t.size) := by omega
  have eA : cutA (t.extract a t.size) = t.extract a i := by
    unfold cutA
    rw [if_pos e0, hsp, Int.toNat_natCast]
    apply bytes_ext
    simp only [ext_list, List.drop_zero, List.take_take]
    congr 1
    omega
  have eB : cutB (t.extract a t.size) = t.extract (i + 1) t.size := by
    unfold cutB
    rw [if_pos e0, hsp, Int.toNat_natCast]
    apply bytes_ext
    have e2 : (t.extract a t.size).size = t.size - a := by rw [← ext_len, len_list]
    rw [e2]
    simp only [ext_list, List.drop_take, List.drop_drop, List.take_take]
    congr 1
    · omega
    · congr 1; omega
  have eC : cutC (t.extract a t.size) = true := decide_eq_true e0
  rw [todo_true, eA, eB, eC]
/-- The last part. -/
theorem todo_end (t : ByteArray) (a : Nat) (hn : ∀ j (hj : j < t.data.toList.length), a ≤ j → t.data.toList[j] ≠ 32) :
    todo (t.extract a t.size) true = [t.extract a t.size] := by
  have hsp : spI (t.extract a t.size) = -1 := by
    unfold spI
    refine ib_no 32 _ (fun j hj => ?_)
    rw [ext_len] at hj
    rw [ext_get _ _ _ _ (by rw [len_list]; omega)]
    exact hn (a + j) (by rw [len_list]; omega) (by omega)
  have e0 : ¬ (0 : Int) ≤ spI (t.extract a t.size) := by omega
  have eA : cutA (t.extract a t.size) = t.extract a t.size := by unfold cutA; rw [if_neg e0]
  have eC : cutC (t.extract a t.size) = false := decide_eq_false e0
  rw [todo_true, eA, eC, todo_false]
theorem todo_whole (t : ByteArray) : t.extract 0 t.size = t := by
  apply bytes_ext
  rw [ext_list, List.drop_zero, List.take_of_length_le (by rw [len_list]; omega)]
/-- Where the loop over the bytes is. -/
def ItR (t : ByteArray) (w : World) (v f i : Value) (wr : World) : Prop :=
  (∃ (D : List ByteArray) (a k : Nat), a ≤ k ∧ k ≤ t.size ∧ D.length ≤ k ∧ f = .int .i64 (a : Int) ∧ i = .int .i64 (k : Int) ∧ OwnS wr w.heap.size v D ∧ todo t true = D ++ todo (t.extract a t.size) true ∧ (∀ j (hj : j < t.data.toList.length), a ≤ j → j < k → t.data.toList[j] ≠ 32) ∧ Below w.heap.size w wr) ∨
  (i = .int .i64 ((t.size + 1 : Nat) : Int) ∧ OwnS wr w.heap.size v (todo t true) ∧ Below w.heap.size w wr)
set_option maxRecDepth 100000 in
set_option maxHeartbeats 4000000 in
theorem ritems_any (t : ByteArray) (ht : t.size ≤ 1000000000) (w : World) : GivesS 58 #[.string t] w (todo t true) := by
  unfold GivesS
  have hL := len_list t
  have HL := Lib.hid hL
  clear hL
  go_enter Try.func58, Try.ntmps58
  go_wp2_with fail
  go_loopw [3, 4, 5] (fun v f i wr => ItR t w v f i wr) (fun _ _ i _ => t.size + 1 - (intOf i).toNat)
  case atStart => exact .inl ⟨[], 0, 0, Nat.le_refl _, Nat.zero_le _, Nat.le_refl _, rfl, rfl, OwnS.nil _ _, by rw [todo_whole]; rfl, fun j hj h1 h2 => by omega, Below.refl _ _⟩
  case round =>
    rcases hrel with ⟨D, a, k, h1, h2, h3, rfl, rfl, ho, htd, hn, hw⟩ | ⟨rfl, ho, hw⟩
    · obtain ⟨av, cv, hv, -, -, -⟩ := ho.ss.open
      obtain ⟨N, hN⟩ : ∃ N, D.length = N := ⟨_, rfl⟩
      rw [hN] at hv h3
      subst hv
      have HN := Lib.hid hN; have HO := Lib.hid ho; have HT := Lib.hid htd; have HNO := Lib.hid hn; have HW := Lib.hid hw
      have hsz := hw.size
      clear hN ho htd hn hw
      by_cases hlt : k < t.size
      · have hkl : k < t.data.toList.length := by rw [HL.out]; exact hlt
        obtain ⟨c, hc⟩ : ∃ c, t.data.toList[k] = c := ⟨_, rfl⟩
        have hb : ∀ h, t[k]'h = c := by intro h; exact hc
        have g1 : ((k : Int) == (t.size : Int)) = false := int_ne (by omega)
        by_cases hsp : c = 32
        · have htd := todo_at t a k h1 hlt (by rw [hc]; exact hsp) HNO.out
          subst hsp
          have hD : todo t true = (D ++ [t.extract a k]) ++ todo (t.extract (k + 1) t.size) true := by rw [HT.out, htd]; simp
          have HD := Lib.hid hD
          clear htd hD hc
          go_wp2_with (at_builtin; refine wpList_appS rfl (.tmp 22) (.tmp 27) rfl w.heap.size _ _ D [t.extract a k] rfl rfl (HO.out.below ((Below.refl _ wr).alloc (Nat.le_refl _) _)) (ss_one wr _) (by have := HN.out; simp; omega) (by rw [World.size_alloc]; omega) ?_; intro v' w2 ho2 hk2 hz2; have HO2 := Lib.hid ho2; have HW2 := Lib.hid (hk2 _ _ (Nat.le_refl _) (HW.out.alloc hsz _)); clear ho2 hk2 hz2)
          go_roundw
          case rel => exact .inl ⟨D ++ [t.extract a k], k + 1, k + 1, Nat.le_refl _, by omega, by rw [List.length_append]; have := HN.out; simp; omega, by go_num, by go_num, HO2.out, HD.out, fun j hj h1 h2 => by omega, HW2.out⟩
          case measure => simp [intOf]; omega
        · have e1 : ((c.toNat : Int) == 32) = false := by
            rw [Bool.eq_false_iff]; intro e
            have := beq_iff_eq.1 e
            exact hsp (UInt8.toNat_inj.1 (by have e2 : (32 : UInt8).toNat = 32 := rfl; omega))
          have hno : ∀ j (hj : j < t.data.toList.length), a ≤ j → j < k + 1 → t.data.toList[j] ≠ 32 := fun j hj h1 h2 => by
            by_cases e : j = k
            · subst e; rw [hc]; exact hsp
            · exact HNO.out j hj h1 (by omega)
          have HNN := Lib.hid hno
          clear hno hc hsp
          go_wp2_with fail
          go_roundw
          case rel => exact .inl ⟨D, a, k + 1, by omega, by omega, by have := HN.out; omega, by go_num, by go_num, HO.out, HT.out, HNN.out, HW.out⟩
          case measure => simp [intOf]; omega
      · obtain rfl : k = t.size := by omega
        have htd := todo_end t a (fun j hj h => HNO.out j hj h (by have := HL.out; omega))
        have hD : todo t true = D ++ [t.extract a t.size] := by rw [HT.out, htd]
        have HD := Lib.hid hD
        clear htd hD
        go_wp2_with (at_builtin; refine wpList_appS rfl (.tmp 22) (.tmp 27) rfl w.heap.size _ _ D [t.extract a t.size] rfl rfl (HO.out.below ((Below.refl _ wr).alloc (Nat.le_refl _) _)) (ss_one wr _) (by have := HN.out; simp; omega) (by rw [World.size_alloc]; omega) ?_; intro v' w2 ho2 hk2 hz2; have HO2 := Lib.hid ho2; have HW2 := Lib.hid (hk2 _ _ (Nat.le_refl _) (HW.out.alloc hsz _)); clear ho2 hk2 hz2)
        go_roundw
        case rel => exact .inr ⟨by first | rfl | go_num, by rw [HD.out]; exact HO2.out, HW2.out⟩
        case measure => first | (simp [intOf]; omega) | simp [intOf]
    · obtain ⟨av, cv, hv, -, -, -⟩ := ho.ss.open
      have HO := Lib.hid ho
      clear ho
      go_wp2_with fail
      go_returns
      exact ⟨_, rfl, HO.out, hw⟩
end Go.Proofs.Ytmgikhldkebjbaa
