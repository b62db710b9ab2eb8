/-
  InventoryLongest: the walk.
-/
import Derived.Test.YtmgikhldkebjbaaOd
namespace Go.Proofs.Ytmgikhldkebjbaa
open Go.RowKit Go.Sort
def txS : Value → Nat
  | .string s => s.size
  | _ => 0
theorem sound_is {w : World} {base B : Nat} {l : List ByteArray} {a : List (ByteArray × Snd)} {nv av : Value} {bf bs by_ : Nat} (h : Inv w base B l a nv av bf bs by_) (k : ByteArray) (ok : Bool) (hk : (sndOf a k).isSome = ok) : ∃ x y : Int, Gives 33 #[.pointer (some ⟨B, 0, none⟩), .string k] w (.tuple #[.agg #[.int .u32 x, .int .u32 y], .bool ok]) := by
  have h1 := sound_any h k
  rw [hk] at h1
  exact ⟨_, _, h1⟩
set_option maxRecDepth 100000 in
set_option maxHeartbeats 8000000 in
theorem longs_any (l : List (ByteArray × Snd)) (v : Value) (t : ByteArray) (w : World) (hx : ∀ x ∈ l, x.1.size ≤ maxLen) (ht : t.size ≤ 9223372036854775807) (h : Sp w v l) : Gives 10 #[v, .string t] w (.bool true) := by
  unfold Gives
  have hg := grown_any l v w hx h
  obtain ⟨ao, cap, rfl, -, -, -⟩ := h.open
  have HGr := Lib.hid hg
  clear hg h hx
  by_cases hlen : 300 < t.size
  · have g1 : decide (300 < t.size) = true := decide_eq_true hlen
    have g2 : decide ((300 : Int) < (t.size : Int)) = true := decide_eq_true (by omega)
    clear hlen
    go_enter Try.func10, Try.ntmps10
    go_wp2_with (go_at_call 14; refine Gives.then (works_any _) ?_; intro w1 hb)
    go_returns
    exact ⟨rfl, hb⟩
  · have g1 : decide (300 < t.size) = false := decide_eq_false hlen
    have g2 : decide ((300 : Int) < (t.size : Int)) = false := decide_eq_false (by omega)
    have ht3 : t.size ≤ 300 := by omega
    clear hlen
    go_enter Try.func10, Try.ntmps10
    go_wp2_with fail
    go_at_call 41
    refine HGr.out.mono ?_
    rintro e w1 ⟨B, nv, av, bf, bs, by_, hv, rfl, hI, hO, hD, hw1⟩
    have hsy := grw_sym (l.take 300) [] (fun x h => by cases h)
    have hgl := grw_len (l.take 300) [] (by decide)
    generalize grw [] (l.take 300) = a at *
    obtain ⟨hoa, hcap, rfl⟩ := hO.slice
    have hsp := hO.sp
    obtain ⟨_, _, hv2, _, hm2, hcells⟩ := hsp.open
    cases hv2
    unfold maxLen at hm2
    have l1 : a.length ≤ 9223372036854775807 := by omega
    have HI := Lib.hid hI; have HSY := Lib.hid hsy; have HW1 := Lib.hid hw1; have HCE := Lib.hid hcells
    clear hI hO hD hsy hw1 HGr hsp hcells hm2 g1 g2 ht
    go_wp2_with fail
    go_loopw [1] (fun tv wr => ∃ tx : ByteArray, tx.size ≤ 300 ∧ tv = .string tx ∧ Below w1.heap.size w1 wr) (fun tv _ => txS tv)
    case atStart => exact ⟨t, ht3, rfl, Below.refl _ _⟩
    case round =>
      obtain ⟨tx, htx, rfl, hw⟩ := hrel
      have htx2 : tx.size ≤ 9223372036854775807 := by omega
      have HW := Lib.hid hw
      clear hw
      by_cases hpos : 0 < tx.size
      · have g1 : decide (0 < tx.size) = true := decide_eq_true hpos
        have g2 : decide ((0 : Int) < (tx.size : Int)) = true := decide_eq_true (by omega)
        obtain ⟨x, ok, e1, e2, e3, e4, e5, e6, e7⟩ := lon_is HSY.out tx
        have hlo := fun (W : World) (hb : Below w1.heap.size w1 W) => longest_any (HI.out.below hb) tx htx2
        rw [e1, e2] at hlo
        have hso := fun (W : World) (hb : Below w1.heap.size w1 W) => sound_is (HI.out.below hb) x ok e3
        have hhp := fun W => hasP_any tx x htx2 (by omega) W
        rw [e6] at hhp
        have HLO := Lib.hid hlo; have HSO := Lib.hid hso; have HHP := Lib.hid hhp; have H4 := Lib.hid e4; have H7 := Lib.hid e7
        clear hlo hso hhp e1 e2 e3 e4 e6 e7
        go_wp2_with fail
        go_at_call 35
        refine Gives.then (HLO.out _ HW.out) ?_
        intro w2 hb2
        have HW2 := Lib.hid (HW.out.trans (hb2.mono HW.out.size))
        clear hb2
        go_wp2_with fail
        go_at_call 33
        obtain ⟨xs, ys, hsd⟩ := HSO.out _ HW2.out
        refine Gives.then hsd ?_
        intro w3 hb3
        have hz3 := hb3.size
        have HW3 := Lib.hid (HW2.out.trans ((hb3.alloc hz3 (.cells #[.int .u32 xs, .int .u32 ys] 39)).mono HW2.out.size))
        clear hb3 hsd
        cases ok
        · have e0 : x.toList.isEmpty = true := by rw [empty_toList]; exact decide_eq_true (H4.out rfl)
          go_wp2_with fail
          go_at_call 39
          refine Gives.then (HHP.out _) ?_
          intro w4 hb4
          have HW4 := Lib.hid (HW3.out.trans (hb4.mono HW3.out.size))
          clear hb4
          go_wp2_with fail
          go_loopw [60] (fun i w5 => ∃ q : Nat, q ≤ a.length ∧ i = .int .i64 (q : Int) ∧ Below w1.heap.size w1 w5) (fun i _ => a.length - (intOf i).toNat)
          case atStart => exact ⟨0, Nat.zero_le _, rfl, HW4.out⟩
          case round =>
            obtain ⟨q, hq, rfl, hw5⟩ := hrel
            by_cases hlt : q < a.length
            · obtain ⟨b, off, hao, lb, d0, d1, d2⟩ := HCE.out q hlt
              have d0 := (hw5.cell (p := ⟨b, _, none⟩) lb).trans d0
              have d1 := (hw5.cell (p := ⟨b, _, none⟩) lb).trans d1
              have d2 := (hw5.cell (p := ⟨b, _, none⟩) lb).trans d2
              have hysz := (isSym_size (HSY.out a[q] (List.getElem_mem hlt))).2
              have h7 := H7.out a[q] (List.getElem_mem hlt)
              have hhy := hasP_any tx a[q].1 htx2 (by omega)
              have hz5 := hw5.size
              have HW5 := Lib.hid (hw5.alloc hz5 (.cells #[.string a[q].1, .int .u32 (a[q].2.1.toNat : Int), .int .u32 (a[q].2.2.toNat : Int)] 47))
              subst hao
              clear HCE hw5
              generalize a[q] = y at *
              obtain ⟨sy, p, m⟩ := y
              simp only at d0 d1 d2 hysz h7 hhy HW5
              by_cases hxy : x.size < sy.size
              · have k1 : decide (x.size < sy.size) = true := decide_eq_true hxy
                have k2 : decide ((x.size : Int) < (sy.size : Int)) = true := decide_eq_true (by omega)
                rw [h7 hxy] at hhy
                have HHY := Lib.hid hhy
                clear hhy h7 hxy
                go_wp2_with (go_at_call 39; refine Gives.then (HHY.out _) ?_; intro w6 hb6; have HW6 := Lib.hid (HW5.out.trans (hb6.mono HW5.out.size)); clear hb6)
                go_roundw
                case rel => exact ⟨q + 1, by omega, by go_num, HW6.out⟩
                case measure => simp [intOf]; omega
              · have k1 : decide (x.size < sy.size) = false := decide_eq_false hxy
                have k2 : decide ((x.size : Int) < (sy.size : Int)) = false := decide_eq_false (by omega)
                clear hhy h7 hxy
                go_wp2_with fail
                go_roundw
                case rel => exact ⟨q + 1, by omega, by go_num, HW5.out⟩
                case measure => simp [intOf]; omega
            · obtain rfl : q = a.length := by omega
              have HW5 := Lib.hid hw5
              obtain ⟨M, hM⟩ : ∃ M, max 1 x.size = M := ⟨_, rfl⟩
              have hM2 : max (1 : Int) (x.size : Int) = (M : Int) := by omega
              have hM3 : M ≤ tx.size := by omega
              have hM4 : 1 ≤ M := by omega
              clear hw5 hlt hM
              go_wp2_with fail
              go_roundw
              case rel => exact ⟨tx.extract M tx.size, by rw [ByteArray.size_extract]; omega, rfl, HW5.out⟩
              case measure => simp [txS, ByteArray.size_extract]; omega
        · skip
          go_wp2_with fail
          go_at_call 39
          refine Gives.then (HHP.out _) ?_
          intro w4 hb4
          have HW4 := Lib.hid (HW3.out.trans (hb4.mono HW3.out.size))
          clear hb4
          go_wp2_with fail
          go_loopw [60] (fun i w5 => ∃ q : Nat, q ≤ a.length ∧ i = .int .i64 (q : Int) ∧ Below w1.heap.size w1 w5) (fun i _ => a.length - (intOf i).toNat)
          case atStart => exact ⟨0, Nat.zero_le _, rfl, HW4.out⟩
          case round =>
            obtain ⟨q, hq, rfl, hw5⟩ := hrel
            by_cases hlt : q < a.length
            · obtain ⟨b, off, hao, lb, d0, d1, d2⟩ := HCE.out q hlt
              have d0 := (hw5.cell (p := ⟨b, _, none⟩) lb).trans d0
              have d1 := (hw5.cell (p := ⟨b, _, none⟩) lb).trans d1
              have d2 := (hw5.cell (p := ⟨b, _, none⟩) lb).trans d2
              have hysz := (isSym_size (HSY.out a[q] (List.getElem_mem hlt))).2
              have h7 := H7.out a[q] (List.getElem_mem hlt)
              have hhy := hasP_any tx a[q].1 htx2 (by omega)
              have hz5 := hw5.size
              have HW5 := Lib.hid (hw5.alloc hz5 (.cells #[.string a[q].1, .int .u32 (a[q].2.1.toNat : Int), .int .u32 (a[q].2.2.toNat : Int)] 47))
              subst hao
              clear HCE hw5
              generalize a[q] = y at *
              obtain ⟨sy, p, m⟩ := y
              simp only at d0 d1 d2 hysz h7 hhy HW5
              by_cases hxy : x.size < sy.size
              · have k1 : decide (x.size < sy.size) = true := decide_eq_true hxy
                have k2 : decide ((x.size : Int) < (sy.size : Int)) = true := decide_eq_true (by omega)
                rw [h7 hxy] at hhy
                have HHY := Lib.hid hhy
                clear hhy h7 hxy
                go_wp2_with (go_at_call 39; refine Gives.then (HHY.out _) ?_; intro w6 hb6; have HW6 := Lib.hid (HW5.out.trans (hb6.mono HW5.out.size)); clear hb6)
                go_roundw
                case rel => exact ⟨q + 1, by omega, by go_num, HW6.out⟩
                case measure => simp [intOf]; omega
              · have k1 : decide (x.size < sy.size) = false := decide_eq_false hxy
                have k2 : decide ((x.size : Int) < (sy.size : Int)) = false := decide_eq_false (by omega)
                clear hhy h7 hxy
                go_wp2_with fail
                go_roundw
                case rel => exact ⟨q + 1, by omega, by go_num, HW5.out⟩
                case measure => simp [intOf]; omega
            · obtain rfl : q = a.length := by omega
              have HW5 := Lib.hid hw5
              obtain ⟨M, hM⟩ : ∃ M, max 1 x.size = M := ⟨_, rfl⟩
              have hM2 : max (1 : Int) (x.size : Int) = (M : Int) := by omega
              have hM3 : M ≤ tx.size := by omega
              have hM4 : 1 ≤ M := by omega
              clear hw5 hlt hM
              go_wp2_with fail
              go_roundw
              case rel => exact ⟨tx.extract M tx.size, by rw [ByteArray.size_extract]; omega, rfl, HW5.out⟩
              case measure => simp [txS, ByteArray.size_extract]; omega
      · have g1 : decide (0 < tx.size) = false := decide_eq_false hpos
        have g2 : decide ((0 : Int) < (tx.size : Int)) = false := decide_eq_false (by omega)
        have hl0 := longest_any (HI.out.below HW.out) ⟨#[]⟩ (by decide)
        rw [show min (ByteArray.size ⟨#[]⟩) 4 = 0 from rfl] at hl0
        have hl0 : Gives 35 #[.pointer (some ⟨B, 0, none⟩), .string ⟨#[]⟩] wr (.tuple #[.string ⟨#[]⟩, .bool false]) := hl0
        have HL0 := Lib.hid hl0
        clear hl0 hpos
        go_wp2_with fail
        go_at_call 35
        refine Gives.then HL0.out ?_
        intro w2 hb2
        have HW2 := Lib.hid (HW.out.trans (hb2.mono HW.out.size))
        clear hb2
        go_wp2_with (go_at_call 14; refine Gives.then (works_any _) ?_; intro w3 hb3)
        go_returns
        exact ⟨rfl, (HW1.out.trans (HW2.out.mono HW1.out.size)).trans (hb3.mono (Nat.le_trans HW1.out.size HW2.out.size))⟩
end Go.Proofs.Ytmgikhldkebjbaa
