/-
  slices.SortedFunc on a list of words.
-/
import Derived.Test.YtfjngkdpembdcaaHn
import Derived.Test.YtfjngkdpembdcaaHo
import Derived.Test.YtfjngkdpembdcaaHp
import Derived.Test.YtfjngkdpembdcaaHq
import Derived.Shelf.SlSortCmp.NoneTotal
namespace Go.Proofs.Ytfjngkdpembdcaa
open Go.RowKit Go.Sort Go.Shelf Go.Proofs
/-- A word: its value, and its sounds in a world. -/
structure WE (w0 : World) where
  v : Value
  ss : List Snd
  h : Wd w0 v ss
instance (w0 : World) : Inhabited (WE w0) := ⟨⟨.slice none 0 0, [], Wd.nil w0⟩⟩
section
variable {w0 : World}
def encW (x : WE w0) : Value := x.v
def cfW (x y : WE w0) : Int := ordW x.ss y.ss
theorem below_sortWorld {w : World} {blk off m : Nat} {dk : Array (WE w0)} {os : Array Obj} (hw : Below w0.heap.size w0 w) (hb : w0.heap.size ≤ blk) : Below w0.heap.size w0 (sortWorld encW w blk off m dk os) := by
  refine ⟨hw.os, hw.tape, hw.output, ?_, fun k hk => ?_⟩
  · have := hw.size
    simp [sortWorld, grow]; omega
  · have h1 := hw.size
    rw [← hw.block k hk]
    show ((putRow encW (Sort.ahead w m) blk off dk).heap ++ os)[k]? = w.heap[k]?
    rw [Array.getElem?_append_left (by rw [size_putRow]; show k < w.heap.size; omega)]
    show (w.heap.modify blk _)[k]? = w.heap[k]?
    rw [Array.getElem?_modify, if_neg (by omega)]
theorem cmpW_lays {w : World} (blk off size : Nat) (hw : Below w0.heap.size w0 w) (hb : w0.heap.size ≤ blk) : CmpLays1 Try.prog 12 #[] (encW (w0 := w0)) cfW blk off size w := by
  intro m os dk hs x y
  have hB := below_sortWorld (off := off) (m := m) (dk := dk) (os := os) hw hb
  have h := Dn.order_d x.ss y.ss x.v y.v _ (x.h.below hB) (y.h.below hB)
  rw [Array.append_empty]
  refine h.mono ?_
  rintro e w' ⟨rfl, hbd⟩
  obtain ⟨p, hp⟩ := Dn.regrownD_of hbd
  refine ⟨rfl, p.p.d - (sortWorld encW w blk off m dk os).drawn, p.p.os, hp.trans ?_⟩
  have hd := p.h
  have : redrawn (sortWorld encW w blk off m dk os) p.p.d = (sortWorld encW w blk off m dk os).drewN (p.p.d - (sortWorld encW w blk off m dk os).drawn) := by
    unfold redrawn World.drewN
    congr 1
    omega
  rw [this]
theorem ltW (x y : WE w0) : ltOf cfW x y = decide (ordW x.ss y.ss < 0) := rfl
theorem swoW : SWO (ltOf (cfW (w0 := w0))) where
  irrefl x := by rw [ltW, ordW_self]; rfl
  trans x y z h1 h2 := by
    rw [ltW, decide_eq_true_eq] at *
    obtain ⟨t1, t2⟩ := ordW_trans (a := x.ss) (b := y.ss) (c := z.ss) (by omega) (by omega)
    by_cases h : ordW x.ss z.ss = 0
    · have := (t2 h).1; omega
    · omega
  ntrans x y z h1 h2 := by
    rw [ltW, decide_eq_false_iff_not] at *
    have a1 := ordW_anti x.ss y.ss
    have a2 := ordW_anti y.ss z.ss
    have a3 := ordW_anti x.ss z.ss
    obtain ⟨t1, t2⟩ := ordW_trans (a := z.ss) (b := y.ss) (c := x.ss) (by omega) (by omega)
    omega
/-- A row of words. -/
def RowX (w : World) (g : Nat) (X : List (WE w0)) : Prop := ∀ i (h : i < X.length), w.cell? ⟨g, i, none⟩ = some X[i].v ∧ w.frozen? ⟨g, i, none⟩ = false
def SortedX (X : List (WE w0)) : Prop := ∀ i j (hi : i < j) (hj : j < X.length), ordW (X[i]'(by omega)).ss X[j].ss ≤ 0
theorem sortFunc_any (X : List (WE w0)) (g cap : Nat) (w : World) (hw : Below w0.heap.size w0 w) (hb : w0.heap.size ≤ g) (hg : g < w.heap.size) (hl : X.length ≤ 1000000000) (hr : RowX w g X) :
    Calls Try.prog 42 #[.slice (some ⟨g, 0, none⟩) X.length cap, .func (.func 12) #[] #[]] w fun e w' => e = .returned (.tuple #[]) ∧ ∃ Y : List (WE w0), Y.Perm X ∧ SortedX Y ∧ RowX w' g Y ∧ Below g w w' := by
  have eg : ∀ args w, (callFunc 12 args).run Try.prog w = .ok (.enter 12 args) w := enters_of Try.func12 (by kernel_rfl) rfl
  have hH : Holds encW w g 0 X.toArray := fun j hj => by
    have hj' : j < X.length := by simpa using hj
    obtain ⟨c1, c2⟩ := hr j hj'
    rw [Nat.zero_add]
    exact ⟨by rw [c1]; simp [encW, hj'], c2⟩
  have hcon := Any.slices_SortFunc TrySortL encW (fun x => by obtain ⟨ao, cap, hv, -⟩ := x.h.open; show x.v.oneCell' = true; rw [hv]; rfl) cfW swoW 12 #[] g 0 cap X.toArray w eg (cmpW_lays g 0 X.toArray.size hw hb) hH hg (by simp; omega)
  change Calls Try.prog 42 _ _ _ at hcon
  rw [List.size_toArray] at hcon
  refine hcon.mono ?_
  rintro e w' ⟨rfl, d', n, os, hp, hs, rfl⟩
  have hsz : d'.size = X.length := by have := hp.1; simpa using this
  have hperm : d'.toList.Perm X := by
    have := hp.2.2
    rw [Array.extract_eq_self_of_le (by omega), Array.extract_eq_self_of_le (by simp)] at this
    simpa using this
  have hSW : SW encW w g 0 d' (sortWorld encW w g 0 n d' os) := ⟨n, os, rfl⟩
  have R : Row1 encW w g 0 X.toArray := ⟨fun x => by obtain ⟨ao, cap, hv, -⟩ := x.h.open; show x.v.oneCell' = true; rw [hv]; rfl, hH, hg⟩
  refine ⟨rfl, d'.toList, hperm, ?_, ?_, ?_⟩
  · intro i j hij hj
    have hj' : j < d'.size := by simpa using hj
    have := hs i j (Nat.zero_le _) hij (by omega)
    rw [ltW, decide_eq_false_iff_not] at this
    rw [getElem!_pos d' j hj', getElem!_pos d' i (by omega)] at this
    have a := ordW_anti d'[j].ss d'[i].ss
    simp only [Array.getElem_toList]
    omega
  · intro i hi
    have hi' : i < d'.size := by simpa using hi
    have c1 := hSW.c1 R (by rw [hsz]; simp) i hi'
    have f1 := hSW.f1 R (by rw [hsz]; simp) i hi'
    rw [Nat.zero_add] at c1 f1
    rw [getElem!_pos d' i hi'] at c1
    exact ⟨by rw [c1, Array.getElem_toList]; rfl, f1⟩
  · refine ⟨rfl, rfl, rfl, by simp [sortWorld, grow], fun k hk => ?_⟩
    show ((putRow encW (Sort.ahead w n) g 0 d').heap ++ os)[k]? = w.heap[k]?
    rw [Array.getElem?_append_left (by rw [size_putRow]; show k < w.heap.size; omega)]
    show (w.heap.modify g _)[k]? = w.heap[k]?
    rw [Array.getElem?_modify, if_neg (by omega)]
end
end Go.Proofs.Ytfjngkdpembdcaa
