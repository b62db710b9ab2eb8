/-
  Sorted lists of words: they are unique; what the specification's Sort keeps.
-/
import Derived.Test.YtfjngkdpembdcaaHm
namespace Go.Proofs.Ytfjngkdpembdcaa
open Go.RowKit Go.Sort Go.Proofs
theorem lt_trans {a b c : List Snd} (h1 : ordW a b < 0) (h2 : ordW b c < 0) : ordW a c < 0 := by
  obtain ⟨h3, h4⟩ := ordW_trans (Int.le_of_lt h1) (Int.le_of_lt h2)
  by_cases h : ordW a c = 0
  · have := (h4 h).1; omega
  · omega
theorem le_lt {a b c : List Snd} (h1 : ordW a b ≤ 0) (h2 : ordW b c < 0) : ordW a c < 0 := by
  by_cases h : ordW a b = 0
  · rw [(ordW_zero a b).1 h]; exact h2
  · exact lt_trans (by omega) h2
/-- The words increase. -/
def Inc (l : List (List Snd)) : Prop := l.Pairwise (fun a b => ordW a b < 0)
theorem inc_nodup {l : List (List Snd)} (h : Inc l) : l.Nodup :=
  List.Pairwise.imp (fun {a b} h e => by subst e; have := ordW_self a; omega) h
theorem nodup_len : ∀ (xs ys : List (List Snd)), xs.Nodup → (∀ a ∈ xs, a ∈ ys) → xs.length ≤ ys.length
  | [], ys, _, _ => by simp
  | x :: xs, ys, hn, hs => by
    rw [List.nodup_cons] at hn
    have hx : x ∈ ys := hs x (by simp)
    have ih := nodup_len xs (ys.erase x) hn.2 (fun a ha => (List.mem_erase_of_ne (by rintro rfl; exact hn.1 ha)).2 (hs a (by simp [ha])))
    rw [List.length_erase_of_mem hx] at ih
    have := List.length_pos_of_mem hx
    simp only [List.length_cons]; omega
theorem inc_unique {xs ys : List (List Snd)} (hx : Inc xs) (hy : Inc ys) (h : ∀ a, a ∈ xs ↔ a ∈ ys) : xs = ys := by
  refine List.Perm.eq_of_pairwise (le := fun a b => ordW a b < 0) (fun a b _ _ h1 h2 => by have := ordW_anti a b; omega) hx hy ?_
  rw [List.perm_iff_count]
  intro a
  rw [(inc_nodup hx).count, (inc_nodup hy).count]
  by_cases ha : a ∈ xs
  · rw [if_pos ha, if_pos ((h a).1 ha)]
  · rw [if_neg ha, if_neg (fun hh => ha ((h a).2 hh))]
theorem cptS_spec {xs : List (List Snd)} (hs : xs.Pairwise (fun a b => ordW a b ≤ 0)) : ∀ p, p ≤ xs.length → Inc (cptS xs p) ∧ (∀ a, a ∈ cptS xs p ↔ a ∈ xs.take p)
  | 0, _ => by simp [cptS, Inc]
  | p + 1, hp => by
    obtain ⟨h1, h2⟩ := cptS_spec hs p (by omega)
    have hlt : p < xs.length := by omega
    simp only [cptS, dif_pos hlt]
    have ht := List.take_succ_eq_append_getElem hlt
    by_cases hc : 0 < p ∧ xs[p] = xs[p - 1]'(by omega)
    · rw [if_pos hc]
      refine ⟨h1, fun a => ?_⟩
      rw [ht, List.mem_append, h2 a]
      refine ⟨Or.inl, fun h => h.elim id fun h => ?_⟩
      rw [List.mem_singleton] at h
      subst h
      rw [hc.2]
      have : (xs.take p)[p - 1]'(by rw [List.length_take]; omega) = xs[p - 1]'(by omega) := List.getElem_take ..
      rw [← this]; exact List.getElem_mem _
    · rw [if_neg hc]
      have hlast : ∀ a ∈ xs.take p, ordW a xs[p] < 0 := by
        intro a ha
        obtain ⟨i, hi, rfl⟩ := List.mem_iff_getElem.1 ha
        rw [List.length_take] at hi
        rw [List.getElem_take]
        have hpp : ¬ xs[p] = xs[p - 1]'(by omega) := fun e => hc ⟨by omega, e⟩
        have e1 : ordW (xs[p - 1]'(by omega)) xs[p] ≤ 0 := List.pairwise_iff_getElem.1 hs (p - 1) p (by omega) hlt (by omega)
        have e1' : ordW (xs[p - 1]'(by omega)) xs[p] < 0 := by
          by_cases h : ordW (xs[p - 1]'(by omega)) xs[p] = 0
          · exact absurd ((ordW_zero _ _).1 h).symm hpp
          · omega
        by_cases hi2 : i = p - 1
        · subst hi2; exact e1'
        · exact le_lt (List.pairwise_iff_getElem.1 hs i (p - 1) (by omega) (by omega) (by omega)) e1'
      refine ⟨?_, fun a => by rw [ht, List.mem_append, List.mem_append, h2 a]⟩
      unfold Inc
      rw [List.pairwise_append]
      refine ⟨h1, by simp, fun a ha b hb => ?_⟩
      rw [List.mem_singleton] at hb; subst hb
      exact hlast a ((h2 a).1 ha)
theorem srt_inc (l : List (List Snd)) : Inc (srt l) := (cptS_spec (isort_sorted l) l.length (by rw [(isort_perm l).length_eq]; exact Nat.le_refl _)).1
theorem srt_mem (l : List (List Snd)) (a : List Snd) : a ∈ srt l ↔ a ∈ l := by
  have hl := (isort_perm l).length_eq
  have := (cptS_spec (isort_sorted l) l.length (by omega)).2 a
  rw [List.take_of_length_le (by omega)] at this
  exact this.trans (isort_perm l).mem_iff
theorem srt_unique {l ys : List (List Snd)} (h : Inc ys) (hm : ∀ a, a ∈ ys ↔ a ∈ l) : ys = srt l := inc_unique h (srt_inc l) fun a => (hm a).trans (srt_mem l a).symm
theorem srt_again (l : List (List Snd)) : srt (srt l) = srt l := (srt_unique (srt_inc l) fun _ => Iff.rfl).symm
theorem srt_same {l l' : List (List Snd)} (h : ∀ a, a ∈ l ↔ a ∈ l') : srt l = srt l' := srt_unique (srt_inc l) fun a => (srt_mem l a).trans (h a)
theorem srt_len (l : List (List Snd)) : (srt l).length ≤ l.length := nodup_len _ _ (inc_nodup (srt_inc l)) fun a h => (srt_mem l a).1 h
theorem srt_nil : srt [] = [] := rfl
theorem srt_pos {l : List (List Snd)} (h : 0 < l.length) : 0 < (srt l).length := by
  obtain ⟨x, l', rfl⟩ := List.exists_cons_of_length_pos h
  exact List.length_pos_of_mem ((srt_mem (x :: l') x).2 (by simp))
/-- The last word of a list. -/
def lastW (l : List (List Snd)) : List Snd := l[l.length - 1]?.getD []
theorem lastW_get {l : List (List Snd)} (h : 0 < l.length) : lastW l = l[l.length - 1]'(by omega) := by
  unfold lastW; rw [List.getElem?_eq_getElem (by omega)]; rfl
theorem lastW_mem {l : List (List Snd)} (h : 0 < l.length) : lastW l ∈ l := by rw [lastW_get h]; exact List.getElem_mem _
theorem inc_last {l : List (List Snd)} (h : Inc l) {b : List Snd} (hb : b ∈ l) : ordW b (lastW l) ≤ 0 := by
  obtain ⟨i, hi, rfl⟩ := List.mem_iff_getElem.1 hb
  rw [lastW_get (by omega)]
  by_cases e : i = l.length - 1
  · subst e; rw [ordW_self]; omega
  · exact Int.le_of_lt (List.pairwise_iff_getElem.1 h i (l.length - 1) hi (by omega) (by omega))
/-- The words so far: the smallest ones of the list. -/
def Part (l out : List (List Snd)) : Prop := Inc out ∧ (∀ a ∈ out, a ∈ l) ∧ ∀ a ∈ l, a ∉ out → ∀ b ∈ out, ordW b a < 0
/-- A word is greater than the words so far. -/
def Gt (out : List (List Snd)) (x : List Snd) : Prop := 0 < out.length → ¬ ordW x (lastW out) ≤ 0
/-- The smallest one of the first i words that are greater than the words so far. -/
def Best (l out : List (List Snd)) (i : Nat) (b : Int) : Prop :=
  (b = -1 ∧ ∀ j (h : j < l.length), j < i → ¬ Gt out l[j]) ∨ ∃ (m : Nat) (h : m < l.length), b = (m : Int) ∧ m < i ∧ Gt out l[m] ∧ ∀ j (h' : j < l.length), j < i → Gt out l[j] → ordW l[m] l[j] ≤ 0
theorem Part.nil (l : List (List Snd)) : Part l [] := ⟨by simp [Inc], by simp, by simp⟩
theorem Part.len {l out : List (List Snd)} (h : Part l out) : out.length ≤ l.length := nodup_len _ _ (inc_nodup h.1) h.2.1
theorem Part.full {l out : List (List Snd)} (h : Part l out) (hl : l.length ≤ out.length) : out = srt l := by
  refine srt_unique h.1 fun a => ⟨h.2.1 a, fun ha => Classical.byContradiction fun hn => ?_⟩
  have := nodup_len (a :: out) l (List.nodup_cons.2 ⟨hn, inc_nodup h.1⟩) (by
    intro b hb
    rcases List.mem_cons.1 hb with rfl | hb
    · exact ha
    · exact h.2.1 b hb)
  simp only [List.length_cons] at this; omega
theorem Part.gt {l out : List (List Snd)} (h : Part l out) {a : List Snd} (ha : a ∈ l) (hn : a ∉ out) : Gt out a := fun hp => by
  have h1 := h.2.2 a ha hn _ (lastW_mem hp)
  have h2 := ordW_anti (lastW out) a
  omega
theorem Part.end {l out : List (List Snd)} (h : Part l out) (hb : Best l out l.length (-1)) : out = srt l := by
  rcases hb with ⟨-, hb⟩ | ⟨m, _, e, _⟩
  · refine srt_unique h.1 fun a => ⟨h.2.1 a, fun ha => Classical.byContradiction fun hn => ?_⟩
    obtain ⟨i, hi, rfl⟩ := List.mem_iff_getElem.1 ha
    exact hb i hi hi (h.gt ha hn)
  · omega
theorem Part.more {l out : List (List Snd)} {m : Nat} (h : Part l out) (hm : m < l.length) (hb : Best l out l.length (m : Int)) : Part l (out ++ [l[m]]) := by
  rcases hb with ⟨e, -⟩ | ⟨m', hm', e, -, hg, hle⟩
  · omega
  · obtain rfl : m = m' := by omega
    have hlt : ∀ b ∈ out, ordW b l[m] < 0 := fun b hb => by
      have h1 := hg (List.length_pos_of_mem hb)
      have h2 := ordW_anti (lastW out) l[m]
      exact le_lt (inc_last h.1 hb) (by omega)
    refine ⟨?_, fun a ha => ?_, fun a ha hn b hb => ?_⟩
    · unfold Inc
      rw [List.pairwise_append]
      refine ⟨h.1, by simp, fun a ha b hb => ?_⟩
      rw [List.mem_singleton] at hb; subst hb
      exact hlt a ha
    · rcases List.mem_append.1 ha with ha | ha
      · exact h.2.1 a ha
      · rw [List.mem_singleton] at ha; subst ha; exact List.getElem_mem _
    · have hn1 : a ∉ out := fun hh => hn (by simp [hh])
      have hn2 : ¬ a = l[m] := fun hh => hn (by simp [hh])
      rcases List.mem_append.1 hb with hb | hb
      · exact h.2.2 a ha hn1 b hb
      · rw [List.mem_singleton] at hb; subst hb
        obtain ⟨i, hi, rfl⟩ := List.mem_iff_getElem.1 ha
        have h1 := hle i hi hi (h.gt ha hn1)
        have h2 : ¬ ordW l[m] l[i] = 0 := fun e => hn2 ((ordW_zero _ _).1 e).symm
        omega
theorem Best.zero (l out : List (List Snd)) : Best l out 0 (-1) := .inl ⟨rfl, fun j _ h => by omega⟩
theorem Best.skip {l out : List (List Snd)} {i : Nat} {b : Int} (h : Best l out i b) (hi : i < l.length) (hg : ¬ Gt out l[i]) : Best l out (i + 1) b := by
  rcases h with ⟨e, h⟩ | ⟨m, hm, e, hmi, hgm, h⟩
  · refine .inl ⟨e, fun j hj hji => ?_⟩
    by_cases hj2 : j = i
    · subst hj2; exact hg
    · exact h j hj (by omega)
  · refine .inr ⟨m, hm, e, by omega, hgm, fun j hj hji hgj => ?_⟩
    by_cases hj2 : j = i
    · subst hj2; exact absurd hgj hg
    · exact h j hj (by omega) hgj
theorem Best.keep {l out : List (List Snd)} {i m : Nat} (h : Best l out i (m : Int)) (hi : i < l.length) (hm : m < l.length) (hk : ¬ ordW l[i] l[m] < 0) : Best l out (i + 1) (m : Int) := by
  rcases h with ⟨e, -⟩ | ⟨m', hm', e, hmi, hgm, h⟩
  · omega
  · obtain rfl : m = m' := by omega
    refine .inr ⟨m, hm, e, by omega, hgm, fun j hj hji hgj => ?_⟩
    by_cases hj2 : j = i
    · subst hj2; have := ordW_anti l[j] l[m]; omega
    · exact h j hj (by omega) hgj
theorem Best.first {l out : List (List Snd)} {i : Nat} (h : Best l out i (-1)) (hi : i < l.length) (hg : Gt out l[i]) : Best l out (i + 1) (i : Int) := by
  rcases h with ⟨-, h⟩ | ⟨m, _, e, _⟩
  · refine .inr ⟨i, hi, rfl, by omega, hg, fun j hj hji hgj => ?_⟩
    by_cases hj2 : j = i
    · subst hj2; rw [ordW_self]; omega
    · exact absurd hgj (h j hj (by omega))
  · omega
theorem Best.take {l out : List (List Snd)} {i m : Nat} (h : Best l out i (m : Int)) (hi : i < l.length) (hm : m < l.length) (hg : Gt out l[i]) (hk : ordW l[i] l[m] < 0) : Best l out (i + 1) (i : Int) := by
  rcases h with ⟨e, -⟩ | ⟨m', hm', e, hmi, hgm, h⟩
  · omega
  · obtain rfl : m = m' := by omega
    refine .inr ⟨i, hi, rfl, by omega, hg, fun j hj hji hgj => ?_⟩
    by_cases hj2 : j = i
    · subst hj2; rw [ordW_self]; omega
    · exact (ordW_trans (Int.le_of_lt hk) (h j hj (by omega) hgj)).1
theorem Best.form {l out : List (List Snd)} {i : Nat} {b : Int} (h : Best l out i b) : b = -1 ∨ ∃ m : Nat, b = (m : Int) ∧ m < l.length := by
  rcases h with ⟨e, -⟩ | ⟨m, hm, e, -⟩
  · exact .inl e
  · exact .inr ⟨m, e, hm⟩
theorem gt_yes {out : List (List Snd)} {x : List Snd} (h : ¬ ordW x (lastW out) ≤ 0) : Gt out x := fun _ => h
theorem gt_nil {out : List (List Snd)} {x : List Snd} (h : ¬ 0 < out.length) : Gt out x := fun hp => absurd hp h
theorem gt_no {out : List (List Snd)} {x : List Snd} (hp : 0 < out.length) (h : ordW x (lastW out) ≤ 0) : ¬ Gt out x := fun hg => hg hp h
end Go.Proofs.Ytfjngkdpembdcaa
