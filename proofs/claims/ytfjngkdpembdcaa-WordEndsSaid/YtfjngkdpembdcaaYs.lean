/-
  WordSorted: what its walk needs.
-/
import Derived.Test.YtfjngkdpembdcaaSt
import Derived.Test.YtfjngkdpembdcaaYa
import Derived.Test.YtfjngkdpembdcaaYh
namespace Go.Proofs.Ytfjngkdpembdcaa
open Go.RowKit Go.Sort
theorem cke_all : ∀ {l : List (Value × List Snd)}, (∀ x ∈ l, chk x.2 = 0) → cke l = 0
  | [], _ => rfl
  | x :: l, h => by
    simp only [cke]
    rw [if_pos (h x (by simp))]
    exact cke_all fun y hy => h y (by simp [hy])
theorem sE_ok {l : List (Value × List Snd)} (hl : l.length ≤ 256) (h : ∀ x ∈ l, chk x.2 = 0) : sE l = 0 := by
  rw [sE, if_neg (by omega), cke_all h]
theorem sS_ok {l : List (Value × List Snd)} (hl : l.length ≤ 256) (h : ∀ x ∈ l, chk x.2 = 0) : sS l = srt (l.map (·.2)) := by
  rw [sS, if_neg (by omega), if_pos (cke_all h)]
theorem maps_get {l : List (Value × List Snd)} {S : List (List Snd)} (h : l.map (·.2) = S) {k : Nat} (hk : k < l.length) : ∃ hs : k < S.length, l[k].2 = S[k] := by
  subst h
  exact ⟨by rw [List.length_map]; exact hk, by rw [List.getElem_map]⟩
theorem maps_mem {l : List (Value × List Snd)} {S : List (List Snd)} (h : l.map (·.2) = S) {k : Nat} (hk : k < l.length) : l[k].2 ∈ S := by
  subst h
  exact List.mem_map.2 ⟨_, List.getElem_mem _, rfl⟩
/-- The sorted list is sorted again: its words are valid, and no more. -/
theorem srt_ok {l l1 : List (Value × List Snd)} (hl : l.length ≤ 256) (h : ∀ x ∈ l, chk x.2 = 0) (h1 : l1.map (·.2) = srt (l.map (·.2))) : sE l1 = 0 ∧ sS l1 = srt (l.map (·.2)) := by
  have hlen : l1.length ≤ 256 := by
    have e := congrArg List.length h1
    have := srt_len (l.map (·.2))
    rw [List.length_map] at e this
    omega
  have hv : ∀ x ∈ l1, chk x.2 = 0 := fun x hx => by
    have hm : x.2 ∈ l1.map (·.2) := List.mem_map.2 ⟨x, hx, rfl⟩
    rw [h1, srt_mem] at hm
    obtain ⟨y, hy, e⟩ := List.mem_map.1 hm
    rw [← e]; exact h y hy
  exact ⟨sE_ok hlen hv, by rw [sS_ok hlen hv, h1, srt_again]⟩
theorem turn_ok {l : List (Value × List Snd)} (k : Nat) (hl : l.length ≤ 256) (h : ∀ x ∈ l, chk x.2 = 0) : sE (l.drop k ++ l.take k) = 0 ∧ sS (l.drop k ++ l.take k) = srt (l.map (·.2)) := by
  have hmem : ∀ x, x ∈ l.drop k ++ l.take k ↔ x ∈ l := fun x => by
    rw [List.mem_append, or_comm, ← List.mem_append, List.take_append_drop]
  have hlen : (l.drop k ++ l.take k).length ≤ 256 := by
    rw [List.length_append, List.length_drop, List.length_take]; omega
  have hv : ∀ x ∈ l.drop k ++ l.take k, chk x.2 = 0 := fun x hx => h x ((hmem x).1 hx)
  refine ⟨sE_ok hlen hv, ?_⟩
  rw [sS_ok hlen hv]
  refine srt_same fun a => ?_
  simp only [List.mem_map]
  constructor
  · rintro ⟨x, hx, e⟩; exact ⟨x, (hmem x).1 hx, e⟩
  · rintro ⟨x, hx, e⟩; exact ⟨x, (hmem x).2 hx, e⟩
theorem ord_next {S : List (List Snd)} (h : Inc S) {k : Nat} (h1 : k - 1 < S.length) (h2 : k < S.length) (hk : 0 < k) : ordW S[k - 1] S[k] = -1 := by
  have h3 := List.pairwise_iff_getElem.1 h (k - 1) k h1 h2 (by omega)
  have h4 := ordW_range S[k - 1] S[k]
  omega
/-- The two parts of a list, as the arguments of append. -/
theorem Ws.parts {w : World} {b off q cap K : Nat} {l : List (Value × List Snd)} (h : Ws w (.slice (some ⟨b, off, none⟩) q cap) l) (hK : K ≤ q) : Vs w (.slice (some ⟨b, off + K, none⟩) (q - K) (cap - K)) ((l.drop K).map (·.1)) ∧ Vs w (.slice (some ⟨b, off, none⟩) K cap) ((l.take K).map (·.1)) := by
  obtain ⟨rfl, -, hg⟩ := h.get
  have hcells : ∀ i (h : i < l.length), w.cell? ⟨b, off + i, none⟩ = some l[i].1 ∧ Wd w l[i].1 l[i].2 := fun i h => by
    obtain ⟨b', o', e, _, c, d⟩ := hg i h
    cases e
    exact ⟨c, d⟩
  constructor
  · have := Vs.part (w := w) (b := b) (off := off + K) (c := cap - K) (l := l.drop K) fun i h => by
      rw [List.length_drop] at h
      rw [List.getElem_drop, Nat.add_assoc]
      exact hcells (K + i) (by omega)
    rwa [List.length_drop] at this
  · have := Vs.part (w := w) (b := b) (off := off) (c := cap) (l := l.take K) fun i h => by
      rw [List.length_take] at h
      rw [List.getElem_take]
      exact hcells i (by omega)
    rwa [List.length_take, Nat.min_eq_left hK] at this
/-- Sort of a list that has been turned. -/
theorem turn_sort {l : List (Value × List Snd)} (K p : Nat) (hl : l.length ≤ 256) (hall : ∀ x ∈ l, chk x.2 = 0) (hp : (srt (l.map (·.2))).length = p) (w : World) (base : Nat) (v : Value) (h : OwnV w base v ([] ++ (l.drop K).map (fun z : Value × List Snd => z.1) ++ (l.take K).map (fun z : Value × List Snd => z.1))) (hw : ∀ x ∈ l, Wd w x.1 x.2) : Calls Try.prog 8 #[v] w fun e w' => ∃ (a : Option Addr) (c : Nat) (l' : List (Value × List Snd)), e = .returned (.tuple #[.slice a p c, .int .i64 0]) ∧ Ws w' (.slice a p c) l' ∧ l'.length = p ∧ l'.map (·.2) = srt (l.map (·.2)) ∧ Below w.heap.size w w' := by
  rw [List.nil_append, ← List.map_append] at h
  have hs := sort_all _ v w (h.ws fun x hx => hw x (by
    rw [List.mem_append, or_comm, ← List.mem_append, List.take_append_drop] at hx
    exact hx))
  rw [(turn_ok K hl hall).1, (turn_ok K hl hall).2] at hs
  refine hs.mono ?_
  rintro e w' ⟨v', l', rfl, s1, e1, -, hb⟩
  obtain ⟨a, c, rfl, -, -, -⟩ := s1.open
  have hlen : l'.length = p := by rw [← hp, ← e1, List.length_map]
  rw [hlen] at s1 ⊢
  exact ⟨a, c, l', rfl, s1, hlen, e1, hb⟩
end Go.Proofs.Ytfjngkdpembdcaa
