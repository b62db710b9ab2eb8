/-
  Sort: what it returns, and that it is new.
-/
import Derived.Test.YtfjngkdpembdcaaHt
import Derived.Test.YtfjngkdpembdcaaHm
import Derived.Test.YtfjngkdpembdcaaHk0
import Derived.Test.YtfjngkdpembdcaaHg
namespace Go.Proofs.Ytfjngkdpembdcaa
open Go.RowKit Go.Sort Go.Proofs
section
variable {w : World}
theorem cpt_ss (X : List (WE w)) : ∀ p, (cpt X p).map WE.ss = cptS (X.map WE.ss) p
  | 0 => rfl
  | p + 1 => by
    have ih := cpt_ss X p
    simp only [cpt, cptS, List.length_map]
    by_cases h : p < X.length
    · rw [dif_pos h, dif_pos h]
      simp only [List.getElem_map]
      split
      · exact ih
      · rw [List.map_append, ih]; rfl
    · rw [dif_neg h, dif_neg h]; exact ih
theorem srt_of {L Y : List (WE w)} (hp : Y.Perm L) (hs : SortedX Y) : (cpt Y Y.length).map WE.ss = srt (L.map WE.ss) := by
  have hp' : (Y.map WE.ss).Perm (L.map WE.ss) := hp.map _
  have hs' : (Y.map WE.ss).Pairwise (fun a b => ordW a b ≤ 0) := by
    rw [List.pairwise_iff_getElem]
    intro i j hi hj hij
    rw [List.getElem_map, List.getElem_map]
    exact hs i j hij (by simpa using hj)
  rw [cpt_ss, isort_unique hp' hs', hp.length_eq]
  unfold srt
  rw [List.length_map]
abbrev prs (L : List (WE w)) : List (Value × List Snd) := L.map fun x => (x.v, x.ss)
theorem compact_nil (W : World) : Calls Try.prog 27 #[.slice none 0 0, .func (.func 28) #[] #[]] W fun e w' => e = .returned (.slice none 0 0) ∧ w' = W := by
  go_enter Try.func27, Try.ntmps27
  go_wp2_with fail
  go_returns
  exact ⟨rfl, rfl⟩
theorem values_we (L : List (WE w)) {v : Value} (h : Ws w v (prs L)) : ∃ ao cap, v = .slice ao L.length cap ∧ ∀ i (h : i < L.length), ∃ b off, ao = some ⟨b, off, none⟩ ∧ b < w.heap.size ∧ w.cell? ⟨b, off + i, none⟩ = some L[i].v := by
  obtain ⟨ao, cap, rfl, -, -, h⟩ := h.open
  refine ⟨ao, cap, by rw [List.length_map], fun i hi => ?_⟩
  obtain ⟨b, off, e, hb, hc, _⟩ := h i (by simpa using hi)
  exact ⟨b, off, e, hb, by rw [hc, List.getElem_map]⟩
theorem cpt_mem (X : List (WE w)) : ∀ p x, x ∈ cpt X p → x ∈ X
  | 0, x, h => by simp [cpt] at h
  | p + 1, x, h => by
    simp only [cpt] at h
    split at h
    · split at h
      · exact cpt_mem X p x h
      · rcases List.mem_append.1 h with h | h
        · exact cpt_mem X p x h
        · rw [List.mem_singleton] at h; subst h; exact List.getElem_mem _
    · exact cpt_mem X p x h
end
end Go.Proofs.Ytfjngkdpembdcaa
