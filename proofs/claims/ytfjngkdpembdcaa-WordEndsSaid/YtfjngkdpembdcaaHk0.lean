/-
  Where Check finds no error in a list of words.
-/
import Derived.Test.YtfjngkdpembdcaaHg
namespace Go.Proofs.Ytfjngkdpembdcaa
open Go.RowKit Go.Sort
theorem cke_zero : ∀ {l : List (Value × List Snd)}, cke l = 0 → ∀ x ∈ l, chk x.2 = 0
  | [], _, x, h => by simp at h
  | y :: l, hc, x, h => by
    simp only [cke] at hc
    split at hc
    · rename_i hy
      rcases List.mem_cons.1 h with rfl | h
      · exact hy
      · exact cke_zero hc x h
    · rename_i hy; exact absurd hc hy
end Go.Proofs.Ytfjngkdpembdcaa
