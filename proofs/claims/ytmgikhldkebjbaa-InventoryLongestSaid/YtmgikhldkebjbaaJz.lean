/-
  What the bound on the arguments says of a text and of lists.
-/
import Derived.Test.YtmgikhldkebjbaaJy
import Derived.JoinedCond
namespace Go.Proofs.Ytmgikhldkebjbaa
open Go.ChangeShapes
theorem bulk_pos {H : Type} (d : DataW H) : 1 ≤ Rows.uptoBulk d := by
  rcases d with l | _ | _ | _ | _ | _ | _ | _
  · cases l <;> simp [Rows.uptoBulk]
  all_goals simp [Rows.uptoBulk]
theorem bulk_mem {H : Type} {d : DataW H} : ∀ {l : List (DataW H)}, d ∈ l → Rows.uptoBulk d ≤ Rows.uptoBulkAll l
  | x :: l, h => by
    simp only [Rows.uptoBulkAll]
    rcases List.mem_cons.1 h with rfl | h
    · omega
    · have := bulk_mem h; omega
theorem bulk_len {H : Type} : ∀ (l : List (DataW H)), l.length ≤ Rows.uptoBulkAll l
  | [] => Nat.zero_le _
  | x :: l => by
    have h1 := bulk_len l
    have h2 := bulk_pos x
    simp only [Rows.uptoBulkAll, List.length_cons]; omega
/-- A text among the arguments. -/
theorem bulk_text {H : Type} {ds : List (DataW H)} {d : DataW H} {t : ByteArray} (hk : Rows.uptoSmall H ds = true) (hm : d ∈ ds) (hd : d = .lit (.string t.data.toList)) : t.size ≤ 1048576 := by
  have h : Rows.uptoBulkAll ds ≤ 1048576 := of_decide_eq_true hk
  have h1 := bulk_mem hm
  subst hd
  have e : t.data.toList.length = t.size := by rw [Array.length_toList]; rfl
  simp only [Rows.uptoBulk] at h1
  omega
/-- A list among the arguments. -/
theorem bulk_list {H : Type} {ds : List (DataW H)} {es sp : List (DataW H)} (hk : Rows.uptoSmall H ds = true) (hm : DataW.slice es sp ∈ ds) : es.length ≤ 1048576 := by
  have h : Rows.uptoBulkAll ds ≤ 1048576 := of_decide_eq_true hk
  have h1 := bulk_mem hm
  have h2 := bulk_len es
  simp only [Rows.uptoBulk] at h1
  omega
end Go.Proofs.Ytmgikhldkebjbaa
