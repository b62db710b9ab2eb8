/-
  The library's contract of strings.Join, laid at this program's own numbers (a plain text).
-/
import Derived.Test.YtmgikhldkebjbaaIe
import Derived.Test.YtmgikhldkebjbaaProg
import Derived.Shelf.Strings.OnBuilder
namespace Go.Proofs.Ytmgikhldkebjbaa
open Go.RowKit Go.Sort Go.Shelf Go.Proofs
def TryJoinL_ren : Go.Shelf.Ren := ⟨fun | 156 => 61 | 165 => 79 | 166 => 80 | 169 => 81 | 240 => 86 | 241 => 87 | 276 => 90 | 277 => 91 | n => n, fun | 31 => 22 | 9 => 9 | 3 => 3 | 4 => 4 | 0 => 0 | 20 => 20 | 72 => 109 | 76 => 113 | 70 => 107 | 37 => 80 | 75 => 112 | 127 => 118 | 164 => 120 | 5 => 5 | 80 => 115 | n => n, fun | n => n⟩
theorem TryJoinL : Go.Proofs.Lays.n156 Try.prog TryJoinL_ren := {
  mixed := by kernel_rfl,
  f156 := Try.func61.trans (congrArg some (by kernel_rfl)),
  f165 := Try.func79.trans (congrArg some (by kernel_rfl)),
  f166 := Try.func80.trans (congrArg some (by kernel_rfl)),
  f169 := Try.func81.trans (congrArg some (by kernel_rfl)),
  f240 := Try.func86.trans (congrArg some (by kernel_rfl)),
  f241 := Try.func87.trans (congrArg some (by kernel_rfl)),
  f276 := Try.func90.trans (congrArg some (by kernel_rfl)),
  f277 := Try.func91.trans (congrArg some (by kernel_rfl)),
  t0 := Try.underlying0,
  a0 := Try.isAgg0,
  z0 := Try.sizeOf0,
  v0 := Try.zeroValue0,
  t3 := Try.underlying3,
  a3 := Try.isAgg3,
  z3 := Try.sizeOf3,
  v3 := Try.zeroValue3,
  t4 := Try.underlying4,
  a4 := Try.isAgg4,
  z4 := Try.sizeOf4,
  v4 := Try.zeroValue4,
  t9 := Try.underlying9,
  a9 := Try.isAgg9,
  z9 := Try.sizeOf9,
  v9 := Try.zeroValue9,
  t20 := Try.underlying20,
  a20 := Try.isAgg20,
  z20 := Try.sizeOf20,
  v20 := Try.zeroValue20,
  t31 := Try.underlying22,
  a31 := Try.isAgg22,
  z31 := Try.sizeOf22,
  v31 := Try.zeroValue22,
  t37 := Try.underlying80,
  a37 := Try.isAgg80,
  z37 := Try.sizeOf80,
  v37 := Try.zeroValue80,
  t70 := Try.underlying107,
  a70 := Try.isAgg107,
  z70 := Try.sizeOf107,
  v70 := Try.zeroValue107,
  t72 := Try.underlying109,
  a72 := Try.isAgg109,
  z72 := Try.sizeOf109,
  v72 := Try.zeroValue109,
  t75 := Try.underlying112,
  a75 := Try.isAgg112,
  z75 := Try.sizeOf112,
  v75 := Try.zeroValue112,
  t76 := Try.underlying113,
  a76 := Try.isAgg113,
  z76 := Try.sizeOf113,
  v76 := Try.zeroValue113,
  t127 := Try.underlying118,
  a127 := Try.isAgg118,
  z127 := Try.sizeOf118,
  v127 := Try.zeroValue118,
  t164 := Try.underlying120,
  a164 := Try.isAgg120,
  z164 := Try.sizeOf120,
  v164 := Try.zeroValue120 }
theorem TryJoinX : Go.Proofs.Builder.Extra Try.prog TryJoinL_ren := {
  sizeBuilder := by kernel_rfl,
  liesBuilder := by kernel_rfl,
  t5 := Try.underlying5,
  a5 := Try.isAgg5,
  z5 := Try.sizeOf5,
  v5 := Try.zeroValue5,
  infoByte := by kernel_rfl,
  cellsByte := by kernel_rfl,
  sizeByte := by kernel_rfl,
  neB5 := by decide }
/-- The texts, one after the other, a text between each two. -/
def joinS (l : List ByteArray) (sep : ByteArray) : ByteArray := ⟨(Lib.join (l.map (·.data.toList)) sep.data.toList).toArray⟩
theorem join_any {w : World} {v : Value} {l : List ByteArray} (h : Ss w v l) (sep : ByteArray) (hN : l.length ≤ 140737488355328) (hlen : (joinS l sep).size ≤ 140737488355328) : Gives 61 #[v, .string sep] w (.string (joinS l sep)) := by
  unfold Gives
  rcases h with ⟨rfl, rfl⟩ | ⟨b, off, cap, rfl, hc, hm, hb, hcells⟩
  · exact (Any.strings_Join_none TryJoinL TryJoinX none 0 sep w).mono fun e w' ⟨he, hw⟩ => ⟨he, hw ▸ Below.refl _ _⟩
  · refine Any.strings_Join TryJoinL TryJoinX b off cap l sep w (fun j x hx => ?_) hb hN hc ?_
    · obtain ⟨hj, rfl⟩ := List.getElem?_eq_some_iff.1 hx
      exact hcells j hj
    · have e : (joinS l sep).size = (Lib.join (l.map (·.data.toList)) sep.data.toList).length := by unfold joinS; rw [← List.size_toArray]; rfl
      rw [← e]; exact hlen
end Go.Proofs.Ytmgikhldkebjbaa
