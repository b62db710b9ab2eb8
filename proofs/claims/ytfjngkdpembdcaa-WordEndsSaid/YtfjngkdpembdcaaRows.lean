/-
  No cell of these rows narrows 'for every input' (looked for: loops, veiled, ifaces, maps, wideKeys, modest, calm, conditions, laid).
  DERIVED. THE GIVEN ROWS OF THIS SEAT. 3 by the template 'for every input the law returns true; each argument reads behind the call as it read before'; 0 by the template 'total and deterministic' (their statements: YtfjngkdpembdcaaTotals.lean).
  GIVEN WITH THE SEED: the statements are not yours to turn. If you find one false, say at which input.
  Laid BY PROGRAM, IN A SANDBOX (cutbox-rows.mjs): the forced cells as the released guide's own fill.sh prints them over the translation 257cb3050ca7ac1e… (all of the seat's roots in one cut). By AI agents, Wed Nov 11 2026. No macro, syntax, notation, axiom, sorry.
-/
import Derived.Test.YtfjngkdpembdcaaChecked
import GoSem.Claim
import GoSem.ClaimJoined
import GoSem.ClaimMapViews
import Derived.JoinedTies
import Derived.KernelRfl
namespace Go.Proofs.Ytfjngkdpembdcaa
/- THE CELL 'sum', in the pinned program and in every row, IS THE sha256 OF THE DUMP (.gsa) THAT YtfjngkdpembdcaaProg.lean LOADS. Nothing in Lean hashes anything: it is a label: what it is worth is what the hold of that sum in a sandbox is worth. -/
noncomputable def Try.pinned : Pinned := { name := "ytfjngkdpembdcaa", sum := "257cb3050ca7ac1e6dd1739117cbd2dd893b7246e1226ff5bd648e6b696053b7", checked := Try.checked }
namespace Rows
def none {H : Type} : Left H := { results := [], args := [] }

/-- 'ablautlaw02.WordSorts': WHATEVER THE INPUT: true; the input reads as it did. -/
def wordSortsSpec : ChangeSpec := { name := "wordSorts", fn := fun _ => fun
  | [d] => { results := [.lit (.bool true)], args := [d] }
  | _ => none }
def wordSortsRow : OpenClaim := { program := "ytfjngkdpembdcaa", sum := "257cb3050ca7ac1e6dd1739117cbd2dd893b7246e1226ff5bd648e6b696053b7", func := "ablaut/ablautlaw02.WordSorts", spec := "wordSorts", unfollowed := true, recurses := true, apart := false }
def WordSortsSaid : Prop := wordSortsRow.holds Try.pinned (OpenSpec.ofChange wordSortsSpec)

/-- ITS FALSE NEIGHBOUR: 'it returns false'. Refute it at one input. -/
def wordSortsWrong : ChangeSpec := { name := "wordSorts", fn := fun _ => fun
  | [d] => { results := [.lit (.bool false)], args := [d] }
  | _ => none }
def WordSortsWrongFalsely : Prop := wordSortsRow.holds Try.pinned (OpenSpec.ofChange wordSortsWrong)

/-- 'ablautlaw02.WordSorted': WHATEVER THE INPUT: true; the input reads as it did. -/
def wordSortedSpec : ChangeSpec := { name := "wordSorted", fn := fun _ => fun
  | [d1, d2] => { results := [.lit (.bool true)], args := [d1, d2] }
  | _ => none }
def wordSortedRow : OpenClaim := { program := "ytfjngkdpembdcaa", sum := "257cb3050ca7ac1e6dd1739117cbd2dd893b7246e1226ff5bd648e6b696053b7", func := "ablaut/ablautlaw02.WordSorted", spec := "wordSorted", unfollowed := true, recurses := true, apart := false }
def WordSortedSaid : Prop := wordSortedRow.holds Try.pinned (OpenSpec.ofChange wordSortedSpec)

/-- ITS FALSE NEIGHBOUR: 'it returns false'. Refute it at one input. -/
def wordSortedWrong : ChangeSpec := { name := "wordSorted", fn := fun _ => fun
  | [d1, d2] => { results := [.lit (.bool false)], args := [d1, d2] }
  | _ => none }
def WordSortedWrongFalsely : Prop := wordSortedRow.holds Try.pinned (OpenSpec.ofChange wordSortedWrong)

/-- 'ablautlaw02.WordEnds': WHATEVER THE INPUT: true; the input reads as it did. -/
def wordEndsSpec : ChangeSpec := { name := "wordEnds", fn := fun _ => fun
  | [] => { results := [.lit (.bool true)], args := [] }
  | _ => none }
def wordEndsRow : OpenClaim := { program := "ytfjngkdpembdcaa", sum := "257cb3050ca7ac1e6dd1739117cbd2dd893b7246e1226ff5bd648e6b696053b7", func := "ablaut/ablautlaw02.WordEnds", spec := "wordEnds", unfollowed := true, recurses := true, apart := false }
def WordEndsSaid : Prop := wordEndsRow.holds Try.pinned (OpenSpec.ofChange wordEndsSpec)

/-- ITS FALSE NEIGHBOUR: 'it returns false'. Refute it at one input. -/
def wordEndsWrong : ChangeSpec := { name := "wordEnds", fn := fun _ => fun
  | [] => { results := [.lit (.bool false)], args := [] }
  | _ => none }
def WordEndsWrongFalsely : Prop := wordEndsRow.holds Try.pinned (OpenSpec.ofChange wordEndsWrong)

/- THE SECOND FORM. 'bulk': how many values and letters a reading holds, each counted each time it is reached (what is shared counts as often as it is met; a slice's spare places count too). A statement '..UptoSaid' is the law's where the arguments, and the package variables that the reading takes, are together of bulk at most 1048576: NARROWER than '..Said'. Prove '..Said' where nothing that the law and all that it calls make is longer than what came in: it says more and counts as full. Else prove '..UptoSaid'. A law counts once. -/
mutual
def uptoBulk {H : Type} : DataW H → Nat
  | .lit (.string bytes) => bytes.length + 1
  | .lit _ => 1
  | .nil => 1
  | .ptr d => uptoBulk d + 1
  | .slice elems spare => uptoBulkAll elems + uptoBulkAll spare + 1
  | .agg parts => uptoBulkAll parts + 1
  | .iface _ d => uptoBulk d + 1
  | .map entries => uptoBulkEntries entries + 1
  | .held _ => 1
def uptoBulkAll {H : Type} : List (DataW H) → Nat
  | [] => 0
  | d :: r => uptoBulk d + uptoBulkAll r
def uptoBulkEntries {H : Type} : List (Lit × DataW H) → Nat
  | [] => 0
  | x :: r => uptoBulkEntry x + uptoBulkEntries r
def uptoBulkEntry {H : Type} : Lit × DataW H → Nat
  | (.string bytes, d) => bytes.length + uptoBulk d + 1
  | (_, d) => uptoBulk d + 1
 end
def uptoSmall : (H : Type) → List (DataW H) → Bool := fun _ ds => decide (uptoBulkAll ds ≤ 1048576)
def OpenSpec.upto (s : _root_.Go.ChangeSpec) : _root_.Go.OpenSpec := { _root_.Go.OpenSpec.ofChange s with cond := some uptoSmall }

/-- 'ablautlaw02.WordSorts', WHERE WHAT IT READS IS OF BULK AT MOST 1048576: true; the input reads as it did. -/
def wordSortsUptoRow : OpenClaim := { program := "ytfjngkdpembdcaa", sum := "257cb3050ca7ac1e6dd1739117cbd2dd893b7246e1226ff5bd648e6b696053b7", func := "ablaut/ablautlaw02.WordSorts", spec := "wordSorts", unfollowed := true, recurses := true, apart := false, narrowed := true }
def WordSortsUptoSaid : Prop := wordSortsUptoRow.holds Try.pinned (OpenSpec.upto wordSortsSpec)

/-- 'ablautlaw02.WordSorted', WHERE WHAT IT READS IS OF BULK AT MOST 1048576: true; the input reads as it did. -/
def wordSortedUptoRow : OpenClaim := { program := "ytfjngkdpembdcaa", sum := "257cb3050ca7ac1e6dd1739117cbd2dd893b7246e1226ff5bd648e6b696053b7", func := "ablaut/ablautlaw02.WordSorted", spec := "wordSorted", unfollowed := true, recurses := true, apart := false, narrowed := true }
def WordSortedUptoSaid : Prop := wordSortedUptoRow.holds Try.pinned (OpenSpec.upto wordSortedSpec)

/-- 'ablautlaw02.WordEnds', WHERE WHAT IT READS IS OF BULK AT MOST 1048576: true; the input reads as it did. -/
def wordEndsUptoRow : OpenClaim := { program := "ytfjngkdpembdcaa", sum := "257cb3050ca7ac1e6dd1739117cbd2dd893b7246e1226ff5bd648e6b696053b7", func := "ablaut/ablautlaw02.WordEnds", spec := "wordEnds", unfollowed := true, recurses := true, apart := false, narrowed := true }
def WordEndsUptoSaid : Prop := wordEndsUptoRow.holds Try.pinned (OpenSpec.upto wordEndsSpec)

end Rows
end Go.Proofs.Ytfjngkdpembdcaa
