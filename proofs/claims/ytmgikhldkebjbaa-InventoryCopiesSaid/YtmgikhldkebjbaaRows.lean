/-
  No cell of these rows narrows 'for every input' (looked for: loops, veiled, ifaces, maps, wideKeys, modest, calm, conditions, laid).
  DERIVED. THE GIVEN ROWS OF THIS SEAT. 10 by the template 'for every input the law returns true; each argument reads behind the call as it read before'; 0 by the template 'total and deterministic' (their statements: YtmgikhldkebjbaaTotals.lean).
  GIVEN WITH THE SEED: the statements are not yours to turn. If you find one false, say at which input.
  Laid BY PROGRAM, IN A SANDBOX (cutbox-rows.mjs): the forced cells as the released guide's own fill.sh prints them over the translation c34fb57a5a708abc… (all of the seat's roots in one cut). By AI agents, Wed Nov 11 2026. No macro, syntax, notation, axiom, sorry.
-/
import Derived.Test.YtmgikhldkebjbaaChecked
import GoSem.Claim
import GoSem.ClaimJoined
import GoSem.ClaimMapViews
import Derived.JoinedTies
import Derived.KernelRfl
namespace Go.Proofs.Ytmgikhldkebjbaa
/- THE CELL 'sum', in the pinned program and in every row, IS THE sha256 OF THE DUMP (.gsa) THAT YtmgikhldkebjbaaProg.lean LOADS. Nothing in Lean hashes anything: it is a label: what it is worth is what the hold of that sum in a sandbox is worth. -/
noncomputable def Try.pinned : Pinned := { name := "ytmgikhldkebjbaa", sum := "c34fb57a5a708abc0ba0d9757b9179874cd6f86338ec1d2708dc8a40b3488648", checked := Try.checked }
namespace Rows
def none {H : Type} : Left H := { results := [], args := [] }

/-- 'ablautlaw03.InventoryNews': WHATEVER THE INPUT: true; the input reads as it did. -/
def inventoryNewsSpec : ChangeSpec := { name := "inventoryNews", fn := fun _ => fun
  | [d1, d2] => { results := [.lit (.bool true)], args := [d1, d2] }
  | _ => none }
def inventoryNewsRow : OpenClaim := { program := "ytmgikhldkebjbaa", sum := "c34fb57a5a708abc0ba0d9757b9179874cd6f86338ec1d2708dc8a40b3488648", func := "ablaut/ablautlaw03.InventoryNews", spec := "inventoryNews", inPlace := ["internal/bytealg.IndexByteString", "internal/bytealg.IndexString", "internal/abi.NoEscape", "internal/bytealg.MakeNoZero"], unfollowed := true, recurses := true, named := ["internal/bytealg.MaxLen"], plainKeys := false, apart := false }
def InventoryNewsSaid : Prop := inventoryNewsRow.holds Try.pinned (OpenSpec.ofChange inventoryNewsSpec)

/-- ITS FALSE NEIGHBOUR: 'it returns false'. Refute it at one input. -/
def inventoryNewsWrong : ChangeSpec := { name := "inventoryNews", fn := fun _ => fun
  | [d1, d2] => { results := [.lit (.bool false)], args := [d1, d2] }
  | _ => none }
def InventoryNewsWrongFalsely : Prop := inventoryNewsRow.holds Try.pinned (OpenSpec.ofChange inventoryNewsWrong)

/-- 'ablautlaw03.InventoryPlays': WHATEVER THE INPUT: true; the input reads as it did. -/
def inventoryPlaysSpec : ChangeSpec := { name := "inventoryPlays", fn := fun _ => fun
  | [d1, d2, d3] => { results := [.lit (.bool true)], args := [d1, d2, d3] }
  | _ => none }
def inventoryPlaysRow : OpenClaim := { program := "ytmgikhldkebjbaa", sum := "c34fb57a5a708abc0ba0d9757b9179874cd6f86338ec1d2708dc8a40b3488648", func := "ablaut/ablautlaw03.InventoryPlays", spec := "inventoryPlays", inPlace := ["internal/bytealg.IndexByteString", "internal/bytealg.IndexString", "internal/abi.NoEscape", "internal/bytealg.MakeNoZero"], unfollowed := true, recurses := true, named := ["internal/bytealg.MaxLen"], plainKeys := false, apart := false }
def InventoryPlaysSaid : Prop := inventoryPlaysRow.holds Try.pinned (OpenSpec.ofChange inventoryPlaysSpec)

/-- ITS FALSE NEIGHBOUR: 'it returns false'. Refute it at one input. -/
def inventoryPlaysWrong : ChangeSpec := { name := "inventoryPlays", fn := fun _ => fun
  | [d1, d2, d3] => { results := [.lit (.bool false)], args := [d1, d2, d3] }
  | _ => none }
def InventoryPlaysWrongFalsely : Prop := inventoryPlaysRow.holds Try.pinned (OpenSpec.ofChange inventoryPlaysWrong)

/-- 'ablautlaw03.InventoryBundles': WHATEVER THE INPUT: true; the input reads as it did. -/
def inventoryBundlesSpec : ChangeSpec := { name := "inventoryBundles", fn := fun _ => fun
  | [d1, d2] => { results := [.lit (.bool true)], args := [d1, d2] }
  | _ => none }
def inventoryBundlesRow : OpenClaim := { program := "ytmgikhldkebjbaa", sum := "c34fb57a5a708abc0ba0d9757b9179874cd6f86338ec1d2708dc8a40b3488648", func := "ablaut/ablautlaw03.InventoryBundles", spec := "inventoryBundles", inPlace := ["internal/bytealg.IndexByteString", "internal/bytealg.IndexString", "internal/abi.NoEscape", "internal/bytealg.MakeNoZero"], unfollowed := true, recurses := true, named := ["internal/bytealg.MaxLen"], plainKeys := false, apart := false }
def InventoryBundlesSaid : Prop := inventoryBundlesRow.holds Try.pinned (OpenSpec.ofChange inventoryBundlesSpec)

/-- ITS FALSE NEIGHBOUR: 'it returns false'. Refute it at one input. -/
def inventoryBundlesWrong : ChangeSpec := { name := "inventoryBundles", fn := fun _ => fun
  | [d1, d2] => { results := [.lit (.bool false)], args := [d1, d2] }
  | _ => none }
def InventoryBundlesWrongFalsely : Prop := inventoryBundlesRow.holds Try.pinned (OpenSpec.ofChange inventoryBundlesWrong)

/-- 'ablautlaw03.InventoryTexts': WHATEVER THE INPUT: true; the input reads as it did. -/
def inventoryTextsSpec : ChangeSpec := { name := "inventoryTexts", fn := fun _ => fun
  | [d1, d2] => { results := [.lit (.bool true)], args := [d1, d2] }
  | _ => none }
def inventoryTextsRow : OpenClaim := { program := "ytmgikhldkebjbaa", sum := "c34fb57a5a708abc0ba0d9757b9179874cd6f86338ec1d2708dc8a40b3488648", func := "ablaut/ablautlaw03.InventoryTexts", spec := "inventoryTexts", inPlace := ["internal/bytealg.IndexByteString", "internal/bytealg.IndexString", "internal/abi.NoEscape", "internal/bytealg.MakeNoZero"], unfollowed := true, recurses := true, named := ["internal/bytealg.MaxLen"], plainKeys := false, apart := false }
def InventoryTextsSaid : Prop := inventoryTextsRow.holds Try.pinned (OpenSpec.ofChange inventoryTextsSpec)

/-- ITS FALSE NEIGHBOUR: 'it returns false'. Refute it at one input. -/
def inventoryTextsWrong : ChangeSpec := { name := "inventoryTexts", fn := fun _ => fun
  | [d1, d2] => { results := [.lit (.bool false)], args := [d1, d2] }
  | _ => none }
def InventoryTextsWrongFalsely : Prop := inventoryTextsRow.holds Try.pinned (OpenSpec.ofChange inventoryTextsWrong)

/-- 'ablautlaw03.InventoryNil': WHATEVER THE INPUT: true; the input reads as it did. -/
def inventoryNilSpec : ChangeSpec := { name := "inventoryNil", fn := fun _ => fun
  | [d1, d2] => { results := [.lit (.bool true)], args := [d1, d2] }
  | _ => none }
def inventoryNilRow : OpenClaim := { program := "ytmgikhldkebjbaa", sum := "c34fb57a5a708abc0ba0d9757b9179874cd6f86338ec1d2708dc8a40b3488648", func := "ablaut/ablautlaw03.InventoryNil", spec := "inventoryNil", inPlace := ["internal/bytealg.IndexByteString", "internal/bytealg.IndexString", "internal/abi.NoEscape", "internal/bytealg.MakeNoZero", "maps.clone"], unfollowed := true, recurses := true, named := ["internal/bytealg.MaxLen"], plainKeys := false, apart := false }
def InventoryNilSaid : Prop := inventoryNilRow.holds Try.pinned (OpenSpec.ofChange inventoryNilSpec)

/-- ITS FALSE NEIGHBOUR: 'it returns false'. Refute it at one input. -/
def inventoryNilWrong : ChangeSpec := { name := "inventoryNil", fn := fun _ => fun
  | [d1, d2] => { results := [.lit (.bool false)], args := [d1, d2] }
  | _ => none }
def InventoryNilWrongFalsely : Prop := inventoryNilRow.holds Try.pinned (OpenSpec.ofChange inventoryNilWrong)

/-- 'ablautlaw03.InventoryBack': WHATEVER THE INPUT: true; the input reads as it did. -/
def inventoryBackSpec : ChangeSpec := { name := "inventoryBack", fn := fun _ => fun
  | [d1, d2] => { results := [.lit (.bool true)], args := [d1, d2] }
  | _ => none }
def inventoryBackRow : OpenClaim := { program := "ytmgikhldkebjbaa", sum := "c34fb57a5a708abc0ba0d9757b9179874cd6f86338ec1d2708dc8a40b3488648", func := "ablaut/ablautlaw03.InventoryBack", spec := "inventoryBack", inPlace := ["internal/bytealg.IndexByteString", "internal/abi.NoEscape", "internal/bytealg.MakeNoZero", "internal/bytealg.IndexString"], unfollowed := true, recurses := true, named := ["internal/bytealg.MaxLen"], plainKeys := false, apart := false }
def InventoryBackSaid : Prop := inventoryBackRow.holds Try.pinned (OpenSpec.ofChange inventoryBackSpec)

/-- ITS FALSE NEIGHBOUR: 'it returns false'. Refute it at one input. -/
def inventoryBackWrong : ChangeSpec := { name := "inventoryBack", fn := fun _ => fun
  | [d1, d2] => { results := [.lit (.bool false)], args := [d1, d2] }
  | _ => none }
def InventoryBackWrongFalsely : Prop := inventoryBackRow.holds Try.pinned (OpenSpec.ofChange inventoryBackWrong)

/-- 'ablautlaw03.InventoryFinds': WHATEVER THE INPUT: true; the input reads as it did. -/
def inventoryFindsSpec : ChangeSpec := { name := "inventoryFinds", fn := fun _ => fun
  | [d1, d2, d3] => { results := [.lit (.bool true)], args := [d1, d2, d3] }
  | _ => none }
def inventoryFindsRow : OpenClaim := { program := "ytmgikhldkebjbaa", sum := "c34fb57a5a708abc0ba0d9757b9179874cd6f86338ec1d2708dc8a40b3488648", func := "ablaut/ablautlaw03.InventoryFinds", spec := "inventoryFinds", inPlace := ["internal/bytealg.IndexByteString", "internal/bytealg.IndexString", "internal/abi.NoEscape", "internal/bytealg.MakeNoZero"], unfollowed := true, recurses := true, named := ["internal/bytealg.MaxLen"], plainKeys := false, apart := false }
def InventoryFindsSaid : Prop := inventoryFindsRow.holds Try.pinned (OpenSpec.ofChange inventoryFindsSpec)

/-- ITS FALSE NEIGHBOUR: 'it returns false'. Refute it at one input. -/
def inventoryFindsWrong : ChangeSpec := { name := "inventoryFinds", fn := fun _ => fun
  | [d1, d2, d3] => { results := [.lit (.bool false)], args := [d1, d2, d3] }
  | _ => none }
def InventoryFindsWrongFalsely : Prop := inventoryFindsRow.holds Try.pinned (OpenSpec.ofChange inventoryFindsWrong)

/-- 'ablautlaw03.InventoryLongest': WHATEVER THE INPUT: true; the input reads as it did. -/
def inventoryLongestSpec : ChangeSpec := { name := "inventoryLongest", fn := fun _ => fun
  | [d1, d2] => { results := [.lit (.bool true)], args := [d1, d2] }
  | _ => none }
def inventoryLongestRow : OpenClaim := { program := "ytmgikhldkebjbaa", sum := "c34fb57a5a708abc0ba0d9757b9179874cd6f86338ec1d2708dc8a40b3488648", func := "ablaut/ablautlaw03.InventoryLongest", spec := "inventoryLongest", inPlace := ["internal/bytealg.IndexByteString", "internal/bytealg.IndexString", "internal/abi.NoEscape", "internal/bytealg.MakeNoZero"], unfollowed := true, recurses := true, named := ["internal/bytealg.MaxLen"], plainKeys := false, apart := false }
def InventoryLongestSaid : Prop := inventoryLongestRow.holds Try.pinned (OpenSpec.ofChange inventoryLongestSpec)

/-- ITS FALSE NEIGHBOUR: 'it returns false'. Refute it at one input. -/
def inventoryLongestWrong : ChangeSpec := { name := "inventoryLongest", fn := fun _ => fun
  | [d1, d2] => { results := [.lit (.bool false)], args := [d1, d2] }
  | _ => none }
def InventoryLongestWrongFalsely : Prop := inventoryLongestRow.holds Try.pinned (OpenSpec.ofChange inventoryLongestWrong)

/-- 'ablautlaw03.InventoryCopies': WHATEVER THE INPUT: true; the input reads as it did. -/
def inventoryCopiesSpec : ChangeSpec := { name := "inventoryCopies", fn := fun _ => fun
  | [d1, d2, d3] => { results := [.lit (.bool true)], args := [d1, d2, d3] }
  | _ => none }
def inventoryCopiesRow : OpenClaim := { program := "ytmgikhldkebjbaa", sum := "c34fb57a5a708abc0ba0d9757b9179874cd6f86338ec1d2708dc8a40b3488648", func := "ablaut/ablautlaw03.InventoryCopies", spec := "inventoryCopies", inPlace := ["internal/bytealg.IndexByteString", "maps.clone", "internal/bytealg.IndexString", "internal/abi.NoEscape", "internal/bytealg.MakeNoZero"], unfollowed := true, recurses := true, named := ["internal/bytealg.MaxLen"], plainKeys := false, apart := false }
def InventoryCopiesSaid : Prop := inventoryCopiesRow.holds Try.pinned (OpenSpec.ofChange inventoryCopiesSpec)

/-- ITS FALSE NEIGHBOUR: 'it returns false'. Refute it at one input. -/
def inventoryCopiesWrong : ChangeSpec := { name := "inventoryCopies", fn := fun _ => fun
  | [d1, d2, d3] => { results := [.lit (.bool false)], args := [d1, d2, d3] }
  | _ => none }
def InventoryCopiesWrongFalsely : Prop := inventoryCopiesRow.holds Try.pinned (OpenSpec.ofChange inventoryCopiesWrong)

/-- 'ablautlaw03.InventoryFull': WHATEVER THE INPUT: true; the input reads as it did. -/
def inventoryFullSpec : ChangeSpec := { name := "inventoryFull", fn := fun _ => fun
  | [d] => { results := [.lit (.bool true)], args := [d] }
  | _ => none }
def inventoryFullRow : OpenClaim := { program := "ytmgikhldkebjbaa", sum := "c34fb57a5a708abc0ba0d9757b9179874cd6f86338ec1d2708dc8a40b3488648", func := "ablaut/ablautlaw03.InventoryFull", spec := "inventoryFull", inPlace := ["internal/bytealg.IndexByteString", "internal/bytealg.IndexString", "internal/abi.NoEscape", "internal/bytealg.MakeNoZero"], unfollowed := true, recurses := true, named := ["internal/bytealg.MaxLen"], plainKeys := false, apart := false }
def InventoryFullSaid : Prop := inventoryFullRow.holds Try.pinned (OpenSpec.ofChange inventoryFullSpec)

/-- ITS FALSE NEIGHBOUR: 'it returns false'. Refute it at one input. -/
def inventoryFullWrong : ChangeSpec := { name := "inventoryFull", fn := fun _ => fun
  | [d] => { results := [.lit (.bool false)], args := [d] }
  | _ => none }
def InventoryFullWrongFalsely : Prop := inventoryFullRow.holds Try.pinned (OpenSpec.ofChange inventoryFullWrong)

/- THE SECOND FORM. 'bulk': how many values and letters a reading holds, each counted each time it is reached (what is shared counts as often as it is met; a slice's spare places count too). A statement '..UptoSaid' is the law's where the arguments, and the package variables that the reading takes, are together of bulk at most 1048576: NARROWER than '..Said'. Prove '..Said' where nothing that the law and all that it calls make is longer than what came in: it says more and counts as full. Else prove '..UptoSaid'. A law counts once. -/
mutual
def uptoBulk {H : Type} : DataW H → Nat
  | .lit (.string bytes) => bytes.length + 1
  | .lit _ => 1
  | .nil => 1
  | .ptr d => uptoBulk d + 1
  | .slice elems spare => uptoBulkAll elems + uptoBulkAll spare + 1
  | .agg parts => uptoBulkAll parts + 1
  | .iface _ d => uptoBulk d + 1
  | .map entries => uptoBulkEntries entries + 1
  | .held _ => 1
def uptoBulkAll {H : Type} : List (DataW H) → Nat
  | [] => 0
  | d :: r => uptoBulk d + uptoBulkAll r
def uptoBulkEntries {H : Type} : List (Lit × DataW H) → Nat
  | [] => 0
  | x :: r => uptoBulkEntry x + uptoBulkEntries r
def uptoBulkEntry {H : Type} : Lit × DataW H → Nat
  | (.string bytes, d) => bytes.length + uptoBulk d + 1
  | (_, d) => uptoBulk d + 1
 end
def uptoSmall : (H : Type) → List (DataW H) → Bool := fun _ ds => decide (uptoBulkAll ds ≤ 1048576)
def OpenSpec.upto (s : _root_.Go.ChangeSpec) : _root_.Go.OpenSpec := { _root_.Go.OpenSpec.ofChange s with cond := some uptoSmall }

/-- 'ablautlaw03.InventoryNews', WHERE WHAT IT READS IS OF BULK AT MOST 1048576: true; the input reads as it did. -/
def inventoryNewsUptoRow : OpenClaim := { program := "ytmgikhldkebjbaa", sum := "c34fb57a5a708abc0ba0d9757b9179874cd6f86338ec1d2708dc8a40b3488648", func := "ablaut/ablautlaw03.InventoryNews", spec := "inventoryNews", inPlace := ["internal/bytealg.IndexByteString", "internal/bytealg.IndexString", "internal/abi.NoEscape", "internal/bytealg.MakeNoZero"], unfollowed := true, recurses := true, named := ["internal/bytealg.MaxLen"], plainKeys := false, apart := false, narrowed := true }
def InventoryNewsUptoSaid : Prop := inventoryNewsUptoRow.holds Try.pinned (OpenSpec.upto inventoryNewsSpec)

/-- 'ablautlaw03.InventoryPlays', WHERE WHAT IT READS IS OF BULK AT MOST 1048576: true; the input reads as it did. -/
def inventoryPlaysUptoRow : OpenClaim := { program := "ytmgikhldkebjbaa", sum := "c34fb57a5a708abc0ba0d9757b9179874cd6f86338ec1d2708dc8a40b3488648", func := "ablaut/ablautlaw03.InventoryPlays", spec := "inventoryPlays", inPlace := ["internal/bytealg.IndexByteString", "internal/bytealg.IndexString", "internal/abi.NoEscape", "internal/bytealg.MakeNoZero"], unfollowed := true, recurses := true, named := ["internal/bytealg.MaxLen"], plainKeys := false, apart := false, narrowed := true }
def InventoryPlaysUptoSaid : Prop := inventoryPlaysUptoRow.holds Try.pinned (OpenSpec.upto inventoryPlaysSpec)

/-- 'ablautlaw03.InventoryBundles', WHERE WHAT IT READS IS OF BULK AT MOST 1048576: true; the input reads as it did. -/
def inventoryBundlesUptoRow : OpenClaim := { program := "ytmgikhldkebjbaa", sum := "c34fb57a5a708abc0ba0d9757b9179874cd6f86338ec1d2708dc8a40b3488648", func := "ablaut/ablautlaw03.InventoryBundles", spec := "inventoryBundles", inPlace := ["internal/bytealg.IndexByteString", "internal/bytealg.IndexString", "internal/abi.NoEscape", "internal/bytealg.MakeNoZero"], unfollowed := true, recurses := true, named := ["internal/bytealg.MaxLen"], plainKeys := false, apart := false, narrowed := true }
def InventoryBundlesUptoSaid : Prop := inventoryBundlesUptoRow.holds Try.pinned (OpenSpec.upto inventoryBundlesSpec)

/-- 'ablautlaw03.InventoryTexts', WHERE WHAT IT READS IS OF BULK AT MOST 1048576: true; the input reads as it did. -/
def inventoryTextsUptoRow : OpenClaim := { program := "ytmgikhldkebjbaa", sum := "c34fb57a5a708abc0ba0d9757b9179874cd6f86338ec1d2708dc8a40b3488648", func := "ablaut/ablautlaw03.InventoryTexts", spec := "inventoryTexts", inPlace := ["internal/bytealg.IndexByteString", "internal/bytealg.IndexString", "internal/abi.NoEscape", "internal/bytealg.MakeNoZero"], unfollowed := true, recurses := true, named := ["internal/bytealg.MaxLen"], plainKeys := false, apart := false, narrowed := true }
def InventoryTextsUptoSaid : Prop := inventoryTextsUptoRow.holds Try.pinned (OpenSpec.upto inventoryTextsSpec)

/-- 'ablautlaw03.InventoryNil', WHERE WHAT IT READS IS OF BULK AT MOST 1048576: true; the input reads as it did. -/
def inventoryNilUptoRow : OpenClaim := { program := "ytmgikhldkebjbaa", sum := "c34fb57a5a708abc0ba0d9757b9179874cd6f86338ec1d2708dc8a40b3488648", func := "ablaut/ablautlaw03.InventoryNil", spec := "inventoryNil", inPlace := ["internal/bytealg.IndexByteString", "internal/bytealg.IndexString", "internal/abi.NoEscape", "internal/bytealg.MakeNoZero", "maps.clone"], unfollowed := true, recurses := true, named := ["internal/bytealg.MaxLen"], plainKeys := false, apart := false, narrowed := true }
def InventoryNilUptoSaid : Prop := inventoryNilUptoRow.holds Try.pinned (OpenSpec.upto inventoryNilSpec)

/-- 'ablautlaw03.InventoryBack', WHERE WHAT IT READS IS OF BULK AT MOST 1048576: true; the input reads as it did. -/
def inventoryBackUptoRow : OpenClaim := { program := "ytmgikhldkebjbaa", sum := "c34fb57a5a708abc0ba0d9757b9179874cd6f86338ec1d2708dc8a40b3488648", func := "ablaut/ablautlaw03.InventoryBack", spec := "inventoryBack", inPlace := ["internal/bytealg.IndexByteString", "internal/abi.NoEscape", "internal/bytealg.MakeNoZero", "internal/bytealg.IndexString"], unfollowed := true, recurses := true, named := ["internal/bytealg.MaxLen"], plainKeys := false, apart := false, narrowed := true }
def InventoryBackUptoSaid : Prop := inventoryBackUptoRow.holds Try.pinned (OpenSpec.upto inventoryBackSpec)

/-- 'ablautlaw03.InventoryFinds', WHERE WHAT IT READS IS OF BULK AT MOST 1048576: true; the input reads as it did. -/
def inventoryFindsUptoRow : OpenClaim := { program := "ytmgikhldkebjbaa", sum := "c34fb57a5a708abc0ba0d9757b9179874cd6f86338ec1d2708dc8a40b3488648", func := "ablaut/ablautlaw03.InventoryFinds", spec := "inventoryFinds", inPlace := ["internal/bytealg.IndexByteString", "internal/bytealg.IndexString", "internal/abi.NoEscape", "internal/bytealg.MakeNoZero"], unfollowed := true, recurses := true, named := ["internal/bytealg.MaxLen"], plainKeys := false, apart := false, narrowed := true }
def InventoryFindsUptoSaid : Prop := inventoryFindsUptoRow.holds Try.pinned (OpenSpec.upto inventoryFindsSpec)

/-- 'ablautlaw03.InventoryLongest', WHERE WHAT IT READS IS OF BULK AT MOST 1048576: true; the input reads as it did. -/
def inventoryLongestUptoRow : OpenClaim := { program := "ytmgikhldkebjbaa", sum := "c34fb57a5a708abc0ba0d9757b9179874cd6f86338ec1d2708dc8a40b3488648", func := "ablaut/ablautlaw03.InventoryLongest", spec := "inventoryLongest", inPlace := ["internal/bytealg.IndexByteString", "internal/bytealg.IndexString", "internal/abi.NoEscape", "internal/bytealg.MakeNoZero"], unfollowed := true, recurses := true, named := ["internal/bytealg.MaxLen"], plainKeys := false, apart := false, narrowed := true }
def InventoryLongestUptoSaid : Prop := inventoryLongestUptoRow.holds Try.pinned (OpenSpec.upto inventoryLongestSpec)

/-- 'ablautlaw03.InventoryCopies', WHERE WHAT IT READS IS OF BULK AT MOST 1048576: true; the input reads as it did. -/
def inventoryCopiesUptoRow : OpenClaim := { program := "ytmgikhldkebjbaa", sum := "c34fb57a5a708abc0ba0d9757b9179874cd6f86338ec1d2708dc8a40b3488648", func := "ablaut/ablautlaw03.InventoryCopies", spec := "inventoryCopies", inPlace := ["internal/bytealg.IndexByteString", "maps.clone", "internal/bytealg.IndexString", "internal/abi.NoEscape", "internal/bytealg.MakeNoZero"], unfollowed := true, recurses := true, named := ["internal/bytealg.MaxLen"], plainKeys := false, apart := false, narrowed := true }
def InventoryCopiesUptoSaid : Prop := inventoryCopiesUptoRow.holds Try.pinned (OpenSpec.upto inventoryCopiesSpec)

/-- 'ablautlaw03.InventoryFull', WHERE WHAT IT READS IS OF BULK AT MOST 1048576: true; the input reads as it did. -/
def inventoryFullUptoRow : OpenClaim := { program := "ytmgikhldkebjbaa", sum := "c34fb57a5a708abc0ba0d9757b9179874cd6f86338ec1d2708dc8a40b3488648", func := "ablaut/ablautlaw03.InventoryFull", spec := "inventoryFull", inPlace := ["internal/bytealg.IndexByteString", "internal/bytealg.IndexString", "internal/abi.NoEscape", "internal/bytealg.MakeNoZero"], unfollowed := true, recurses := true, named := ["internal/bytealg.MaxLen"], plainKeys := false, apart := false, narrowed := true }
def InventoryFullUptoSaid : Prop := inventoryFullUptoRow.holds Try.pinned (OpenSpec.upto inventoryFullSpec)

end Rows
end Go.Proofs.Ytmgikhldkebjbaa
