/-
  DERIVED. GIVEN WITH THE SEED: THE CARDS: each row of YtmgikhldkebjbaaDoorRows.lean that lists a variable, with what it lists TIED to the program's text (the seventh form; the later family's looks); each row that meets fmt, with fmt's text TOLD by the authors' own Lean function (tested against real Go, not proved from fmt's source: count such statements apart). THE CARD IS WHAT COUNTS. Prove the row's statement (the work); the ties are given (YtmgikhldkebjbaaDoorTie.lean); close each card by the builder's one call (the guide's Derived/Test/ToyasCard.lean, 'card_holds'). Laid BY PROGRAM, IN A SANDBOX (cutbox-door.mjs). By AI agents, Wed Nov 11 2026. No macro, syntax, notation, axiom, sorry.
-/
import Derived.Test.YtmgikhldkebjbaaDoorRows
import GoSem.ClaimSeven
namespace Go.Proofs.YtmgikhldkebjbaaDoor
namespace Rows

/-- THE TIED CARD OF 'ablautlaw03.InventoryAny'. -/
def inventoryAnyCard : Claim7 := { stood := { row := inventoryAnyRow, standIns := [], harness := (true, "67184a3816f1cdd6abf6a7691eecf5f1980957d2a48e3a501ead1f5cebeaf506"), looks := false }, kinds := [], alts := [], laidByText := true, laidKinds := [.data, .pinned], laidTests := true, laidLooks := .later }
def InventoryAnyCardSaid : Prop := Claim7.holds Tryd.pinned (.plain (OpenSpec.ofChange inventoryAnySpec)) inventoryAnyCard

/-- THE SECOND FORM's CARD OF 'ablautlaw03.InventoryAny'. -/
def inventoryAnyUptoCard : Claim7 := { stood := { row := inventoryAnyUptoRow, standIns := [], harness := (true, "67184a3816f1cdd6abf6a7691eecf5f1980957d2a48e3a501ead1f5cebeaf506"), looks := false }, kinds := [], alts := [], laidByText := true, laidKinds := [.data, .pinned], laidTests := true, laidLooks := .later }
def InventoryAnyUptoCardSaid : Prop := Claim7.holds Tryd.pinned (.plain (OpenSpec.upto inventoryAnySpec)) inventoryAnyUptoCard
end Rows
end Go.Proofs.YtmgikhldkebjbaaDoor
