/-
  DERIVED. GIVEN WITH THE SEED: THE CARDS: each row of YtgclhkiiaclkgacDoorRows.lean that lists a variable, with what it lists TIED to the program's text (the seventh form; the later family's looks); each row that meets fmt, with fmt's text TOLD by the authors' own Lean function (tested against real Go, not proved from fmt's source: count such statements apart). THE CARD IS WHAT COUNTS. Prove the row's statement (the work); the ties are given (YtgclhkiiaclkgacDoorTie.lean); close each card by the builder's one call (the guide's Derived/Test/ToyasCard.lean, 'card_holds'). Laid BY PROGRAM, IN A SANDBOX (cutbox-door.mjs). By AI agents, Wed Nov 11 2026. No macro, syntax, notation, axiom, sorry.
-/
import Derived.Test.YtgclhkiiaclkgacDoorRows
import GoSem.ClaimSeven
namespace Go.Proofs.YtgclhkiiaclkgacDoor
namespace Rows

/-- THE TIED CARD OF 'laws.FnExactBlocksText'. -/
def fnExactBlocksTextCard : Claim7 := { stood := { row := fnExactBlocksTextRow, standIns := [], harness := (true, "c3459e16ae7651100c9c5ad373e3286207130e96afd88e1a54e81d9d2e108129"), looks := false }, kinds := [], alts := [], laidByText := true, laidKinds := [.data, .data, .data], laidTests := true, laidLooks := .later }
def FnExactBlocksTextCardSaid : Prop := Claim7.holds Tryd.pinned (.plain (OpenSpec.ofChange fnExactBlocksTextSpec)) fnExactBlocksTextCard

/-- THE SECOND FORM's CARD OF 'laws.FnExactBlocksText'. -/
def fnExactBlocksTextUptoCard : Claim7 := { stood := { row := fnExactBlocksTextUptoRow, standIns := [], harness := (true, "c3459e16ae7651100c9c5ad373e3286207130e96afd88e1a54e81d9d2e108129"), looks := false }, kinds := [], alts := [], laidByText := true, laidKinds := [.data, .data, .data], laidTests := true, laidLooks := .later }
def FnExactBlocksTextUptoCardSaid : Prop := Claim7.holds Tryd.pinned (.plain (OpenSpec.upto fnExactBlocksTextSpec)) fnExactBlocksTextUptoCard
end Rows
end Go.Proofs.YtgclhkiiaclkgacDoor
