/-
  DERIVED. GIVEN WITH THE SEED: THE CARDS: each row of YtnojnikophpnoaaDoorRows.lean that lists a variable, with what it lists TIED to the program's text (the seventh form; the later family's looks); each row that meets fmt, with fmt's text TOLD by the authors' own Lean function (tested against real Go, not proved from fmt's source: count such statements apart). THE CARD IS WHAT COUNTS. Prove the row's statement (the work); the ties are given (YtnojnikophpnoaaDoorTie.lean); close each card by the builder's one call (the guide's Derived/Test/ToyasCard.lean, 'card_holds'). Laid BY PROGRAM, IN A SANDBOX (cutbox-door.mjs). By AI agents, Wed Nov 11 2026. No macro, syntax, notation, axiom, sorry.
-/
import Derived.Test.YtnojnikophpnoaaDoorRows
import GoSem.ClaimSeven
namespace Go.Proofs.YtnojnikophpnoaaDoor
namespace Rows

/-- THE TIED CARD OF 'laws.FnExactPieceText'. -/
def fnExactPieceTextCard : Claim7 := { stood := { row := fnExactPieceTextRow, standIns := [], harness := (true, "ef77cfa7adcefe82874b53a52653fa5229df845fd1cd509214fd81965980fb96"), looks := true }, kinds := [], alts := [], laidByText := true, laidKinds := [.data, .data, .data], laidTests := true, laidLooks := .later }
def FnExactPieceTextCardSaid : Prop := Claim7.holds Tryd.pinned (.plain (OpenSpec.ofChange fnExactPieceTextSpec)) fnExactPieceTextCard

/-- THE TIED CARD OF 'laws.FnExactReadPiece'. -/
def fnExactReadPieceCard : Claim7 := { stood := { row := fnExactReadPieceRow, standIns := [], harness := (true, "ef77cfa7adcefe82874b53a52653fa5229df845fd1cd509214fd81965980fb96"), looks := true }, kinds := [], alts := [], laidByText := true, laidKinds := [.data, .data, .data, .data, .sentinel, .sentinel, .pinned], laidTests := true, laidLooks := .later }
def FnExactReadPieceCardSaid : Prop := Claim7.holds Tryd.pinned (.plain (OpenSpec.ofChange fnExactReadPieceSpec)) fnExactReadPieceCard

/-- THE SECOND FORM's CARD OF 'laws.FnExactPieceText'. -/
def fnExactPieceTextUptoCard : Claim7 := { stood := { row := fnExactPieceTextUptoRow, standIns := [], harness := (true, "ef77cfa7adcefe82874b53a52653fa5229df845fd1cd509214fd81965980fb96"), looks := true }, kinds := [], alts := [], laidByText := true, laidKinds := [.data, .data, .data], laidTests := true, laidLooks := .later }
def FnExactPieceTextUptoCardSaid : Prop := Claim7.holds Tryd.pinned (.plain (OpenSpec.upto fnExactPieceTextSpec)) fnExactPieceTextUptoCard

/-- THE SECOND FORM's CARD OF 'laws.FnExactReadPiece'. -/
def fnExactReadPieceUptoCard : Claim7 := { stood := { row := fnExactReadPieceUptoRow, standIns := [], harness := (true, "ef77cfa7adcefe82874b53a52653fa5229df845fd1cd509214fd81965980fb96"), looks := true }, kinds := [], alts := [], laidByText := true, laidKinds := [.data, .data, .data, .data, .sentinel, .sentinel, .pinned], laidTests := true, laidLooks := .later }
def FnExactReadPieceUptoCardSaid : Prop := Claim7.holds Tryd.pinned (.plain (OpenSpec.upto fnExactReadPieceSpec)) fnExactReadPieceUptoCard
end Rows
end Go.Proofs.YtnojnikophpnoaaDoor
