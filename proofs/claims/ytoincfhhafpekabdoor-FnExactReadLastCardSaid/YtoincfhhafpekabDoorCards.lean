/-
  DERIVED. GIVEN WITH THE SEED: THE CARDS: each row of YtoincfhhafpekabDoorRows.lean that lists a variable, with what it lists TIED to the program's text (the seventh form; the later family's looks); each row that meets fmt, with fmt's text TOLD by the authors' own Lean function (tested against real Go, not proved from fmt's source: count such statements apart). THE CARD IS WHAT COUNTS. Prove the row's statement (the work); the ties are given (YtoincfhhafpekabDoorTie.lean); close each card by the builder's one call (the guide's Derived/Test/ToyasCard.lean, 'card_holds'). Laid BY PROGRAM, IN A SANDBOX (cutbox-door.mjs). By AI agents, Wed Nov 11 2026. No macro, syntax, notation, axiom, sorry.
-/
import Derived.Test.YtoincfhhafpekabDoorRows
import GoSem.ClaimSeven
namespace Go.Proofs.YtoincfhhafpekabDoor
namespace Rows

/-- THE TIED CARD OF 'laws.FnExactLastText'. -/
def fnExactLastTextCard : Claim7 := { stood := { row := fnExactLastTextRow, standIns := [], harness := (true, "a0d563415004fe66543d5a534dec254e48c973fbdd37ca599f0670a57ff776ff"), looks := true }, kinds := [], alts := [], laidByText := true, laidKinds := [.data, .data, .data], laidTests := true, laidLooks := .later }
def FnExactLastTextCardSaid : Prop := Claim7.holds Tryd.pinned (.plain (OpenSpec.ofChange fnExactLastTextSpec)) fnExactLastTextCard

/-- THE TIED CARD OF 'laws.FnExactReadLast'. -/
def fnExactReadLastCard : Claim7 := { stood := { row := fnExactReadLastRow, standIns := [], harness := (true, "a0d563415004fe66543d5a534dec254e48c973fbdd37ca599f0670a57ff776ff"), looks := true }, kinds := [], alts := [], laidByText := true, laidKinds := [.data, .data, .data, .data, .sentinel, .sentinel, .pinned], laidTests := true, laidLooks := .later }
def FnExactReadLastCardSaid : Prop := Claim7.holds Tryd.pinned (.plain (OpenSpec.ofChange fnExactReadLastSpec)) fnExactReadLastCard

/-- THE SECOND FORM's CARD OF 'laws.FnExactLastText'. -/
def fnExactLastTextUptoCard : Claim7 := { stood := { row := fnExactLastTextUptoRow, standIns := [], harness := (true, "a0d563415004fe66543d5a534dec254e48c973fbdd37ca599f0670a57ff776ff"), looks := true }, kinds := [], alts := [], laidByText := true, laidKinds := [.data, .data, .data], laidTests := true, laidLooks := .later }
def FnExactLastTextUptoCardSaid : Prop := Claim7.holds Tryd.pinned (.plain (OpenSpec.upto fnExactLastTextSpec)) fnExactLastTextUptoCard

/-- THE SECOND FORM's CARD OF 'laws.FnExactReadLast'. -/
def fnExactReadLastUptoCard : Claim7 := { stood := { row := fnExactReadLastUptoRow, standIns := [], harness := (true, "a0d563415004fe66543d5a534dec254e48c973fbdd37ca599f0670a57ff776ff"), looks := true }, kinds := [], alts := [], laidByText := true, laidKinds := [.data, .data, .data, .data, .sentinel, .sentinel, .pinned], laidTests := true, laidLooks := .later }
def FnExactReadLastUptoCardSaid : Prop := Claim7.holds Tryd.pinned (.plain (OpenSpec.upto fnExactReadLastSpec)) fnExactReadLastUptoCard
end Rows
end Go.Proofs.YtoincfhhafpekabDoor
