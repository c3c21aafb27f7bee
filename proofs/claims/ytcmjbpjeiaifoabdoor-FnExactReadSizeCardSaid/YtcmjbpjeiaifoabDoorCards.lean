/-
  DERIVED. GIVEN WITH THE SEED: THE CARDS: each row of YtcmjbpjeiaifoabDoorRows.lean that lists a variable, with what it lists TIED to the program's text (the seventh form; the later family's looks); each row that meets fmt, with fmt's text TOLD by the authors' own Lean function (tested against real Go, not proved from fmt's source: count such statements apart). THE CARD IS WHAT COUNTS. Prove the row's statement (the work); the ties are given (YtcmjbpjeiaifoabDoorTie.lean); close each card by the builder's one call (the guide's Derived/Test/ToyasCard.lean, 'card_holds'). Laid BY PROGRAM, IN A SANDBOX (cutbox-door.mjs). By AI agents, Wed Nov 11 2026. No macro, syntax, notation, axiom, sorry.
-/
import Derived.Test.YtcmjbpjeiaifoabDoorRows
import GoSem.ClaimSeven
namespace Go.Proofs.YtcmjbpjeiaifoabDoor
namespace Rows

/-- THE TIED CARD OF 'laws.FnExactScaleNamed'. -/
def fnExactScaleNamedCard : Claim7 := { stood := { row := fnExactScaleNamedRow, standIns := [], harness := (true, "9c84517f45efe235ab53ead64aadf1ecb4f2afdd0dd4f08449adaecd8e6cd3b6"), looks := true }, kinds := [], alts := [], laidByText := true, laidKinds := [.data], laidTests := true, laidLooks := .later }
def FnExactScaleNamedCardSaid : Prop := Claim7.holds Tryd.pinned (.plain (OpenSpec.ofChange fnExactScaleNamedSpec)) fnExactScaleNamedCard

/-- THE TIED CARD OF 'laws.FnExactSizeText'. -/
def fnExactSizeTextCard : Claim7 := { stood := { row := fnExactSizeTextRow, standIns := [], harness := (true, "9c84517f45efe235ab53ead64aadf1ecb4f2afdd0dd4f08449adaecd8e6cd3b6"), looks := true }, kinds := [], alts := [], laidByText := true, laidKinds := [.data, .data, .data], laidTests := true, laidLooks := .later }
def FnExactSizeTextCardSaid : Prop := Claim7.holds Tryd.pinned (.plain (OpenSpec.ofChange fnExactSizeTextSpec)) fnExactSizeTextCard

/-- THE TIED CARD OF 'laws.FnExactReadSize'. -/
def fnExactReadSizeCard : Claim7 := { stood := { row := fnExactReadSizeRow, standIns := [], harness := (true, "9c84517f45efe235ab53ead64aadf1ecb4f2afdd0dd4f08449adaecd8e6cd3b6"), looks := true }, kinds := [], alts := [], laidByText := true, laidKinds := [.data, .data, .data, .sentinel, .sentinel], laidTests := true, laidLooks := .later }
def FnExactReadSizeCardSaid : Prop := Claim7.holds Tryd.pinned (.plain (OpenSpec.ofChange fnExactReadSizeSpec)) fnExactReadSizeCard

/-- THE SECOND FORM's CARD OF 'laws.FnExactScaleNamed'. -/
def fnExactScaleNamedUptoCard : Claim7 := { stood := { row := fnExactScaleNamedUptoRow, standIns := [], harness := (true, "9c84517f45efe235ab53ead64aadf1ecb4f2afdd0dd4f08449adaecd8e6cd3b6"), looks := true }, kinds := [], alts := [], laidByText := true, laidKinds := [.data], laidTests := true, laidLooks := .later }
def FnExactScaleNamedUptoCardSaid : Prop := Claim7.holds Tryd.pinned (.plain (OpenSpec.upto fnExactScaleNamedSpec)) fnExactScaleNamedUptoCard

/-- THE SECOND FORM's CARD OF 'laws.FnExactSizeText'. -/
def fnExactSizeTextUptoCard : Claim7 := { stood := { row := fnExactSizeTextUptoRow, standIns := [], harness := (true, "9c84517f45efe235ab53ead64aadf1ecb4f2afdd0dd4f08449adaecd8e6cd3b6"), looks := true }, kinds := [], alts := [], laidByText := true, laidKinds := [.data, .data, .data], laidTests := true, laidLooks := .later }
def FnExactSizeTextUptoCardSaid : Prop := Claim7.holds Tryd.pinned (.plain (OpenSpec.upto fnExactSizeTextSpec)) fnExactSizeTextUptoCard

/-- THE SECOND FORM's CARD OF 'laws.FnExactReadSize'. -/
def fnExactReadSizeUptoCard : Claim7 := { stood := { row := fnExactReadSizeUptoRow, standIns := [], harness := (true, "9c84517f45efe235ab53ead64aadf1ecb4f2afdd0dd4f08449adaecd8e6cd3b6"), looks := true }, kinds := [], alts := [], laidByText := true, laidKinds := [.data, .data, .data, .sentinel, .sentinel], laidTests := true, laidLooks := .later }
def FnExactReadSizeUptoCardSaid : Prop := Claim7.holds Tryd.pinned (.plain (OpenSpec.upto fnExactReadSizeSpec)) fnExactReadSizeUptoCard
end Rows
end Go.Proofs.YtcmjbpjeiaifoabDoor
