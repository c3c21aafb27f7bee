/-
  DERIVED. GIVEN WITH THE SEED: THE CARDS: each row of YtcmjbpjeiaifoaaDoorRows.lean that lists a variable, with what it lists TIED to the program's text (the seventh form; the later family's looks); each row that meets fmt, with fmt's text TOLD by the authors' own Lean function (tested against real Go, not proved from fmt's source: count such statements apart). THE CARD IS WHAT COUNTS. Prove the row's statement (the work); the ties are given (YtcmjbpjeiaifoaaDoorTie.lean); close each card by the builder's one call (the guide's Derived/Test/ToyasCard.lean, 'card_holds'). Laid BY PROGRAM, IN A SANDBOX (cutbox-door.mjs). By AI agents, Wed Nov 11 2026. No macro, syntax, notation, axiom, sorry.
-/
import Derived.Test.YtcmjbpjeiaifoaaDoorRows
import GoSem.ClaimSeven
namespace Go.Proofs.YtcmjbpjeiaifoaaDoor
namespace Rows

/-- THE TIED CARD OF 'laws.FnExactDecimal'. -/
def fnExactDecimalCard : Claim7 := { stood := { row := fnExactDecimalRow, standIns := [], harness := (true, "10215d4d1a8a914ff307467a7dba026664e9a8e01bb1313fb9ce9b958510a466"), looks := true }, kinds := [], alts := [], laidByText := true, laidKinds := [.data, .data, .data], laidTests := true, laidLooks := .later }
def FnExactDecimalCardSaid : Prop := Claim7.holds Tryd.pinned (.plain (OpenSpec.ofChange fnExactDecimalSpec)) fnExactDecimalCard

/-- THE TIED CARD OF 'laws.FnExactReadDecimal'. -/
def fnExactReadDecimalCard : Claim7 := { stood := { row := fnExactReadDecimalRow, standIns := [], harness := (true, "10215d4d1a8a914ff307467a7dba026664e9a8e01bb1313fb9ce9b958510a466"), looks := true }, kinds := [], alts := [], laidByText := true, laidKinds := [.data, .data, .data, .sentinel, .sentinel], laidTests := true, laidLooks := .later }
def FnExactReadDecimalCardSaid : Prop := Claim7.holds Tryd.pinned (.plain (OpenSpec.ofChange fnExactReadDecimalSpec)) fnExactReadDecimalCard

/-- THE TIED CARD OF 'laws.FnExactFootText'. -/
def fnExactFootTextCard : Claim7 := { stood := { row := fnExactFootTextRow, standIns := [], harness := (true, "10215d4d1a8a914ff307467a7dba026664e9a8e01bb1313fb9ce9b958510a466"), looks := true }, kinds := [], alts := [], laidByText := true, laidKinds := [.data, .data, .data], laidTests := true, laidLooks := .later }
def FnExactFootTextCardSaid : Prop := Claim7.holds Tryd.pinned (.plain (OpenSpec.ofChange fnExactFootTextSpec)) fnExactFootTextCard

/-- THE TIED CARD OF 'laws.FnExactReadFoot'. -/
def fnExactReadFootCard : Claim7 := { stood := { row := fnExactReadFootRow, standIns := [], harness := (true, "10215d4d1a8a914ff307467a7dba026664e9a8e01bb1313fb9ce9b958510a466"), looks := true }, kinds := [], alts := [], laidByText := true, laidKinds := [.data, .data, .data, .data, .sentinel, .sentinel, .pinned], laidTests := true, laidLooks := .later }
def FnExactReadFootCardSaid : Prop := Claim7.holds Tryd.pinned (.plain (OpenSpec.ofChange fnExactReadFootSpec)) fnExactReadFootCard

/-- THE SECOND FORM's CARD OF 'laws.FnExactDecimal'. -/
def fnExactDecimalUptoCard : Claim7 := { stood := { row := fnExactDecimalUptoRow, standIns := [], harness := (true, "10215d4d1a8a914ff307467a7dba026664e9a8e01bb1313fb9ce9b958510a466"), looks := true }, kinds := [], alts := [], laidByText := true, laidKinds := [.data, .data, .data], laidTests := true, laidLooks := .later }
def FnExactDecimalUptoCardSaid : Prop := Claim7.holds Tryd.pinned (.plain (OpenSpec.upto fnExactDecimalSpec)) fnExactDecimalUptoCard

/-- THE SECOND FORM's CARD OF 'laws.FnExactReadDecimal'. -/
def fnExactReadDecimalUptoCard : Claim7 := { stood := { row := fnExactReadDecimalUptoRow, standIns := [], harness := (true, "10215d4d1a8a914ff307467a7dba026664e9a8e01bb1313fb9ce9b958510a466"), looks := true }, kinds := [], alts := [], laidByText := true, laidKinds := [.data, .data, .data, .sentinel, .sentinel], laidTests := true, laidLooks := .later }
def FnExactReadDecimalUptoCardSaid : Prop := Claim7.holds Tryd.pinned (.plain (OpenSpec.upto fnExactReadDecimalSpec)) fnExactReadDecimalUptoCard

/-- THE SECOND FORM's CARD OF 'laws.FnExactFootText'. -/
def fnExactFootTextUptoCard : Claim7 := { stood := { row := fnExactFootTextUptoRow, standIns := [], harness := (true, "10215d4d1a8a914ff307467a7dba026664e9a8e01bb1313fb9ce9b958510a466"), looks := true }, kinds := [], alts := [], laidByText := true, laidKinds := [.data, .data, .data], laidTests := true, laidLooks := .later }
def FnExactFootTextUptoCardSaid : Prop := Claim7.holds Tryd.pinned (.plain (OpenSpec.upto fnExactFootTextSpec)) fnExactFootTextUptoCard

/-- THE SECOND FORM's CARD OF 'laws.FnExactReadFoot'. -/
def fnExactReadFootUptoCard : Claim7 := { stood := { row := fnExactReadFootUptoRow, standIns := [], harness := (true, "10215d4d1a8a914ff307467a7dba026664e9a8e01bb1313fb9ce9b958510a466"), looks := true }, kinds := [], alts := [], laidByText := true, laidKinds := [.data, .data, .data, .data, .sentinel, .sentinel, .pinned], laidTests := true, laidLooks := .later }
def FnExactReadFootUptoCardSaid : Prop := Claim7.holds Tryd.pinned (.plain (OpenSpec.upto fnExactReadFootSpec)) fnExactReadFootUptoCard
end Rows
end Go.Proofs.YtcmjbpjeiaifoaaDoor
