/-
  DERIVED. GIVEN WITH THE SEED: THE CARDS: each row of YtaoknbhpjnileabDoorRows.lean that lists a variable, with what it lists TIED to the program's text (the seventh form; the later family's looks); each row that meets fmt, with fmt's text TOLD by the authors' own Lean function (tested against real Go, not proved from fmt's source: count such statements apart). THE CARD IS WHAT COUNTS. Prove the row's statement (the work); the ties are given (YtaoknbhpjnileabDoorTie.lean); close each card by the builder's one call (the guide's Derived/Test/ToyasCard.lean, 'card_holds'). Laid BY PROGRAM, IN A SANDBOX (cutbox-door.mjs). By AI agents, Wed Nov 11 2026. No macro, syntax, notation, axiom, sorry.
-/
import Derived.Test.YtaoknbhpjnileabDoorRows
import GoSem.ClaimSeven
namespace Go.Proofs.YtaoknbhpjnileabDoor
namespace Rows

/-- THE TIED CARD OF 'laws.FnExactGradeText'. -/
def fnExactGradeTextCard : Claim7 := { stood := { row := fnExactGradeTextRow, standIns := [], harness := (true, "9cb2d24e2b2f5bf2349677278e6a6fdbd9ccbf9e64e6dbf3a0e39a532589bd9c"), looks := true }, kinds := [], alts := [], laidByText := true, laidKinds := [.data, .data, .data], laidTests := true, laidLooks := .later }
def FnExactGradeTextCardSaid : Prop := Claim7.holds Tryd.pinned (.plain (OpenSpec.ofChange fnExactGradeTextSpec)) fnExactGradeTextCard

/-- THE TIED CARD OF 'laws.FnExactReadGrade'. -/
def fnExactReadGradeCard : Claim7 := { stood := { row := fnExactReadGradeRow, standIns := [], harness := (true, "9cb2d24e2b2f5bf2349677278e6a6fdbd9ccbf9e64e6dbf3a0e39a532589bd9c"), looks := true }, kinds := [], alts := [], laidByText := true, laidKinds := [.data, .data, .data, .data, .sentinel, .sentinel, .pinned], laidTests := true, laidLooks := .later }
def FnExactReadGradeCardSaid : Prop := Claim7.holds Tryd.pinned (.plain (OpenSpec.ofChange fnExactReadGradeSpec)) fnExactReadGradeCard

/-- THE SECOND FORM's CARD OF 'laws.FnExactGradeText'. -/
def fnExactGradeTextUptoCard : Claim7 := { stood := { row := fnExactGradeTextUptoRow, standIns := [], harness := (true, "9cb2d24e2b2f5bf2349677278e6a6fdbd9ccbf9e64e6dbf3a0e39a532589bd9c"), looks := true }, kinds := [], alts := [], laidByText := true, laidKinds := [.data, .data, .data], laidTests := true, laidLooks := .later }
def FnExactGradeTextUptoCardSaid : Prop := Claim7.holds Tryd.pinned (.plain (OpenSpec.upto fnExactGradeTextSpec)) fnExactGradeTextUptoCard

/-- THE SECOND FORM's CARD OF 'laws.FnExactReadGrade'. -/
def fnExactReadGradeUptoCard : Claim7 := { stood := { row := fnExactReadGradeUptoRow, standIns := [], harness := (true, "9cb2d24e2b2f5bf2349677278e6a6fdbd9ccbf9e64e6dbf3a0e39a532589bd9c"), looks := true }, kinds := [], alts := [], laidByText := true, laidKinds := [.data, .data, .data, .data, .sentinel, .sentinel, .pinned], laidTests := true, laidLooks := .later }
def FnExactReadGradeUptoCardSaid : Prop := Claim7.holds Tryd.pinned (.plain (OpenSpec.upto fnExactReadGradeSpec)) fnExactReadGradeUptoCard
end Rows
end Go.Proofs.YtaoknbhpjnileabDoor
