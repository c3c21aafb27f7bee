/-
  DERIVED. GIVEN WITH THE SEED: THE CARDS: each row of YtablmdgbophlaaaDoorRows.lean that lists a variable, with what it lists TIED to the program's text (the seventh form; the later family's looks); each row that meets fmt, with fmt's text TOLD by the authors' own Lean function (tested against real Go, not proved from fmt's source: count such statements apart). THE CARD IS WHAT COUNTS. Prove the row's statement (the work); the ties are given (YtablmdgbophlaaaDoorTie.lean); close each card by the builder's one call (the guide's Derived/Test/ToyasCard.lean, 'card_holds'). Laid BY PROGRAM, IN A SANDBOX (cutbox-door.mjs). By AI agents, Wed Nov 11 2026. No macro, syntax, notation, axiom, sorry.
-/
import Derived.Test.YtablmdgbophlaaaDoorRows
import GoSem.ClaimSeven
namespace Go.Proofs.YtablmdgbophlaaaDoor
namespace Rows

/-- THE TIED CARD OF 'laws.FnExactFootText'. -/
def fnExactFootTextCard : Claim7 := { stood := { row := fnExactFootTextRow, standIns := [], harness := (true, "9ae43138de2e5f89bd0c4f5d5dd0fe0978d6b75bf13209e250503b6482afdaa0"), looks := true }, kinds := [], alts := [], laidByText := true, laidKinds := [.data, .data, .data], laidTests := true, laidLooks := .later }
def FnExactFootTextCardSaid : Prop := Claim7.holds Tryd.pinned (.plain (OpenSpec.ofChange fnExactFootTextSpec)) fnExactFootTextCard

/-- THE TIED CARD OF 'laws.FnExactReadFoot'. -/
def fnExactReadFootCard : Claim7 := { stood := { row := fnExactReadFootRow, standIns := [], harness := (true, "9ae43138de2e5f89bd0c4f5d5dd0fe0978d6b75bf13209e250503b6482afdaa0"), looks := true }, kinds := [], alts := [], laidByText := true, laidKinds := [.data, .data, .data, .data, .sentinel, .sentinel, .pinned], laidTests := true, laidLooks := .later }
def FnExactReadFootCardSaid : Prop := Claim7.holds Tryd.pinned (.plain (OpenSpec.ofChange fnExactReadFootSpec)) fnExactReadFootCard

/-- THE TIED CARD OF 'laws.FnExactLastText'. -/
def fnExactLastTextCard : Claim7 := { stood := { row := fnExactLastTextRow, standIns := [], harness := (true, "9ae43138de2e5f89bd0c4f5d5dd0fe0978d6b75bf13209e250503b6482afdaa0"), looks := true }, kinds := [], alts := [], laidByText := true, laidKinds := [.data, .data, .data], laidTests := true, laidLooks := .later }
def FnExactLastTextCardSaid : Prop := Claim7.holds Tryd.pinned (.plain (OpenSpec.ofChange fnExactLastTextSpec)) fnExactLastTextCard

/-- THE TIED CARD OF 'laws.FnExactReadLast'. -/
def fnExactReadLastCard : Claim7 := { stood := { row := fnExactReadLastRow, standIns := [], harness := (true, "9ae43138de2e5f89bd0c4f5d5dd0fe0978d6b75bf13209e250503b6482afdaa0"), looks := true }, kinds := [], alts := [], laidByText := true, laidKinds := [.data, .data, .data, .data, .sentinel, .sentinel, .pinned], laidTests := true, laidLooks := .later }
def FnExactReadLastCardSaid : Prop := Claim7.holds Tryd.pinned (.plain (OpenSpec.ofChange fnExactReadLastSpec)) fnExactReadLastCard

/-- THE TIED CARD OF 'laws.FnExactGradeText'. -/
def fnExactGradeTextCard : Claim7 := { stood := { row := fnExactGradeTextRow, standIns := [], harness := (true, "9ae43138de2e5f89bd0c4f5d5dd0fe0978d6b75bf13209e250503b6482afdaa0"), looks := true }, kinds := [], alts := [], laidByText := true, laidKinds := [.data, .data, .data], laidTests := true, laidLooks := .later }
def FnExactGradeTextCardSaid : Prop := Claim7.holds Tryd.pinned (.plain (OpenSpec.ofChange fnExactGradeTextSpec)) fnExactGradeTextCard

/-- THE TIED CARD OF 'laws.FnExactReadGrade'. -/
def fnExactReadGradeCard : Claim7 := { stood := { row := fnExactReadGradeRow, standIns := [], harness := (true, "9ae43138de2e5f89bd0c4f5d5dd0fe0978d6b75bf13209e250503b6482afdaa0"), looks := true }, kinds := [], alts := [], laidByText := true, laidKinds := [.data, .data, .data, .data, .sentinel, .sentinel, .pinned], laidTests := true, laidLooks := .later }
def FnExactReadGradeCardSaid : Prop := Claim7.holds Tryd.pinned (.plain (OpenSpec.ofChange fnExactReadGradeSpec)) fnExactReadGradeCard

/-- THE SECOND FORM's CARD OF 'laws.FnExactFootText'. -/
def fnExactFootTextUptoCard : Claim7 := { stood := { row := fnExactFootTextUptoRow, standIns := [], harness := (true, "9ae43138de2e5f89bd0c4f5d5dd0fe0978d6b75bf13209e250503b6482afdaa0"), looks := true }, kinds := [], alts := [], laidByText := true, laidKinds := [.data, .data, .data], laidTests := true, laidLooks := .later }
def FnExactFootTextUptoCardSaid : Prop := Claim7.holds Tryd.pinned (.plain (OpenSpec.upto fnExactFootTextSpec)) fnExactFootTextUptoCard

/-- THE SECOND FORM's CARD OF 'laws.FnExactReadFoot'. -/
def fnExactReadFootUptoCard : Claim7 := { stood := { row := fnExactReadFootUptoRow, standIns := [], harness := (true, "9ae43138de2e5f89bd0c4f5d5dd0fe0978d6b75bf13209e250503b6482afdaa0"), looks := true }, kinds := [], alts := [], laidByText := true, laidKinds := [.data, .data, .data, .data, .sentinel, .sentinel, .pinned], laidTests := true, laidLooks := .later }
def FnExactReadFootUptoCardSaid : Prop := Claim7.holds Tryd.pinned (.plain (OpenSpec.upto fnExactReadFootSpec)) fnExactReadFootUptoCard

/-- THE SECOND FORM's CARD OF 'laws.FnExactLastText'. -/
def fnExactLastTextUptoCard : Claim7 := { stood := { row := fnExactLastTextUptoRow, standIns := [], harness := (true, "9ae43138de2e5f89bd0c4f5d5dd0fe0978d6b75bf13209e250503b6482afdaa0"), looks := true }, kinds := [], alts := [], laidByText := true, laidKinds := [.data, .data, .data], laidTests := true, laidLooks := .later }
def FnExactLastTextUptoCardSaid : Prop := Claim7.holds Tryd.pinned (.plain (OpenSpec.upto fnExactLastTextSpec)) fnExactLastTextUptoCard

/-- THE SECOND FORM's CARD OF 'laws.FnExactReadLast'. -/
def fnExactReadLastUptoCard : Claim7 := { stood := { row := fnExactReadLastUptoRow, standIns := [], harness := (true, "9ae43138de2e5f89bd0c4f5d5dd0fe0978d6b75bf13209e250503b6482afdaa0"), looks := true }, kinds := [], alts := [], laidByText := true, laidKinds := [.data, .data, .data, .data, .sentinel, .sentinel, .pinned], laidTests := true, laidLooks := .later }
def FnExactReadLastUptoCardSaid : Prop := Claim7.holds Tryd.pinned (.plain (OpenSpec.upto fnExactReadLastSpec)) fnExactReadLastUptoCard

/-- THE SECOND FORM's CARD OF 'laws.FnExactGradeText'. -/
def fnExactGradeTextUptoCard : Claim7 := { stood := { row := fnExactGradeTextUptoRow, standIns := [], harness := (true, "9ae43138de2e5f89bd0c4f5d5dd0fe0978d6b75bf13209e250503b6482afdaa0"), looks := true }, kinds := [], alts := [], laidByText := true, laidKinds := [.data, .data, .data], laidTests := true, laidLooks := .later }
def FnExactGradeTextUptoCardSaid : Prop := Claim7.holds Tryd.pinned (.plain (OpenSpec.upto fnExactGradeTextSpec)) fnExactGradeTextUptoCard

/-- THE SECOND FORM's CARD OF 'laws.FnExactReadGrade'. -/
def fnExactReadGradeUptoCard : Claim7 := { stood := { row := fnExactReadGradeUptoRow, standIns := [], harness := (true, "9ae43138de2e5f89bd0c4f5d5dd0fe0978d6b75bf13209e250503b6482afdaa0"), looks := true }, kinds := [], alts := [], laidByText := true, laidKinds := [.data, .data, .data, .data, .sentinel, .sentinel, .pinned], laidTests := true, laidLooks := .later }
def FnExactReadGradeUptoCardSaid : Prop := Claim7.holds Tryd.pinned (.plain (OpenSpec.upto fnExactReadGradeSpec)) fnExactReadGradeUptoCard
end Rows
end Go.Proofs.YtablmdgbophlaaaDoor
