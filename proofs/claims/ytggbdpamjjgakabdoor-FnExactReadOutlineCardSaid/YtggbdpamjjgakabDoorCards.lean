/-
  DERIVED. GIVEN WITH THE SEED: THE CARDS: each row of YtggbdpamjjgakabDoorRows.lean that lists a variable, with what it lists TIED to the program's text (the seventh form; the later family's looks); each row that meets fmt, with fmt's text TOLD by the authors' own Lean function (tested against real Go, not proved from fmt's source: count such statements apart). THE CARD IS WHAT COUNTS. Prove the row's statement (the work); the ties are given (YtggbdpamjjgakabDoorTie.lean); close each card by the builder's one call (the guide's Derived/Test/ToyasCard.lean, 'card_holds'). Laid BY PROGRAM, IN A SANDBOX (cutbox-door.mjs). By AI agents, Wed Nov 11 2026. No macro, syntax, notation, axiom, sorry.
-/
import Derived.Test.YtggbdpamjjgakabDoorRows
import GoSem.ClaimSeven
namespace Go.Proofs.YtggbdpamjjgakabDoor
namespace Rows

/-- THE TIED CARD OF 'laws.FnExactReadOutline'. -/
def fnExactReadOutlineCard : Claim7 := { stood := { row := fnExactReadOutlineRow, standIns := [], harness := (true, "4e5e77d0f6afcb98ca5a696a804830c7fba0565f4ce7c2c382747b62945af66b"), looks := true }, kinds := [], alts := [], laidByText := true, laidKinds := [.data, .data, .data, .data, .sentinel, .sentinel, .pinned], laidTests := true, laidLooks := .later }
def FnExactReadOutlineCardSaid : Prop := Claim7.holds Tryd.pinned (.plain (OpenSpec.ofChange fnExactReadOutlineSpec)) fnExactReadOutlineCard

/-- THE TIED CARD OF 'laws.FnExactFootText'. -/
def fnExactFootTextCard : Claim7 := { stood := { row := fnExactFootTextRow, standIns := [], harness := (true, "4e5e77d0f6afcb98ca5a696a804830c7fba0565f4ce7c2c382747b62945af66b"), looks := true }, kinds := [], alts := [], laidByText := true, laidKinds := [.data, .data, .data], laidTests := true, laidLooks := .later }
def FnExactFootTextCardSaid : Prop := Claim7.holds Tryd.pinned (.plain (OpenSpec.ofChange fnExactFootTextSpec)) fnExactFootTextCard

/-- THE TIED CARD OF 'laws.FnExactReadFoot'. -/
def fnExactReadFootCard : Claim7 := { stood := { row := fnExactReadFootRow, standIns := [], harness := (true, "4e5e77d0f6afcb98ca5a696a804830c7fba0565f4ce7c2c382747b62945af66b"), looks := true }, kinds := [], alts := [], laidByText := true, laidKinds := [.data, .data, .data, .data, .sentinel, .sentinel, .pinned], laidTests := true, laidLooks := .later }
def FnExactReadFootCardSaid : Prop := Claim7.holds Tryd.pinned (.plain (OpenSpec.ofChange fnExactReadFootSpec)) fnExactReadFootCard

/-- THE TIED CARD OF 'laws.FnExactLastText'. -/
def fnExactLastTextCard : Claim7 := { stood := { row := fnExactLastTextRow, standIns := [], harness := (true, "4e5e77d0f6afcb98ca5a696a804830c7fba0565f4ce7c2c382747b62945af66b"), looks := true }, kinds := [], alts := [], laidByText := true, laidKinds := [.data, .data, .data], laidTests := true, laidLooks := .later }
def FnExactLastTextCardSaid : Prop := Claim7.holds Tryd.pinned (.plain (OpenSpec.ofChange fnExactLastTextSpec)) fnExactLastTextCard

/-- THE TIED CARD OF 'laws.FnExactReadLast'. -/
def fnExactReadLastCard : Claim7 := { stood := { row := fnExactReadLastRow, standIns := [], harness := (true, "4e5e77d0f6afcb98ca5a696a804830c7fba0565f4ce7c2c382747b62945af66b"), looks := true }, kinds := [], alts := [], laidByText := true, laidKinds := [.data, .data, .data, .data, .sentinel, .sentinel, .pinned], laidTests := true, laidLooks := .later }
def FnExactReadLastCardSaid : Prop := Claim7.holds Tryd.pinned (.plain (OpenSpec.ofChange fnExactReadLastSpec)) fnExactReadLastCard

/-- THE TIED CARD OF 'laws.FnExactGradeText'. -/
def fnExactGradeTextCard : Claim7 := { stood := { row := fnExactGradeTextRow, standIns := [], harness := (true, "4e5e77d0f6afcb98ca5a696a804830c7fba0565f4ce7c2c382747b62945af66b"), looks := true }, kinds := [], alts := [], laidByText := true, laidKinds := [.data, .data, .data], laidTests := true, laidLooks := .later }
def FnExactGradeTextCardSaid : Prop := Claim7.holds Tryd.pinned (.plain (OpenSpec.ofChange fnExactGradeTextSpec)) fnExactGradeTextCard

/-- THE TIED CARD OF 'laws.FnExactReadGrade'. -/
def fnExactReadGradeCard : Claim7 := { stood := { row := fnExactReadGradeRow, standIns := [], harness := (true, "4e5e77d0f6afcb98ca5a696a804830c7fba0565f4ce7c2c382747b62945af66b"), looks := true }, kinds := [], alts := [], laidByText := true, laidKinds := [.data, .data, .data, .data, .sentinel, .sentinel, .pinned], laidTests := true, laidLooks := .later }
def FnExactReadGradeCardSaid : Prop := Claim7.holds Tryd.pinned (.plain (OpenSpec.ofChange fnExactReadGradeSpec)) fnExactReadGradeCard

/-- THE SECOND FORM's CARD OF 'laws.FnExactReadOutline'. -/
def fnExactReadOutlineUptoCard : Claim7 := { stood := { row := fnExactReadOutlineUptoRow, standIns := [], harness := (true, "4e5e77d0f6afcb98ca5a696a804830c7fba0565f4ce7c2c382747b62945af66b"), looks := true }, kinds := [], alts := [], laidByText := true, laidKinds := [.data, .data, .data, .data, .sentinel, .sentinel, .pinned], laidTests := true, laidLooks := .later }
def FnExactReadOutlineUptoCardSaid : Prop := Claim7.holds Tryd.pinned (.plain (OpenSpec.upto fnExactReadOutlineSpec)) fnExactReadOutlineUptoCard

/-- THE SECOND FORM's CARD OF 'laws.FnExactFootText'. -/
def fnExactFootTextUptoCard : Claim7 := { stood := { row := fnExactFootTextUptoRow, standIns := [], harness := (true, "4e5e77d0f6afcb98ca5a696a804830c7fba0565f4ce7c2c382747b62945af66b"), looks := true }, kinds := [], alts := [], laidByText := true, laidKinds := [.data, .data, .data], laidTests := true, laidLooks := .later }
def FnExactFootTextUptoCardSaid : Prop := Claim7.holds Tryd.pinned (.plain (OpenSpec.upto fnExactFootTextSpec)) fnExactFootTextUptoCard

/-- THE SECOND FORM's CARD OF 'laws.FnExactReadFoot'. -/
def fnExactReadFootUptoCard : Claim7 := { stood := { row := fnExactReadFootUptoRow, standIns := [], harness := (true, "4e5e77d0f6afcb98ca5a696a804830c7fba0565f4ce7c2c382747b62945af66b"), looks := true }, kinds := [], alts := [], laidByText := true, laidKinds := [.data, .data, .data, .data, .sentinel, .sentinel, .pinned], laidTests := true, laidLooks := .later }
def FnExactReadFootUptoCardSaid : Prop := Claim7.holds Tryd.pinned (.plain (OpenSpec.upto fnExactReadFootSpec)) fnExactReadFootUptoCard

/-- THE SECOND FORM's CARD OF 'laws.FnExactLastText'. -/
def fnExactLastTextUptoCard : Claim7 := { stood := { row := fnExactLastTextUptoRow, standIns := [], harness := (true, "4e5e77d0f6afcb98ca5a696a804830c7fba0565f4ce7c2c382747b62945af66b"), looks := true }, kinds := [], alts := [], laidByText := true, laidKinds := [.data, .data, .data], laidTests := true, laidLooks := .later }
def FnExactLastTextUptoCardSaid : Prop := Claim7.holds Tryd.pinned (.plain (OpenSpec.upto fnExactLastTextSpec)) fnExactLastTextUptoCard

/-- THE SECOND FORM's CARD OF 'laws.FnExactReadLast'. -/
def fnExactReadLastUptoCard : Claim7 := { stood := { row := fnExactReadLastUptoRow, standIns := [], harness := (true, "4e5e77d0f6afcb98ca5a696a804830c7fba0565f4ce7c2c382747b62945af66b"), looks := true }, kinds := [], alts := [], laidByText := true, laidKinds := [.data, .data, .data, .data, .sentinel, .sentinel, .pinned], laidTests := true, laidLooks := .later }
def FnExactReadLastUptoCardSaid : Prop := Claim7.holds Tryd.pinned (.plain (OpenSpec.upto fnExactReadLastSpec)) fnExactReadLastUptoCard

/-- THE SECOND FORM's CARD OF 'laws.FnExactGradeText'. -/
def fnExactGradeTextUptoCard : Claim7 := { stood := { row := fnExactGradeTextUptoRow, standIns := [], harness := (true, "4e5e77d0f6afcb98ca5a696a804830c7fba0565f4ce7c2c382747b62945af66b"), looks := true }, kinds := [], alts := [], laidByText := true, laidKinds := [.data, .data, .data], laidTests := true, laidLooks := .later }
def FnExactGradeTextUptoCardSaid : Prop := Claim7.holds Tryd.pinned (.plain (OpenSpec.upto fnExactGradeTextSpec)) fnExactGradeTextUptoCard

/-- THE SECOND FORM's CARD OF 'laws.FnExactReadGrade'. -/
def fnExactReadGradeUptoCard : Claim7 := { stood := { row := fnExactReadGradeUptoRow, standIns := [], harness := (true, "4e5e77d0f6afcb98ca5a696a804830c7fba0565f4ce7c2c382747b62945af66b"), looks := true }, kinds := [], alts := [], laidByText := true, laidKinds := [.data, .data, .data, .data, .sentinel, .sentinel, .pinned], laidTests := true, laidLooks := .later }
def FnExactReadGradeUptoCardSaid : Prop := Claim7.holds Tryd.pinned (.plain (OpenSpec.upto fnExactReadGradeSpec)) fnExactReadGradeUptoCard
end Rows
end Go.Proofs.YtggbdpamjjgakabDoor
