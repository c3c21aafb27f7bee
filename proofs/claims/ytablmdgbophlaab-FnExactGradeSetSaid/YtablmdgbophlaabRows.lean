/-
  No cell of these rows narrows 'for every input' (looked for: loops, veiled, ifaces, maps, wideKeys, modest, calm, conditions, laid).
  DERIVED. THE GIVEN ROWS OF THIS SEAT. 9 by the template 'for every input the law returns true; each argument reads behind the call as it read before'; 0 by the template 'total and deterministic' (their statements: YtablmdgbophlaabTotals.lean).
  GIVEN WITH THE SEED: the statements are not yours to turn. If you find one false, say at which input.
  Laid BY PROGRAM, IN A SANDBOX (cutbox-rows.mjs): the forced cells as the released guide's own fill.sh prints them over the translation e6fb6360356ba111… (all of the seat's roots in one cut). By AI agents, Wed Nov 11 2026. No macro, syntax, notation, axiom, sorry.
-/
import Derived.Test.YtablmdgbophlaabChecked
import GoSem.Claim
import GoSem.ClaimJoined
import GoSem.ClaimMapViews
import Derived.JoinedTies
import Derived.KernelRfl
namespace Go.Proofs.Ytablmdgbophlaab
/- THE CELL 'sum', in the pinned program and in every row, IS THE sha256 OF THE DUMP (.gsa) THAT YtablmdgbophlaabProg.lean LOADS. Nothing in Lean hashes anything: it is a label: what it is worth is what the hold of that sum in a sandbox is worth. -/
noncomputable def Try.pinned : Pinned := { name := "ytablmdgbophlaab", sum := "e6fb6360356ba111dbb6f24baff1394b2d0c8013462d23200a4351730043d4e6", checked := Try.checked }
namespace Rows
def none {H : Type} : Left H := { results := [], args := [] }

/-- 'laws.FnExactValidGrade': WHATEVER THE INPUT: true; the input reads as it did. -/
def fnExactValidGradeSpec : ChangeSpec := { name := "fnExactValidGrade", fn := fun _ => fun
  | [d] => { results := [.lit (.bool true)], args := [d] }
  | _ => none }
def fnExactValidGradeRow : OpenClaim := { program := "ytablmdgbophlaab", sum := "e6fb6360356ba111dbb6f24baff1394b2d0c8013462d23200a4351730043d4e6", func := "loop.example/g01043/laws.FnExactValidGrade", spec := "fnExactValidGrade", apart := false }
def FnExactValidGradeSaid : Prop := fnExactValidGradeRow.holds Try.pinned (OpenSpec.ofChange fnExactValidGradeSpec)

/-- ITS FALSE NEIGHBOUR: 'it returns false'. Refute it at one input. -/
def fnExactValidGradeWrong : ChangeSpec := { name := "fnExactValidGrade", fn := fun _ => fun
  | [d] => { results := [.lit (.bool false)], args := [d] }
  | _ => none }
def FnExactValidGradeWrongFalsely : Prop := fnExactValidGradeRow.holds Try.pinned (OpenSpec.ofChange fnExactValidGradeWrong)

/-- 'laws.FnExactGradeLast': WHATEVER THE INPUT: true; the input reads as it did. -/
def fnExactGradeLastSpec : ChangeSpec := { name := "fnExactGradeLast", fn := fun _ => fun
  | [d1, d2, d3] => { results := [.lit (.bool true)], args := [d1, d2, d3] }
  | _ => none }
def fnExactGradeLastRow : OpenClaim := { program := "ytablmdgbophlaab", sum := "e6fb6360356ba111dbb6f24baff1394b2d0c8013462d23200a4351730043d4e6", func := "loop.example/g01043/laws.FnExactGradeLast", spec := "fnExactGradeLast", unfollowed := true, recurses := true, apart := false }
def FnExactGradeLastSaid : Prop := fnExactGradeLastRow.holds Try.pinned (OpenSpec.ofChange fnExactGradeLastSpec)

/-- ITS FALSE NEIGHBOUR: 'it returns false'. Refute it at one input. -/
def fnExactGradeLastWrong : ChangeSpec := { name := "fnExactGradeLast", fn := fun _ => fun
  | [d1, d2, d3] => { results := [.lit (.bool false)], args := [d1, d2, d3] }
  | _ => none }
def FnExactGradeLastWrongFalsely : Prop := fnExactGradeLastRow.holds Try.pinned (OpenSpec.ofChange fnExactGradeLastWrong)

/-- 'laws.FnExactGradeSet': WHATEVER THE INPUT: true; the input reads as it did. -/
def fnExactGradeSetSpec : ChangeSpec := { name := "fnExactGradeSet", fn := fun _ => fun
  | [d1, d2, d3, d4] => { results := [.lit (.bool true)], args := [d1, d2, d3, d4] }
  | _ => none }
def fnExactGradeSetRow : OpenClaim := { program := "ytablmdgbophlaab", sum := "e6fb6360356ba111dbb6f24baff1394b2d0c8013462d23200a4351730043d4e6", func := "loop.example/g01043/laws.FnExactGradeSet", spec := "fnExactGradeSet", unfollowed := true, recurses := true, apart := false }
def FnExactGradeSetSaid : Prop := fnExactGradeSetRow.holds Try.pinned (OpenSpec.ofChange fnExactGradeSetSpec)

/-- ITS FALSE NEIGHBOUR: 'it returns false'. Refute it at one input. -/
def fnExactGradeSetWrong : ChangeSpec := { name := "fnExactGradeSet", fn := fun _ => fun
  | [d1, d2, d3, d4] => { results := [.lit (.bool false)], args := [d1, d2, d3, d4] }
  | _ => none }
def FnExactGradeSetWrongFalsely : Prop := fnExactGradeSetRow.holds Try.pinned (OpenSpec.ofChange fnExactGradeSetWrong)

/-- 'laws.FnExactGradeBetween': WHATEVER THE INPUT: true; the input reads as it did. -/
def fnExactGradeBetweenSpec : ChangeSpec := { name := "fnExactGradeBetween", fn := fun _ => fun
  | [d1, d2, d3] => { results := [.lit (.bool true)], args := [d1, d2, d3] }
  | _ => none }
def fnExactGradeBetweenRow : OpenClaim := { program := "ytablmdgbophlaab", sum := "e6fb6360356ba111dbb6f24baff1394b2d0c8013462d23200a4351730043d4e6", func := "loop.example/g01043/laws.FnExactGradeBetween", spec := "fnExactGradeBetween", unfollowed := true, recurses := true, apart := false }
def FnExactGradeBetweenSaid : Prop := fnExactGradeBetweenRow.holds Try.pinned (OpenSpec.ofChange fnExactGradeBetweenSpec)

/-- ITS FALSE NEIGHBOUR: 'it returns false'. Refute it at one input. -/
def fnExactGradeBetweenWrong : ChangeSpec := { name := "fnExactGradeBetween", fn := fun _ => fun
  | [d1, d2, d3] => { results := [.lit (.bool false)], args := [d1, d2, d3] }
  | _ => none }
def FnExactGradeBetweenWrongFalsely : Prop := fnExactGradeBetweenRow.holds Try.pinned (OpenSpec.ofChange fnExactGradeBetweenWrong)

/-- 'laws.FnExactStepsFor': WHATEVER THE INPUT: true; the input reads as it did. -/
def fnExactStepsForSpec : ChangeSpec := { name := "fnExactStepsFor", fn := fun _ => fun
  | [d1, d2, d3] => { results := [.lit (.bool true)], args := [d1, d2, d3] }
  | _ => none }
def fnExactStepsForRow : OpenClaim := { program := "ytablmdgbophlaab", sum := "e6fb6360356ba111dbb6f24baff1394b2d0c8013462d23200a4351730043d4e6", func := "loop.example/g01043/laws.FnExactStepsFor", spec := "fnExactStepsFor", unfollowed := true, recurses := true, apart := false }
def FnExactStepsForSaid : Prop := fnExactStepsForRow.holds Try.pinned (OpenSpec.ofChange fnExactStepsForSpec)

/-- ITS FALSE NEIGHBOUR: 'it returns false'. Refute it at one input. -/
def fnExactStepsForWrong : ChangeSpec := { name := "fnExactStepsFor", fn := fun _ => fun
  | [d1, d2, d3] => { results := [.lit (.bool false)], args := [d1, d2, d3] }
  | _ => none }
def FnExactStepsForWrongFalsely : Prop := fnExactStepsForRow.holds Try.pinned (OpenSpec.ofChange fnExactStepsForWrong)

/-- 'laws.FnExactGradeLengths': WHATEVER THE INPUT: true; the input reads as it did. -/
def fnExactGradeLengthsSpec : ChangeSpec := { name := "fnExactGradeLengths", fn := fun _ => fun
  | [d1, d2] => { results := [.lit (.bool true)], args := [d1, d2] }
  | _ => none }
def fnExactGradeLengthsRow : OpenClaim := { program := "ytablmdgbophlaab", sum := "e6fb6360356ba111dbb6f24baff1394b2d0c8013462d23200a4351730043d4e6", func := "loop.example/g01043/laws.FnExactGradeLengths", spec := "fnExactGradeLengths", unfollowed := true, recurses := true, apart := false }
def FnExactGradeLengthsSaid : Prop := fnExactGradeLengthsRow.holds Try.pinned (OpenSpec.ofChange fnExactGradeLengthsSpec)

/-- ITS FALSE NEIGHBOUR: 'it returns false'. Refute it at one input. -/
def fnExactGradeLengthsWrong : ChangeSpec := { name := "fnExactGradeLengths", fn := fun _ => fun
  | [d1, d2] => { results := [.lit (.bool false)], args := [d1, d2] }
  | _ => none }
def FnExactGradeLengthsWrongFalsely : Prop := fnExactGradeLengthsRow.holds Try.pinned (OpenSpec.ofChange fnExactGradeLengthsWrong)

/-- 'laws.FnExactScaleLengths': WHATEVER THE INPUT: true; the input reads as it did. -/
def fnExactScaleLengthsSpec : ChangeSpec := { name := "fnExactScaleLengths", fn := fun _ => fun
  | [d1, d2, d3] => { results := [.lit (.bool true)], args := [d1, d2, d3] }
  | _ => none }
def fnExactScaleLengthsRow : OpenClaim := { program := "ytablmdgbophlaab", sum := "e6fb6360356ba111dbb6f24baff1394b2d0c8013462d23200a4351730043d4e6", func := "loop.example/g01043/laws.FnExactScaleLengths", spec := "fnExactScaleLengths", apart := false }
def FnExactScaleLengthsSaid : Prop := fnExactScaleLengthsRow.holds Try.pinned (OpenSpec.ofChange fnExactScaleLengthsSpec)

/-- ITS FALSE NEIGHBOUR: 'it returns false'. Refute it at one input. -/
def fnExactScaleLengthsWrong : ChangeSpec := { name := "fnExactScaleLengths", fn := fun _ => fun
  | [d1, d2, d3] => { results := [.lit (.bool false)], args := [d1, d2, d3] }
  | _ => none }
def FnExactScaleLengthsWrongFalsely : Prop := fnExactScaleLengthsRow.holds Try.pinned (OpenSpec.ofChange fnExactScaleLengthsWrong)

/-- 'laws.FnExactScaleErrors': WHATEVER THE INPUT: true; the input reads as it did. -/
def fnExactScaleErrorsSpec : ChangeSpec := { name := "fnExactScaleErrors", fn := fun _ => fun
  | [d1, d2, d3] => { results := [.lit (.bool true)], args := [d1, d2, d3] }
  | _ => none }
def fnExactScaleErrorsRow : OpenClaim := { program := "ytablmdgbophlaab", sum := "e6fb6360356ba111dbb6f24baff1394b2d0c8013462d23200a4351730043d4e6", func := "loop.example/g01043/laws.FnExactScaleErrors", spec := "fnExactScaleErrors", apart := false }
def FnExactScaleErrorsSaid : Prop := fnExactScaleErrorsRow.holds Try.pinned (OpenSpec.ofChange fnExactScaleErrorsSpec)

/-- ITS FALSE NEIGHBOUR: 'it returns false'. Refute it at one input. -/
def fnExactScaleErrorsWrong : ChangeSpec := { name := "fnExactScaleErrors", fn := fun _ => fun
  | [d1, d2, d3] => { results := [.lit (.bool false)], args := [d1, d2, d3] }
  | _ => none }
def FnExactScaleErrorsWrongFalsely : Prop := fnExactScaleErrorsRow.holds Try.pinned (OpenSpec.ofChange fnExactScaleErrorsWrong)

/-- 'laws.FnExactGradeSeam': WHATEVER THE INPUT: true; the input reads as it did. -/
def fnExactGradeSeamSpec : ChangeSpec := { name := "fnExactGradeSeam", fn := fun _ => fun
  | [d1, d2, d3] => { results := [.lit (.bool true)], args := [d1, d2, d3] }
  | _ => none }
def fnExactGradeSeamRow : OpenClaim := { program := "ytablmdgbophlaab", sum := "e6fb6360356ba111dbb6f24baff1394b2d0c8013462d23200a4351730043d4e6", func := "loop.example/g01043/laws.FnExactGradeSeam", spec := "fnExactGradeSeam", unfollowed := true, recurses := true, apart := false }
def FnExactGradeSeamSaid : Prop := fnExactGradeSeamRow.holds Try.pinned (OpenSpec.ofChange fnExactGradeSeamSpec)

/-- ITS FALSE NEIGHBOUR: 'it returns false'. Refute it at one input. -/
def fnExactGradeSeamWrong : ChangeSpec := { name := "fnExactGradeSeam", fn := fun _ => fun
  | [d1, d2, d3] => { results := [.lit (.bool false)], args := [d1, d2, d3] }
  | _ => none }
def FnExactGradeSeamWrongFalsely : Prop := fnExactGradeSeamRow.holds Try.pinned (OpenSpec.ofChange fnExactGradeSeamWrong)

/- THE SECOND FORM. 'bulk': how many values and letters a reading holds, each counted each time it is reached (what is shared counts as often as it is met; a slice's spare places count too). A statement '..UptoSaid' is the law's where the arguments, and the package variables that the reading takes, are together of bulk at most 1048576: NARROWER than '..Said'. Prove '..Said' where nothing that the law and all that it calls make is longer than what came in: it says more and counts as full. Else prove '..UptoSaid'. A law counts once. -/
mutual
def uptoBulk {H : Type} : DataW H → Nat
  | .lit (.string bytes) => bytes.length + 1
  | .lit _ => 1
  | .nil => 1
  | .ptr d => uptoBulk d + 1
  | .slice elems spare => uptoBulkAll elems + uptoBulkAll spare + 1
  | .agg parts => uptoBulkAll parts + 1
  | .iface _ d => uptoBulk d + 1
  | .map entries => uptoBulkEntries entries + 1
  | .held _ => 1
def uptoBulkAll {H : Type} : List (DataW H) → Nat
  | [] => 0
  | d :: r => uptoBulk d + uptoBulkAll r
def uptoBulkEntries {H : Type} : List (Lit × DataW H) → Nat
  | [] => 0
  | x :: r => uptoBulkEntry x + uptoBulkEntries r
def uptoBulkEntry {H : Type} : Lit × DataW H → Nat
  | (.string bytes, d) => bytes.length + uptoBulk d + 1
  | (_, d) => uptoBulk d + 1
 end
def uptoSmall : (H : Type) → List (DataW H) → Bool := fun _ ds => decide (uptoBulkAll ds ≤ 1048576)
def OpenSpec.upto (s : _root_.Go.ChangeSpec) : _root_.Go.OpenSpec := { _root_.Go.OpenSpec.ofChange s with cond := some uptoSmall }

/-- 'laws.FnExactValidGrade', WHERE WHAT IT READS IS OF BULK AT MOST 1048576: true; the input reads as it did. -/
def fnExactValidGradeUptoRow : OpenClaim := { program := "ytablmdgbophlaab", sum := "e6fb6360356ba111dbb6f24baff1394b2d0c8013462d23200a4351730043d4e6", func := "loop.example/g01043/laws.FnExactValidGrade", spec := "fnExactValidGrade", apart := false, narrowed := true }
def FnExactValidGradeUptoSaid : Prop := fnExactValidGradeUptoRow.holds Try.pinned (OpenSpec.upto fnExactValidGradeSpec)

/-- 'laws.FnExactGradeLast', WHERE WHAT IT READS IS OF BULK AT MOST 1048576: true; the input reads as it did. -/
def fnExactGradeLastUptoRow : OpenClaim := { program := "ytablmdgbophlaab", sum := "e6fb6360356ba111dbb6f24baff1394b2d0c8013462d23200a4351730043d4e6", func := "loop.example/g01043/laws.FnExactGradeLast", spec := "fnExactGradeLast", unfollowed := true, recurses := true, apart := false, narrowed := true }
def FnExactGradeLastUptoSaid : Prop := fnExactGradeLastUptoRow.holds Try.pinned (OpenSpec.upto fnExactGradeLastSpec)

/-- 'laws.FnExactGradeSet', WHERE WHAT IT READS IS OF BULK AT MOST 1048576: true; the input reads as it did. -/
def fnExactGradeSetUptoRow : OpenClaim := { program := "ytablmdgbophlaab", sum := "e6fb6360356ba111dbb6f24baff1394b2d0c8013462d23200a4351730043d4e6", func := "loop.example/g01043/laws.FnExactGradeSet", spec := "fnExactGradeSet", unfollowed := true, recurses := true, apart := false, narrowed := true }
def FnExactGradeSetUptoSaid : Prop := fnExactGradeSetUptoRow.holds Try.pinned (OpenSpec.upto fnExactGradeSetSpec)

/-- 'laws.FnExactGradeBetween', WHERE WHAT IT READS IS OF BULK AT MOST 1048576: true; the input reads as it did. -/
def fnExactGradeBetweenUptoRow : OpenClaim := { program := "ytablmdgbophlaab", sum := "e6fb6360356ba111dbb6f24baff1394b2d0c8013462d23200a4351730043d4e6", func := "loop.example/g01043/laws.FnExactGradeBetween", spec := "fnExactGradeBetween", unfollowed := true, recurses := true, apart := false, narrowed := true }
def FnExactGradeBetweenUptoSaid : Prop := fnExactGradeBetweenUptoRow.holds Try.pinned (OpenSpec.upto fnExactGradeBetweenSpec)

/-- 'laws.FnExactStepsFor', WHERE WHAT IT READS IS OF BULK AT MOST 1048576: true; the input reads as it did. -/
def fnExactStepsForUptoRow : OpenClaim := { program := "ytablmdgbophlaab", sum := "e6fb6360356ba111dbb6f24baff1394b2d0c8013462d23200a4351730043d4e6", func := "loop.example/g01043/laws.FnExactStepsFor", spec := "fnExactStepsFor", unfollowed := true, recurses := true, apart := false, narrowed := true }
def FnExactStepsForUptoSaid : Prop := fnExactStepsForUptoRow.holds Try.pinned (OpenSpec.upto fnExactStepsForSpec)

/-- 'laws.FnExactGradeLengths', WHERE WHAT IT READS IS OF BULK AT MOST 1048576: true; the input reads as it did. -/
def fnExactGradeLengthsUptoRow : OpenClaim := { program := "ytablmdgbophlaab", sum := "e6fb6360356ba111dbb6f24baff1394b2d0c8013462d23200a4351730043d4e6", func := "loop.example/g01043/laws.FnExactGradeLengths", spec := "fnExactGradeLengths", unfollowed := true, recurses := true, apart := false, narrowed := true }
def FnExactGradeLengthsUptoSaid : Prop := fnExactGradeLengthsUptoRow.holds Try.pinned (OpenSpec.upto fnExactGradeLengthsSpec)

/-- 'laws.FnExactScaleLengths', WHERE WHAT IT READS IS OF BULK AT MOST 1048576: true; the input reads as it did. -/
def fnExactScaleLengthsUptoRow : OpenClaim := { program := "ytablmdgbophlaab", sum := "e6fb6360356ba111dbb6f24baff1394b2d0c8013462d23200a4351730043d4e6", func := "loop.example/g01043/laws.FnExactScaleLengths", spec := "fnExactScaleLengths", apart := false, narrowed := true }
def FnExactScaleLengthsUptoSaid : Prop := fnExactScaleLengthsUptoRow.holds Try.pinned (OpenSpec.upto fnExactScaleLengthsSpec)

/-- 'laws.FnExactScaleErrors', WHERE WHAT IT READS IS OF BULK AT MOST 1048576: true; the input reads as it did. -/
def fnExactScaleErrorsUptoRow : OpenClaim := { program := "ytablmdgbophlaab", sum := "e6fb6360356ba111dbb6f24baff1394b2d0c8013462d23200a4351730043d4e6", func := "loop.example/g01043/laws.FnExactScaleErrors", spec := "fnExactScaleErrors", apart := false, narrowed := true }
def FnExactScaleErrorsUptoSaid : Prop := fnExactScaleErrorsUptoRow.holds Try.pinned (OpenSpec.upto fnExactScaleErrorsSpec)

/-- 'laws.FnExactGradeSeam', WHERE WHAT IT READS IS OF BULK AT MOST 1048576: true; the input reads as it did. -/
def fnExactGradeSeamUptoRow : OpenClaim := { program := "ytablmdgbophlaab", sum := "e6fb6360356ba111dbb6f24baff1394b2d0c8013462d23200a4351730043d4e6", func := "loop.example/g01043/laws.FnExactGradeSeam", spec := "fnExactGradeSeam", unfollowed := true, recurses := true, apart := false, narrowed := true }
def FnExactGradeSeamUptoSaid : Prop := fnExactGradeSeamUptoRow.holds Try.pinned (OpenSpec.upto fnExactGradeSeamSpec)

end Rows
end Go.Proofs.Ytablmdgbophlaab
