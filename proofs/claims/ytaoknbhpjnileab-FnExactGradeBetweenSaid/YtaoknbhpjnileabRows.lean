/-
  No cell of these rows narrows 'for every input' (looked for: loops, veiled, ifaces, maps, wideKeys, modest, calm, conditions, laid).
  DERIVED. THE GIVEN ROWS OF THIS SEAT. 10 by the template 'for every input the law returns true; each argument reads behind the call as it read before'; 0 by the template 'total and deterministic' (their statements: YtaoknbhpjnileabTotals.lean).
  GIVEN WITH THE SEED: the statements are not yours to turn. If you find one false, say at which input.
  Laid BY PROGRAM, IN A SANDBOX (cutbox-rows.mjs): the forced cells as the released guide's own fill.sh prints them over the translation 6def122e7ddfb6b0… (all of the seat's roots in one cut). By AI agents, Wed Nov 11 2026. No macro, syntax, notation, axiom, sorry.
-/
import Derived.Test.YtaoknbhpjnileabChecked
import GoSem.Claim
import GoSem.ClaimJoined
import GoSem.ClaimMapViews
import Derived.JoinedTies
import Derived.KernelRfl
namespace Go.Proofs.Ytaoknbhpjnileab
/- THE CELL 'sum', in the pinned program and in every row, IS THE sha256 OF THE DUMP (.gsa) THAT YtaoknbhpjnileabProg.lean LOADS. Nothing in Lean hashes anything: it is a label: what it is worth is what the hold of that sum in a sandbox is worth. -/
noncomputable def Try.pinned : Pinned := { name := "ytaoknbhpjnileab", sum := "6def122e7ddfb6b0a2be4ccdc8f5e447bf387695224acb0055ca87e7032c6323", checked := Try.checked }
namespace Rows
def none {H : Type} : Left H := { results := [], args := [] }

/-- 'laws.FnExactMayFit': WHATEVER THE INPUT: true; the input reads as it did. -/
def fnExactMayFitSpec : ChangeSpec := { name := "fnExactMayFit", fn := fun _ => fun
  | [d1, d2, d3] => { results := [.lit (.bool true)], args := [d1, d2, d3] }
  | _ => none }
def fnExactMayFitRow : OpenClaim := { program := "ytaoknbhpjnileab", sum := "6def122e7ddfb6b0a2be4ccdc8f5e447bf387695224acb0055ca87e7032c6323", func := "loop.example/g01043/laws.FnExactMayFit", spec := "fnExactMayFit", apart := false }
def FnExactMayFitSaid : Prop := fnExactMayFitRow.holds Try.pinned (OpenSpec.ofChange fnExactMayFitSpec)

/-- ITS FALSE NEIGHBOUR: 'it returns false'. Refute it at one input. -/
def fnExactMayFitWrong : ChangeSpec := { name := "fnExactMayFit", fn := fun _ => fun
  | [d1, d2, d3] => { results := [.lit (.bool false)], args := [d1, d2, d3] }
  | _ => none }
def FnExactMayFitWrongFalsely : Prop := fnExactMayFitRow.holds Try.pinned (OpenSpec.ofChange fnExactMayFitWrong)

/-- 'laws.FnExactFitCost': WHATEVER THE INPUT: true; the input reads as it did. -/
def fnExactFitCostSpec : ChangeSpec := { name := "fnExactFitCost", fn := fun _ => fun
  | [d1, d2, d3] => { results := [.lit (.bool true)], args := [d1, d2, d3] }
  | _ => none }
def fnExactFitCostRow : OpenClaim := { program := "ytaoknbhpjnileab", sum := "6def122e7ddfb6b0a2be4ccdc8f5e447bf387695224acb0055ca87e7032c6323", func := "loop.example/g01043/laws.FnExactFitCost", spec := "fnExactFitCost", apart := false }
def FnExactFitCostSaid : Prop := fnExactFitCostRow.holds Try.pinned (OpenSpec.ofChange fnExactFitCostSpec)

/-- ITS FALSE NEIGHBOUR: 'it returns false'. Refute it at one input. -/
def fnExactFitCostWrong : ChangeSpec := { name := "fnExactFitCost", fn := fun _ => fun
  | [d1, d2, d3] => { results := [.lit (.bool false)], args := [d1, d2, d3] }
  | _ => none }
def FnExactFitCostWrongFalsely : Prop := fnExactFitCostRow.holds Try.pinned (OpenSpec.ofChange fnExactFitCostWrong)

/-- 'laws.FnExactAllowedLasts': WHATEVER THE INPUT: true; the input reads as it did. -/
def fnExactAllowedLastsSpec : ChangeSpec := { name := "fnExactAllowedLasts", fn := fun _ => fun
  | [d1, d2, d3] => { results := [.lit (.bool true)], args := [d1, d2, d3] }
  | _ => none }
def fnExactAllowedLastsRow : OpenClaim := { program := "ytaoknbhpjnileab", sum := "6def122e7ddfb6b0a2be4ccdc8f5e447bf387695224acb0055ca87e7032c6323", func := "loop.example/g01043/laws.FnExactAllowedLasts", spec := "fnExactAllowedLasts", unfollowed := true, recurses := true, apart := false }
def FnExactAllowedLastsSaid : Prop := fnExactAllowedLastsRow.holds Try.pinned (OpenSpec.ofChange fnExactAllowedLastsSpec)

/-- ITS FALSE NEIGHBOUR: 'it returns false'. Refute it at one input. -/
def fnExactAllowedLastsWrong : ChangeSpec := { name := "fnExactAllowedLasts", fn := fun _ => fun
  | [d1, d2, d3] => { results := [.lit (.bool false)], args := [d1, d2, d3] }
  | _ => none }
def FnExactAllowedLastsWrongFalsely : Prop := fnExactAllowedLastsRow.holds Try.pinned (OpenSpec.ofChange fnExactAllowedLastsWrong)

/-- 'laws.FnExactGradeSet': WHATEVER THE INPUT: true; the input reads as it did. -/
def fnExactGradeSetSpec : ChangeSpec := { name := "fnExactGradeSet", fn := fun _ => fun
  | [d1, d2, d3, d4] => { results := [.lit (.bool true)], args := [d1, d2, d3, d4] }
  | _ => none }
def fnExactGradeSetRow : OpenClaim := { program := "ytaoknbhpjnileab", sum := "6def122e7ddfb6b0a2be4ccdc8f5e447bf387695224acb0055ca87e7032c6323", func := "loop.example/g01043/laws.FnExactGradeSet", spec := "fnExactGradeSet", unfollowed := true, recurses := true, apart := false }
def FnExactGradeSetSaid : Prop := fnExactGradeSetRow.holds Try.pinned (OpenSpec.ofChange fnExactGradeSetSpec)

/-- ITS FALSE NEIGHBOUR: 'it returns false'. Refute it at one input. -/
def fnExactGradeSetWrong : ChangeSpec := { name := "fnExactGradeSet", fn := fun _ => fun
  | [d1, d2, d3, d4] => { results := [.lit (.bool false)], args := [d1, d2, d3, d4] }
  | _ => none }
def FnExactGradeSetWrongFalsely : Prop := fnExactGradeSetRow.holds Try.pinned (OpenSpec.ofChange fnExactGradeSetWrong)

/-- 'laws.FnExactGradeBetween': WHATEVER THE INPUT: true; the input reads as it did. -/
def fnExactGradeBetweenSpec : ChangeSpec := { name := "fnExactGradeBetween", fn := fun _ => fun
  | [d1, d2, d3] => { results := [.lit (.bool true)], args := [d1, d2, d3] }
  | _ => none }
def fnExactGradeBetweenRow : OpenClaim := { program := "ytaoknbhpjnileab", sum := "6def122e7ddfb6b0a2be4ccdc8f5e447bf387695224acb0055ca87e7032c6323", func := "loop.example/g01043/laws.FnExactGradeBetween", spec := "fnExactGradeBetween", unfollowed := true, recurses := true, apart := false }
def FnExactGradeBetweenSaid : Prop := fnExactGradeBetweenRow.holds Try.pinned (OpenSpec.ofChange fnExactGradeBetweenSpec)

/-- ITS FALSE NEIGHBOUR: 'it returns false'. Refute it at one input. -/
def fnExactGradeBetweenWrong : ChangeSpec := { name := "fnExactGradeBetween", fn := fun _ => fun
  | [d1, d2, d3] => { results := [.lit (.bool false)], args := [d1, d2, d3] }
  | _ => none }
def FnExactGradeBetweenWrongFalsely : Prop := fnExactGradeBetweenRow.holds Try.pinned (OpenSpec.ofChange fnExactGradeBetweenWrong)

/-- 'laws.FnExactStepsFor': WHATEVER THE INPUT: true; the input reads as it did. -/
def fnExactStepsForSpec : ChangeSpec := { name := "fnExactStepsFor", fn := fun _ => fun
  | [d1, d2, d3] => { results := [.lit (.bool true)], args := [d1, d2, d3] }
  | _ => none }
def fnExactStepsForRow : OpenClaim := { program := "ytaoknbhpjnileab", sum := "6def122e7ddfb6b0a2be4ccdc8f5e447bf387695224acb0055ca87e7032c6323", func := "loop.example/g01043/laws.FnExactStepsFor", spec := "fnExactStepsFor", unfollowed := true, recurses := true, apart := false }
def FnExactStepsForSaid : Prop := fnExactStepsForRow.holds Try.pinned (OpenSpec.ofChange fnExactStepsForSpec)

/-- ITS FALSE NEIGHBOUR: 'it returns false'. Refute it at one input. -/
def fnExactStepsForWrong : ChangeSpec := { name := "fnExactStepsFor", fn := fun _ => fun
  | [d1, d2, d3] => { results := [.lit (.bool false)], args := [d1, d2, d3] }
  | _ => none }
def FnExactStepsForWrongFalsely : Prop := fnExactStepsForRow.holds Try.pinned (OpenSpec.ofChange fnExactStepsForWrong)

/-- 'laws.FnExactScaleLengths': WHATEVER THE INPUT: true; the input reads as it did. -/
def fnExactScaleLengthsSpec : ChangeSpec := { name := "fnExactScaleLengths", fn := fun _ => fun
  | [d1, d2, d3] => { results := [.lit (.bool true)], args := [d1, d2, d3] }
  | _ => none }
def fnExactScaleLengthsRow : OpenClaim := { program := "ytaoknbhpjnileab", sum := "6def122e7ddfb6b0a2be4ccdc8f5e447bf387695224acb0055ca87e7032c6323", func := "loop.example/g01043/laws.FnExactScaleLengths", spec := "fnExactScaleLengths", apart := false }
def FnExactScaleLengthsSaid : Prop := fnExactScaleLengthsRow.holds Try.pinned (OpenSpec.ofChange fnExactScaleLengthsSpec)

/-- ITS FALSE NEIGHBOUR: 'it returns false'. Refute it at one input. -/
def fnExactScaleLengthsWrong : ChangeSpec := { name := "fnExactScaleLengths", fn := fun _ => fun
  | [d1, d2, d3] => { results := [.lit (.bool false)], args := [d1, d2, d3] }
  | _ => none }
def FnExactScaleLengthsWrongFalsely : Prop := fnExactScaleLengthsRow.holds Try.pinned (OpenSpec.ofChange fnExactScaleLengthsWrong)

/-- 'laws.FnExactGradeLengths': WHATEVER THE INPUT: true; the input reads as it did. -/
def fnExactGradeLengthsSpec : ChangeSpec := { name := "fnExactGradeLengths", fn := fun _ => fun
  | [d1, d2] => { results := [.lit (.bool true)], args := [d1, d2] }
  | _ => none }
def fnExactGradeLengthsRow : OpenClaim := { program := "ytaoknbhpjnileab", sum := "6def122e7ddfb6b0a2be4ccdc8f5e447bf387695224acb0055ca87e7032c6323", func := "loop.example/g01043/laws.FnExactGradeLengths", spec := "fnExactGradeLengths", unfollowed := true, recurses := true, apart := false }
def FnExactGradeLengthsSaid : Prop := fnExactGradeLengthsRow.holds Try.pinned (OpenSpec.ofChange fnExactGradeLengthsSpec)

/-- ITS FALSE NEIGHBOUR: 'it returns false'. Refute it at one input. -/
def fnExactGradeLengthsWrong : ChangeSpec := { name := "fnExactGradeLengths", fn := fun _ => fun
  | [d1, d2] => { results := [.lit (.bool false)], args := [d1, d2] }
  | _ => none }
def FnExactGradeLengthsWrongFalsely : Prop := fnExactGradeLengthsRow.holds Try.pinned (OpenSpec.ofChange fnExactGradeLengthsWrong)

/-- 'laws.FnExactGradeSeam': WHATEVER THE INPUT: true; the input reads as it did. -/
def fnExactGradeSeamSpec : ChangeSpec := { name := "fnExactGradeSeam", fn := fun _ => fun
  | [d1, d2, d3] => { results := [.lit (.bool true)], args := [d1, d2, d3] }
  | _ => none }
def fnExactGradeSeamRow : OpenClaim := { program := "ytaoknbhpjnileab", sum := "6def122e7ddfb6b0a2be4ccdc8f5e447bf387695224acb0055ca87e7032c6323", func := "loop.example/g01043/laws.FnExactGradeSeam", spec := "fnExactGradeSeam", unfollowed := true, recurses := true, apart := false }
def FnExactGradeSeamSaid : Prop := fnExactGradeSeamRow.holds Try.pinned (OpenSpec.ofChange fnExactGradeSeamSpec)

/-- ITS FALSE NEIGHBOUR: 'it returns false'. Refute it at one input. -/
def fnExactGradeSeamWrong : ChangeSpec := { name := "fnExactGradeSeam", fn := fun _ => fun
  | [d1, d2, d3] => { results := [.lit (.bool false)], args := [d1, d2, d3] }
  | _ => none }
def FnExactGradeSeamWrongFalsely : Prop := fnExactGradeSeamRow.holds Try.pinned (OpenSpec.ofChange fnExactGradeSeamWrong)

/-- 'laws.FnExactScaleErrors': WHATEVER THE INPUT: true; the input reads as it did. -/
def fnExactScaleErrorsSpec : ChangeSpec := { name := "fnExactScaleErrors", fn := fun _ => fun
  | [d1, d2, d3] => { results := [.lit (.bool true)], args := [d1, d2, d3] }
  | _ => none }
def fnExactScaleErrorsRow : OpenClaim := { program := "ytaoknbhpjnileab", sum := "6def122e7ddfb6b0a2be4ccdc8f5e447bf387695224acb0055ca87e7032c6323", func := "loop.example/g01043/laws.FnExactScaleErrors", spec := "fnExactScaleErrors", apart := false }
def FnExactScaleErrorsSaid : Prop := fnExactScaleErrorsRow.holds Try.pinned (OpenSpec.ofChange fnExactScaleErrorsSpec)

/-- ITS FALSE NEIGHBOUR: 'it returns false'. Refute it at one input. -/
def fnExactScaleErrorsWrong : ChangeSpec := { name := "fnExactScaleErrors", fn := fun _ => fun
  | [d1, d2, d3] => { results := [.lit (.bool false)], args := [d1, d2, d3] }
  | _ => none }
def FnExactScaleErrorsWrongFalsely : Prop := fnExactScaleErrorsRow.holds Try.pinned (OpenSpec.ofChange fnExactScaleErrorsWrong)

/- THE SECOND FORM. 'bulk': how many values and letters a reading holds, each counted each time it is reached (what is shared counts as often as it is met; a slice's spare places count too). A statement '..UptoSaid' is the law's where the arguments, and the package variables that the reading takes, are together of bulk at most 1048576: NARROWER than '..Said'. Prove '..Said' where nothing that the law and all that it calls make is longer than what came in: it says more and counts as full. Else prove '..UptoSaid'. A law counts once. -/
mutual
def uptoBulk {H : Type} : DataW H → Nat
  | .lit (.string bytes) => bytes.length + 1
  | .lit _ => 1
  | .nil => 1
  | .ptr d => uptoBulk d + 1
  | .slice elems spare => uptoBulkAll elems + uptoBulkAll spare + 1
  | .agg parts => uptoBulkAll parts + 1
  | .iface _ d => uptoBulk d + 1
  | .map entries => uptoBulkEntries entries + 1
  | .held _ => 1
def uptoBulkAll {H : Type} : List (DataW H) → Nat
  | [] => 0
  | d :: r => uptoBulk d + uptoBulkAll r
def uptoBulkEntries {H : Type} : List (Lit × DataW H) → Nat
  | [] => 0
  | x :: r => uptoBulkEntry x + uptoBulkEntries r
def uptoBulkEntry {H : Type} : Lit × DataW H → Nat
  | (.string bytes, d) => bytes.length + uptoBulk d + 1
  | (_, d) => uptoBulk d + 1
 end
def uptoSmall : (H : Type) → List (DataW H) → Bool := fun _ ds => decide (uptoBulkAll ds ≤ 1048576)
def OpenSpec.upto (s : _root_.Go.ChangeSpec) : _root_.Go.OpenSpec := { _root_.Go.OpenSpec.ofChange s with cond := some uptoSmall }

/-- 'laws.FnExactMayFit', WHERE WHAT IT READS IS OF BULK AT MOST 1048576: true; the input reads as it did. -/
def fnExactMayFitUptoRow : OpenClaim := { program := "ytaoknbhpjnileab", sum := "6def122e7ddfb6b0a2be4ccdc8f5e447bf387695224acb0055ca87e7032c6323", func := "loop.example/g01043/laws.FnExactMayFit", spec := "fnExactMayFit", apart := false, narrowed := true }
def FnExactMayFitUptoSaid : Prop := fnExactMayFitUptoRow.holds Try.pinned (OpenSpec.upto fnExactMayFitSpec)

/-- 'laws.FnExactFitCost', WHERE WHAT IT READS IS OF BULK AT MOST 1048576: true; the input reads as it did. -/
def fnExactFitCostUptoRow : OpenClaim := { program := "ytaoknbhpjnileab", sum := "6def122e7ddfb6b0a2be4ccdc8f5e447bf387695224acb0055ca87e7032c6323", func := "loop.example/g01043/laws.FnExactFitCost", spec := "fnExactFitCost", apart := false, narrowed := true }
def FnExactFitCostUptoSaid : Prop := fnExactFitCostUptoRow.holds Try.pinned (OpenSpec.upto fnExactFitCostSpec)

/-- 'laws.FnExactAllowedLasts', WHERE WHAT IT READS IS OF BULK AT MOST 1048576: true; the input reads as it did. -/
def fnExactAllowedLastsUptoRow : OpenClaim := { program := "ytaoknbhpjnileab", sum := "6def122e7ddfb6b0a2be4ccdc8f5e447bf387695224acb0055ca87e7032c6323", func := "loop.example/g01043/laws.FnExactAllowedLasts", spec := "fnExactAllowedLasts", unfollowed := true, recurses := true, apart := false, narrowed := true }
def FnExactAllowedLastsUptoSaid : Prop := fnExactAllowedLastsUptoRow.holds Try.pinned (OpenSpec.upto fnExactAllowedLastsSpec)

/-- 'laws.FnExactGradeSet', WHERE WHAT IT READS IS OF BULK AT MOST 1048576: true; the input reads as it did. -/
def fnExactGradeSetUptoRow : OpenClaim := { program := "ytaoknbhpjnileab", sum := "6def122e7ddfb6b0a2be4ccdc8f5e447bf387695224acb0055ca87e7032c6323", func := "loop.example/g01043/laws.FnExactGradeSet", spec := "fnExactGradeSet", unfollowed := true, recurses := true, apart := false, narrowed := true }
def FnExactGradeSetUptoSaid : Prop := fnExactGradeSetUptoRow.holds Try.pinned (OpenSpec.upto fnExactGradeSetSpec)

/-- 'laws.FnExactGradeBetween', WHERE WHAT IT READS IS OF BULK AT MOST 1048576: true; the input reads as it did. -/
def fnExactGradeBetweenUptoRow : OpenClaim := { program := "ytaoknbhpjnileab", sum := "6def122e7ddfb6b0a2be4ccdc8f5e447bf387695224acb0055ca87e7032c6323", func := "loop.example/g01043/laws.FnExactGradeBetween", spec := "fnExactGradeBetween", unfollowed := true, recurses := true, apart := false, narrowed := true }
def FnExactGradeBetweenUptoSaid : Prop := fnExactGradeBetweenUptoRow.holds Try.pinned (OpenSpec.upto fnExactGradeBetweenSpec)

/-- 'laws.FnExactStepsFor', WHERE WHAT IT READS IS OF BULK AT MOST 1048576: true; the input reads as it did. -/
def fnExactStepsForUptoRow : OpenClaim := { program := "ytaoknbhpjnileab", sum := "6def122e7ddfb6b0a2be4ccdc8f5e447bf387695224acb0055ca87e7032c6323", func := "loop.example/g01043/laws.FnExactStepsFor", spec := "fnExactStepsFor", unfollowed := true, recurses := true, apart := false, narrowed := true }
def FnExactStepsForUptoSaid : Prop := fnExactStepsForUptoRow.holds Try.pinned (OpenSpec.upto fnExactStepsForSpec)

/-- 'laws.FnExactScaleLengths', WHERE WHAT IT READS IS OF BULK AT MOST 1048576: true; the input reads as it did. -/
def fnExactScaleLengthsUptoRow : OpenClaim := { program := "ytaoknbhpjnileab", sum := "6def122e7ddfb6b0a2be4ccdc8f5e447bf387695224acb0055ca87e7032c6323", func := "loop.example/g01043/laws.FnExactScaleLengths", spec := "fnExactScaleLengths", apart := false, narrowed := true }
def FnExactScaleLengthsUptoSaid : Prop := fnExactScaleLengthsUptoRow.holds Try.pinned (OpenSpec.upto fnExactScaleLengthsSpec)

/-- 'laws.FnExactGradeLengths', WHERE WHAT IT READS IS OF BULK AT MOST 1048576: true; the input reads as it did. -/
def fnExactGradeLengthsUptoRow : OpenClaim := { program := "ytaoknbhpjnileab", sum := "6def122e7ddfb6b0a2be4ccdc8f5e447bf387695224acb0055ca87e7032c6323", func := "loop.example/g01043/laws.FnExactGradeLengths", spec := "fnExactGradeLengths", unfollowed := true, recurses := true, apart := false, narrowed := true }
def FnExactGradeLengthsUptoSaid : Prop := fnExactGradeLengthsUptoRow.holds Try.pinned (OpenSpec.upto fnExactGradeLengthsSpec)

/-- 'laws.FnExactGradeSeam', WHERE WHAT IT READS IS OF BULK AT MOST 1048576: true; the input reads as it did. -/
def fnExactGradeSeamUptoRow : OpenClaim := { program := "ytaoknbhpjnileab", sum := "6def122e7ddfb6b0a2be4ccdc8f5e447bf387695224acb0055ca87e7032c6323", func := "loop.example/g01043/laws.FnExactGradeSeam", spec := "fnExactGradeSeam", unfollowed := true, recurses := true, apart := false, narrowed := true }
def FnExactGradeSeamUptoSaid : Prop := fnExactGradeSeamUptoRow.holds Try.pinned (OpenSpec.upto fnExactGradeSeamSpec)

/-- 'laws.FnExactScaleErrors', WHERE WHAT IT READS IS OF BULK AT MOST 1048576: true; the input reads as it did. -/
def fnExactScaleErrorsUptoRow : OpenClaim := { program := "ytaoknbhpjnileab", sum := "6def122e7ddfb6b0a2be4ccdc8f5e447bf387695224acb0055ca87e7032c6323", func := "loop.example/g01043/laws.FnExactScaleErrors", spec := "fnExactScaleErrors", apart := false, narrowed := true }
def FnExactScaleErrorsUptoSaid : Prop := fnExactScaleErrorsUptoRow.holds Try.pinned (OpenSpec.upto fnExactScaleErrorsSpec)

end Rows
end Go.Proofs.Ytaoknbhpjnileab
