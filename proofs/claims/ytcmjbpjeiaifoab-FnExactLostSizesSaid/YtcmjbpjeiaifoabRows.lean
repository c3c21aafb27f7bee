/-
  No cell of these rows narrows 'for every input' (looked for: loops, veiled, ifaces, maps, wideKeys, modest, calm, conditions, laid).
  DERIVED. THE GIVEN ROWS OF THIS SEAT. 9 by the template 'for every input the law returns true; each argument reads behind the call as it read before'; 0 by the template 'total and deterministic' (their statements: YtcmjbpjeiaifoabTotals.lean).
  GIVEN WITH THE SEED: the statements are not yours to turn. If you find one false, say at which input.
  Laid BY PROGRAM, IN A SANDBOX (cutbox-rows.mjs): the forced cells as the released guide's own fill.sh prints them over the translation e65d3232e6295172… (all of the seat's roots in one cut). By AI agents, Wed Nov 11 2026. No macro, syntax, notation, axiom, sorry.
-/
import Derived.Test.YtcmjbpjeiaifoabChecked
import GoSem.Claim
import GoSem.ClaimJoined
import GoSem.ClaimMapViews
import Derived.JoinedTies
import Derived.KernelRfl
namespace Go.Proofs.Ytcmjbpjeiaifoab
/- THE CELL 'sum', in the pinned program and in every row, IS THE sha256 OF THE DUMP (.gsa) THAT YtcmjbpjeiaifoabProg.lean LOADS. Nothing in Lean hashes anything: it is a label: what it is worth is what the hold of that sum in a sandbox is worth. -/
noncomputable def Try.pinned : Pinned := { name := "ytcmjbpjeiaifoab", sum := "e65d3232e629517204723fc656286892807a990f6448e3a112c0fdf10f10b431", checked := Try.checked }
namespace Rows
def none {H : Type} : Left H := { results := [], args := [] }

/-- 'laws.FnExactValidScale': WHATEVER THE INPUT: true; the input reads as it did. -/
def fnExactValidScaleSpec : ChangeSpec := { name := "fnExactValidScale", fn := fun _ => fun
  | [d] => { results := [.lit (.bool true)], args := [d] }
  | _ => none }
def fnExactValidScaleRow : OpenClaim := { program := "ytcmjbpjeiaifoab", sum := "e65d3232e629517204723fc656286892807a990f6448e3a112c0fdf10f10b431", func := "loop.example/g01043/laws.FnExactValidScale", spec := "fnExactValidScale", apart := false }
def FnExactValidScaleSaid : Prop := fnExactValidScaleRow.holds Try.pinned (OpenSpec.ofChange fnExactValidScaleSpec)

/-- ITS FALSE NEIGHBOUR: 'it returns false'. Refute it at one input. -/
def fnExactValidScaleWrong : ChangeSpec := { name := "fnExactValidScale", fn := fun _ => fun
  | [d] => { results := [.lit (.bool false)], args := [d] }
  | _ => none }
def FnExactValidScaleWrongFalsely : Prop := fnExactValidScaleRow.holds Try.pinned (OpenSpec.ofChange fnExactValidScaleWrong)

/-- 'laws.FnExactLengthOfHalf': WHATEVER THE INPUT: true; the input reads as it did. -/
def fnExactLengthOfHalfSpec : ChangeSpec := { name := "fnExactLengthOfHalf", fn := fun _ => fun
  | [d1, d2] => { results := [.lit (.bool true)], args := [d1, d2] }
  | _ => none }
def fnExactLengthOfHalfRow : OpenClaim := { program := "ytcmjbpjeiaifoab", sum := "e65d3232e629517204723fc656286892807a990f6448e3a112c0fdf10f10b431", func := "loop.example/g01043/laws.FnExactLengthOfHalf", spec := "fnExactLengthOfHalf", apart := false }
def FnExactLengthOfHalfSaid : Prop := fnExactLengthOfHalfRow.holds Try.pinned (OpenSpec.ofChange fnExactLengthOfHalfSpec)

/-- ITS FALSE NEIGHBOUR: 'it returns false'. Refute it at one input. -/
def fnExactLengthOfHalfWrong : ChangeSpec := { name := "fnExactLengthOfHalf", fn := fun _ => fun
  | [d1, d2] => { results := [.lit (.bool false)], args := [d1, d2] }
  | _ => none }
def FnExactLengthOfHalfWrongFalsely : Prop := fnExactLengthOfHalfRow.holds Try.pinned (OpenSpec.ofChange fnExactLengthOfHalfWrong)

/-- 'laws.FnExactHalfFor': WHATEVER THE INPUT: true; the input reads as it did. -/
def fnExactHalfForSpec : ChangeSpec := { name := "fnExactHalfFor", fn := fun _ => fun
  | [d1, d2] => { results := [.lit (.bool true)], args := [d1, d2] }
  | _ => none }
def fnExactHalfForRow : OpenClaim := { program := "ytcmjbpjeiaifoab", sum := "e65d3232e629517204723fc656286892807a990f6448e3a112c0fdf10f10b431", func := "loop.example/g01043/laws.FnExactHalfFor", spec := "fnExactHalfFor", unfollowed := true, recurses := true, apart := false }
def FnExactHalfForSaid : Prop := fnExactHalfForRow.holds Try.pinned (OpenSpec.ofChange fnExactHalfForSpec)

/-- ITS FALSE NEIGHBOUR: 'it returns false'. Refute it at one input. -/
def fnExactHalfForWrong : ChangeSpec := { name := "fnExactHalfFor", fn := fun _ => fun
  | [d1, d2] => { results := [.lit (.bool false)], args := [d1, d2] }
  | _ => none }
def FnExactHalfForWrongFalsely : Prop := fnExactHalfForRow.holds Try.pinned (OpenSpec.ofChange fnExactHalfForWrong)

/-- 'laws.FnExactNearestHalf': WHATEVER THE INPUT: true; the input reads as it did. -/
def fnExactNearestHalfSpec : ChangeSpec := { name := "fnExactNearestHalf", fn := fun _ => fun
  | [d1, d2] => { results := [.lit (.bool true)], args := [d1, d2] }
  | _ => none }
def fnExactNearestHalfRow : OpenClaim := { program := "ytcmjbpjeiaifoab", sum := "e65d3232e629517204723fc656286892807a990f6448e3a112c0fdf10f10b431", func := "loop.example/g01043/laws.FnExactNearestHalf", spec := "fnExactNearestHalf", unfollowed := true, recurses := true, apart := false }
def FnExactNearestHalfSaid : Prop := fnExactNearestHalfRow.holds Try.pinned (OpenSpec.ofChange fnExactNearestHalfSpec)

/-- ITS FALSE NEIGHBOUR: 'it returns false'. Refute it at one input. -/
def fnExactNearestHalfWrong : ChangeSpec := { name := "fnExactNearestHalf", fn := fun _ => fun
  | [d1, d2] => { results := [.lit (.bool false)], args := [d1, d2] }
  | _ => none }
def FnExactNearestHalfWrongFalsely : Prop := fnExactNearestHalfRow.holds Try.pinned (OpenSpec.ofChange fnExactNearestHalfWrong)

/-- 'laws.FnExactConvertHalf': WHATEVER THE INPUT: true; the input reads as it did. -/
def fnExactConvertHalfSpec : ChangeSpec := { name := "fnExactConvertHalf", fn := fun _ => fun
  | [d1, d2, d3] => { results := [.lit (.bool true)], args := [d1, d2, d3] }
  | _ => none }
def fnExactConvertHalfRow : OpenClaim := { program := "ytcmjbpjeiaifoab", sum := "e65d3232e629517204723fc656286892807a990f6448e3a112c0fdf10f10b431", func := "loop.example/g01043/laws.FnExactConvertHalf", spec := "fnExactConvertHalf", unfollowed := true, recurses := true, apart := false }
def FnExactConvertHalfSaid : Prop := fnExactConvertHalfRow.holds Try.pinned (OpenSpec.ofChange fnExactConvertHalfSpec)

/-- ITS FALSE NEIGHBOUR: 'it returns false'. Refute it at one input. -/
def fnExactConvertHalfWrong : ChangeSpec := { name := "fnExactConvertHalf", fn := fun _ => fun
  | [d1, d2, d3] => { results := [.lit (.bool false)], args := [d1, d2, d3] }
  | _ => none }
def FnExactConvertHalfWrongFalsely : Prop := fnExactConvertHalfRow.holds Try.pinned (OpenSpec.ofChange fnExactConvertHalfWrong)

/-- 'laws.FnExactLostSizes': WHATEVER THE INPUT: true; the input reads as it did. -/
def fnExactLostSizesSpec : ChangeSpec := { name := "fnExactLostSizes", fn := fun _ => fun
  | [d1, d2, d3, d4] => { results := [.lit (.bool true)], args := [d1, d2, d3, d4] }
  | _ => none }
def fnExactLostSizesRow : OpenClaim := { program := "ytcmjbpjeiaifoab", sum := "e65d3232e629517204723fc656286892807a990f6448e3a112c0fdf10f10b431", func := "loop.example/g01043/laws.FnExactLostSizes", spec := "fnExactLostSizes", unfollowed := true, recurses := true, apart := false }
def FnExactLostSizesSaid : Prop := fnExactLostSizesRow.holds Try.pinned (OpenSpec.ofChange fnExactLostSizesSpec)

/-- ITS FALSE NEIGHBOUR: 'it returns false'. Refute it at one input. -/
def fnExactLostSizesWrong : ChangeSpec := { name := "fnExactLostSizes", fn := fun _ => fun
  | [d1, d2, d3, d4] => { results := [.lit (.bool false)], args := [d1, d2, d3, d4] }
  | _ => none }
def FnExactLostSizesWrongFalsely : Prop := fnExactLostSizesRow.holds Try.pinned (OpenSpec.ofChange fnExactLostSizesWrong)

/-- 'laws.FnExactValidWidths': WHATEVER THE INPUT: true; the input reads as it did. -/
def fnExactValidWidthsSpec : ChangeSpec := { name := "fnExactValidWidths", fn := fun _ => fun
  | [d] => { results := [.lit (.bool true)], args := [d] }
  | _ => none }
def fnExactValidWidthsRow : OpenClaim := { program := "ytcmjbpjeiaifoab", sum := "e65d3232e629517204723fc656286892807a990f6448e3a112c0fdf10f10b431", func := "loop.example/g01043/laws.FnExactValidWidths", spec := "fnExactValidWidths", apart := false }
def FnExactValidWidthsSaid : Prop := fnExactValidWidthsRow.holds Try.pinned (OpenSpec.ofChange fnExactValidWidthsSpec)

/-- ITS FALSE NEIGHBOUR: 'it returns false'. Refute it at one input. -/
def fnExactValidWidthsWrong : ChangeSpec := { name := "fnExactValidWidths", fn := fun _ => fun
  | [d] => { results := [.lit (.bool false)], args := [d] }
  | _ => none }
def FnExactValidWidthsWrongFalsely : Prop := fnExactValidWidthsRow.holds Try.pinned (OpenSpec.ofChange fnExactValidWidthsWrong)

/-- 'laws.FnExactGirthOf': WHATEVER THE INPUT: true; the input reads as it did. -/
def fnExactGirthOfSpec : ChangeSpec := { name := "fnExactGirthOf", fn := fun _ => fun
  | [d1, d2, d3] => { results := [.lit (.bool true)], args := [d1, d2, d3] }
  | _ => none }
def fnExactGirthOfRow : OpenClaim := { program := "ytcmjbpjeiaifoab", sum := "e65d3232e629517204723fc656286892807a990f6448e3a112c0fdf10f10b431", func := "loop.example/g01043/laws.FnExactGirthOf", spec := "fnExactGirthOf", apart := false }
def FnExactGirthOfSaid : Prop := fnExactGirthOfRow.holds Try.pinned (OpenSpec.ofChange fnExactGirthOfSpec)

/-- ITS FALSE NEIGHBOUR: 'it returns false'. Refute it at one input. -/
def fnExactGirthOfWrong : ChangeSpec := { name := "fnExactGirthOf", fn := fun _ => fun
  | [d1, d2, d3] => { results := [.lit (.bool false)], args := [d1, d2, d3] }
  | _ => none }
def FnExactGirthOfWrongFalsely : Prop := fnExactGirthOfRow.holds Try.pinned (OpenSpec.ofChange fnExactGirthOfWrong)

/-- 'laws.FnExactWidthFor': WHATEVER THE INPUT: true; the input reads as it did. -/
def fnExactWidthForSpec : ChangeSpec := { name := "fnExactWidthFor", fn := fun _ => fun
  | [d1, d2, d3] => { results := [.lit (.bool true)], args := [d1, d2, d3] }
  | _ => none }
def fnExactWidthForRow : OpenClaim := { program := "ytcmjbpjeiaifoab", sum := "e65d3232e629517204723fc656286892807a990f6448e3a112c0fdf10f10b431", func := "loop.example/g01043/laws.FnExactWidthFor", spec := "fnExactWidthFor", apart := false }
def FnExactWidthForSaid : Prop := fnExactWidthForRow.holds Try.pinned (OpenSpec.ofChange fnExactWidthForSpec)

/-- ITS FALSE NEIGHBOUR: 'it returns false'. Refute it at one input. -/
def fnExactWidthForWrong : ChangeSpec := { name := "fnExactWidthFor", fn := fun _ => fun
  | [d1, d2, d3] => { results := [.lit (.bool false)], args := [d1, d2, d3] }
  | _ => none }
def FnExactWidthForWrongFalsely : Prop := fnExactWidthForRow.holds Try.pinned (OpenSpec.ofChange fnExactWidthForWrong)

/- THE SECOND FORM. 'bulk': how many values and letters a reading holds, each counted each time it is reached (what is shared counts as often as it is met; a slice's spare places count too). A statement '..UptoSaid' is the law's where the arguments, and the package variables that the reading takes, are together of bulk at most 1048576: NARROWER than '..Said'. Prove '..Said' where nothing that the law and all that it calls make is longer than what came in: it says more and counts as full. Else prove '..UptoSaid'. A law counts once. -/
mutual
def uptoBulk {H : Type} : DataW H → Nat
  | .lit (.string bytes) => bytes.length + 1
  | .lit _ => 1
  | .nil => 1
  | .ptr d => uptoBulk d + 1
  | .slice elems spare => uptoBulkAll elems + uptoBulkAll spare + 1
  | .agg parts => uptoBulkAll parts + 1
  | .iface _ d => uptoBulk d + 1
  | .map entries => uptoBulkEntries entries + 1
  | .held _ => 1
def uptoBulkAll {H : Type} : List (DataW H) → Nat
  | [] => 0
  | d :: r => uptoBulk d + uptoBulkAll r
def uptoBulkEntries {H : Type} : List (Lit × DataW H) → Nat
  | [] => 0
  | x :: r => uptoBulkEntry x + uptoBulkEntries r
def uptoBulkEntry {H : Type} : Lit × DataW H → Nat
  | (.string bytes, d) => bytes.length + uptoBulk d + 1
  | (_, d) => uptoBulk d + 1
 end
def uptoSmall : (H : Type) → List (DataW H) → Bool := fun _ ds => decide (uptoBulkAll ds ≤ 1048576)
def OpenSpec.upto (s : _root_.Go.ChangeSpec) : _root_.Go.OpenSpec := { _root_.Go.OpenSpec.ofChange s with cond := some uptoSmall }

/-- 'laws.FnExactValidScale', WHERE WHAT IT READS IS OF BULK AT MOST 1048576: true; the input reads as it did. -/
def fnExactValidScaleUptoRow : OpenClaim := { program := "ytcmjbpjeiaifoab", sum := "e65d3232e629517204723fc656286892807a990f6448e3a112c0fdf10f10b431", func := "loop.example/g01043/laws.FnExactValidScale", spec := "fnExactValidScale", apart := false, narrowed := true }
def FnExactValidScaleUptoSaid : Prop := fnExactValidScaleUptoRow.holds Try.pinned (OpenSpec.upto fnExactValidScaleSpec)

/-- 'laws.FnExactLengthOfHalf', WHERE WHAT IT READS IS OF BULK AT MOST 1048576: true; the input reads as it did. -/
def fnExactLengthOfHalfUptoRow : OpenClaim := { program := "ytcmjbpjeiaifoab", sum := "e65d3232e629517204723fc656286892807a990f6448e3a112c0fdf10f10b431", func := "loop.example/g01043/laws.FnExactLengthOfHalf", spec := "fnExactLengthOfHalf", apart := false, narrowed := true }
def FnExactLengthOfHalfUptoSaid : Prop := fnExactLengthOfHalfUptoRow.holds Try.pinned (OpenSpec.upto fnExactLengthOfHalfSpec)

/-- 'laws.FnExactHalfFor', WHERE WHAT IT READS IS OF BULK AT MOST 1048576: true; the input reads as it did. -/
def fnExactHalfForUptoRow : OpenClaim := { program := "ytcmjbpjeiaifoab", sum := "e65d3232e629517204723fc656286892807a990f6448e3a112c0fdf10f10b431", func := "loop.example/g01043/laws.FnExactHalfFor", spec := "fnExactHalfFor", unfollowed := true, recurses := true, apart := false, narrowed := true }
def FnExactHalfForUptoSaid : Prop := fnExactHalfForUptoRow.holds Try.pinned (OpenSpec.upto fnExactHalfForSpec)

/-- 'laws.FnExactNearestHalf', WHERE WHAT IT READS IS OF BULK AT MOST 1048576: true; the input reads as it did. -/
def fnExactNearestHalfUptoRow : OpenClaim := { program := "ytcmjbpjeiaifoab", sum := "e65d3232e629517204723fc656286892807a990f6448e3a112c0fdf10f10b431", func := "loop.example/g01043/laws.FnExactNearestHalf", spec := "fnExactNearestHalf", unfollowed := true, recurses := true, apart := false, narrowed := true }
def FnExactNearestHalfUptoSaid : Prop := fnExactNearestHalfUptoRow.holds Try.pinned (OpenSpec.upto fnExactNearestHalfSpec)

/-- 'laws.FnExactConvertHalf', WHERE WHAT IT READS IS OF BULK AT MOST 1048576: true; the input reads as it did. -/
def fnExactConvertHalfUptoRow : OpenClaim := { program := "ytcmjbpjeiaifoab", sum := "e65d3232e629517204723fc656286892807a990f6448e3a112c0fdf10f10b431", func := "loop.example/g01043/laws.FnExactConvertHalf", spec := "fnExactConvertHalf", unfollowed := true, recurses := true, apart := false, narrowed := true }
def FnExactConvertHalfUptoSaid : Prop := fnExactConvertHalfUptoRow.holds Try.pinned (OpenSpec.upto fnExactConvertHalfSpec)

/-- 'laws.FnExactLostSizes', WHERE WHAT IT READS IS OF BULK AT MOST 1048576: true; the input reads as it did. -/
def fnExactLostSizesUptoRow : OpenClaim := { program := "ytcmjbpjeiaifoab", sum := "e65d3232e629517204723fc656286892807a990f6448e3a112c0fdf10f10b431", func := "loop.example/g01043/laws.FnExactLostSizes", spec := "fnExactLostSizes", unfollowed := true, recurses := true, apart := false, narrowed := true }
def FnExactLostSizesUptoSaid : Prop := fnExactLostSizesUptoRow.holds Try.pinned (OpenSpec.upto fnExactLostSizesSpec)

/-- 'laws.FnExactValidWidths', WHERE WHAT IT READS IS OF BULK AT MOST 1048576: true; the input reads as it did. -/
def fnExactValidWidthsUptoRow : OpenClaim := { program := "ytcmjbpjeiaifoab", sum := "e65d3232e629517204723fc656286892807a990f6448e3a112c0fdf10f10b431", func := "loop.example/g01043/laws.FnExactValidWidths", spec := "fnExactValidWidths", apart := false, narrowed := true }
def FnExactValidWidthsUptoSaid : Prop := fnExactValidWidthsUptoRow.holds Try.pinned (OpenSpec.upto fnExactValidWidthsSpec)

/-- 'laws.FnExactGirthOf', WHERE WHAT IT READS IS OF BULK AT MOST 1048576: true; the input reads as it did. -/
def fnExactGirthOfUptoRow : OpenClaim := { program := "ytcmjbpjeiaifoab", sum := "e65d3232e629517204723fc656286892807a990f6448e3a112c0fdf10f10b431", func := "loop.example/g01043/laws.FnExactGirthOf", spec := "fnExactGirthOf", apart := false, narrowed := true }
def FnExactGirthOfUptoSaid : Prop := fnExactGirthOfUptoRow.holds Try.pinned (OpenSpec.upto fnExactGirthOfSpec)

/-- 'laws.FnExactWidthFor', WHERE WHAT IT READS IS OF BULK AT MOST 1048576: true; the input reads as it did. -/
def fnExactWidthForUptoRow : OpenClaim := { program := "ytcmjbpjeiaifoab", sum := "e65d3232e629517204723fc656286892807a990f6448e3a112c0fdf10f10b431", func := "loop.example/g01043/laws.FnExactWidthFor", spec := "fnExactWidthFor", apart := false, narrowed := true }
def FnExactWidthForUptoSaid : Prop := fnExactWidthForUptoRow.holds Try.pinned (OpenSpec.upto fnExactWidthForSpec)

end Rows
end Go.Proofs.Ytcmjbpjeiaifoab
