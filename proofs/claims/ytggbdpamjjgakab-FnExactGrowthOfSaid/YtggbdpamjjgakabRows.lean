/-
  No cell of these rows narrows 'for every input' (looked for: loops, veiled, ifaces, maps, wideKeys, modest, calm, conditions, laid).
  DERIVED. THE GIVEN ROWS OF THIS SEAT. 5 by the template 'for every input the law returns true; each argument reads behind the call as it read before'; 0 by the template 'total and deterministic' (their statements: YtggbdpamjjgakabTotals.lean).
  GIVEN WITH THE SEED: the statements are not yours to turn. If you find one false, say at which input.
  Laid BY PROGRAM, IN A SANDBOX (cutbox-rows.mjs): the forced cells as the released guide's own fill.sh prints them over the translation 136b6cce630f3bf8… (all of the seat's roots in one cut). By AI agents, Wed Nov 11 2026. No macro, syntax, notation, axiom, sorry.
-/
import Derived.Test.YtggbdpamjjgakabChecked
import GoSem.Claim
import GoSem.ClaimJoined
import GoSem.ClaimMapViews
import Derived.JoinedTies
import Derived.KernelRfl
namespace Go.Proofs.Ytggbdpamjjgakab
/- THE CELL 'sum', in the pinned program and in every row, IS THE sha256 OF THE DUMP (.gsa) THAT YtggbdpamjjgakabProg.lean LOADS. Nothing in Lean hashes anything: it is a label: what it is worth is what the hold of that sum in a sandbox is worth. -/
noncomputable def Try.pinned : Pinned := { name := "ytggbdpamjjgakab", sum := "136b6cce630f3bf88cc733ea12f8c522ab4934eeb95354273a6719ea56cfa289", checked := Try.checked }
namespace Rows
def none {H : Type} : Left H := { results := [], args := [] }

/-- 'laws.FnExactBuildUpFor': WHATEVER THE INPUT: true; the input reads as it did. -/
def fnExactBuildUpForSpec : ChangeSpec := { name := "fnExactBuildUpFor", fn := fun _ => fun
  | [d1, d2, d3, d4] => { results := [.lit (.bool true)], args := [d1, d2, d3, d4] }
  | _ => none }
def fnExactBuildUpForRow : OpenClaim := { program := "ytggbdpamjjgakab", sum := "136b6cce630f3bf88cc733ea12f8c522ab4934eeb95354273a6719ea56cfa289", func := "loop.example/g01043/laws.FnExactBuildUpFor", spec := "fnExactBuildUpFor", unfollowed := true, recurses := true, apart := false }
def FnExactBuildUpForSaid : Prop := fnExactBuildUpForRow.holds Try.pinned (OpenSpec.ofChange fnExactBuildUpForSpec)

/-- ITS FALSE NEIGHBOUR: 'it returns false'. Refute it at one input. -/
def fnExactBuildUpForWrong : ChangeSpec := { name := "fnExactBuildUpFor", fn := fun _ => fun
  | [d1, d2, d3, d4] => { results := [.lit (.bool false)], args := [d1, d2, d3, d4] }
  | _ => none }
def FnExactBuildUpForWrongFalsely : Prop := fnExactBuildUpForRow.holds Try.pinned (OpenSpec.ofChange fnExactBuildUpForWrong)

/-- 'laws.FnExactGrowthOf': WHATEVER THE INPUT: true; the input reads as it did. -/
def fnExactGrowthOfSpec : ChangeSpec := { name := "fnExactGrowthOf", fn := fun _ => fun
  | [d1, d2] => { results := [.lit (.bool true)], args := [d1, d2] }
  | _ => none }
def fnExactGrowthOfRow : OpenClaim := { program := "ytggbdpamjjgakab", sum := "136b6cce630f3bf88cc733ea12f8c522ab4934eeb95354273a6719ea56cfa289", func := "loop.example/g01043/laws.FnExactGrowthOf", spec := "fnExactGrowthOf", apart := false }
def FnExactGrowthOfSaid : Prop := fnExactGrowthOfRow.holds Try.pinned (OpenSpec.ofChange fnExactGrowthOfSpec)

/-- ITS FALSE NEIGHBOUR: 'it returns false'. Refute it at one input. -/
def fnExactGrowthOfWrong : ChangeSpec := { name := "fnExactGrowthOf", fn := fun _ => fun
  | [d1, d2] => { results := [.lit (.bool false)], args := [d1, d2] }
  | _ => none }
def FnExactGrowthOfWrongFalsely : Prop := fnExactGrowthOfRow.holds Try.pinned (OpenSpec.ofChange fnExactGrowthOfWrong)

/-- 'laws.FnExactLengthOfHalf': WHATEVER THE INPUT: true; the input reads as it did. -/
def fnExactLengthOfHalfSpec : ChangeSpec := { name := "fnExactLengthOfHalf", fn := fun _ => fun
  | [d1, d2] => { results := [.lit (.bool true)], args := [d1, d2] }
  | _ => none }
def fnExactLengthOfHalfRow : OpenClaim := { program := "ytggbdpamjjgakab", sum := "136b6cce630f3bf88cc733ea12f8c522ab4934eeb95354273a6719ea56cfa289", func := "loop.example/g01043/laws.FnExactLengthOfHalf", spec := "fnExactLengthOfHalf", apart := false }
def FnExactLengthOfHalfSaid : Prop := fnExactLengthOfHalfRow.holds Try.pinned (OpenSpec.ofChange fnExactLengthOfHalfSpec)

/-- ITS FALSE NEIGHBOUR: 'it returns false'. Refute it at one input. -/
def fnExactLengthOfHalfWrong : ChangeSpec := { name := "fnExactLengthOfHalf", fn := fun _ => fun
  | [d1, d2] => { results := [.lit (.bool false)], args := [d1, d2] }
  | _ => none }
def FnExactLengthOfHalfWrongFalsely : Prop := fnExactLengthOfHalfRow.holds Try.pinned (OpenSpec.ofChange fnExactLengthOfHalfWrong)

/-- 'laws.FnExactHalfFor': WHATEVER THE INPUT: true; the input reads as it did. -/
def fnExactHalfForSpec : ChangeSpec := { name := "fnExactHalfFor", fn := fun _ => fun
  | [d1, d2] => { results := [.lit (.bool true)], args := [d1, d2] }
  | _ => none }
def fnExactHalfForRow : OpenClaim := { program := "ytggbdpamjjgakab", sum := "136b6cce630f3bf88cc733ea12f8c522ab4934eeb95354273a6719ea56cfa289", func := "loop.example/g01043/laws.FnExactHalfFor", spec := "fnExactHalfFor", unfollowed := true, recurses := true, apart := false }
def FnExactHalfForSaid : Prop := fnExactHalfForRow.holds Try.pinned (OpenSpec.ofChange fnExactHalfForSpec)

/-- ITS FALSE NEIGHBOUR: 'it returns false'. Refute it at one input. -/
def fnExactHalfForWrong : ChangeSpec := { name := "fnExactHalfFor", fn := fun _ => fun
  | [d1, d2] => { results := [.lit (.bool false)], args := [d1, d2] }
  | _ => none }
def FnExactHalfForWrongFalsely : Prop := fnExactHalfForRow.holds Try.pinned (OpenSpec.ofChange fnExactHalfForWrong)

/-- 'laws.FnExactConvertHalf': WHATEVER THE INPUT: true; the input reads as it did. -/
def fnExactConvertHalfSpec : ChangeSpec := { name := "fnExactConvertHalf", fn := fun _ => fun
  | [d1, d2, d3] => { results := [.lit (.bool true)], args := [d1, d2, d3] }
  | _ => none }
def fnExactConvertHalfRow : OpenClaim := { program := "ytggbdpamjjgakab", sum := "136b6cce630f3bf88cc733ea12f8c522ab4934eeb95354273a6719ea56cfa289", func := "loop.example/g01043/laws.FnExactConvertHalf", spec := "fnExactConvertHalf", unfollowed := true, recurses := true, apart := false }
def FnExactConvertHalfSaid : Prop := fnExactConvertHalfRow.holds Try.pinned (OpenSpec.ofChange fnExactConvertHalfSpec)

/-- ITS FALSE NEIGHBOUR: 'it returns false'. Refute it at one input. -/
def fnExactConvertHalfWrong : ChangeSpec := { name := "fnExactConvertHalf", fn := fun _ => fun
  | [d1, d2, d3] => { results := [.lit (.bool false)], args := [d1, d2, d3] }
  | _ => none }
def FnExactConvertHalfWrongFalsely : Prop := fnExactConvertHalfRow.holds Try.pinned (OpenSpec.ofChange fnExactConvertHalfWrong)

/- THE SECOND FORM. 'bulk': how many values and letters a reading holds, each counted each time it is reached (what is shared counts as often as it is met; a slice's spare places count too). A statement '..UptoSaid' is the law's where the arguments, and the package variables that the reading takes, are together of bulk at most 1048576: NARROWER than '..Said'. Prove '..Said' where nothing that the law and all that it calls make is longer than what came in: it says more and counts as full. Else prove '..UptoSaid'. A law counts once. -/
mutual
def uptoBulk {H : Type} : DataW H → Nat
  | .lit (.string bytes) => bytes.length + 1
  | .lit _ => 1
  | .nil => 1
  | .ptr d => uptoBulk d + 1
  | .slice elems spare => uptoBulkAll elems + uptoBulkAll spare + 1
  | .agg parts => uptoBulkAll parts + 1
  | .iface _ d => uptoBulk d + 1
  | .map entries => uptoBulkEntries entries + 1
  | .held _ => 1
def uptoBulkAll {H : Type} : List (DataW H) → Nat
  | [] => 0
  | d :: r => uptoBulk d + uptoBulkAll r
def uptoBulkEntries {H : Type} : List (Lit × DataW H) → Nat
  | [] => 0
  | x :: r => uptoBulkEntry x + uptoBulkEntries r
def uptoBulkEntry {H : Type} : Lit × DataW H → Nat
  | (.string bytes, d) => bytes.length + uptoBulk d + 1
  | (_, d) => uptoBulk d + 1
 end
def uptoSmall : (H : Type) → List (DataW H) → Bool := fun _ ds => decide (uptoBulkAll ds ≤ 1048576)
def OpenSpec.upto (s : _root_.Go.ChangeSpec) : _root_.Go.OpenSpec := { _root_.Go.OpenSpec.ofChange s with cond := some uptoSmall }

/-- 'laws.FnExactBuildUpFor', WHERE WHAT IT READS IS OF BULK AT MOST 1048576: true; the input reads as it did. -/
def fnExactBuildUpForUptoRow : OpenClaim := { program := "ytggbdpamjjgakab", sum := "136b6cce630f3bf88cc733ea12f8c522ab4934eeb95354273a6719ea56cfa289", func := "loop.example/g01043/laws.FnExactBuildUpFor", spec := "fnExactBuildUpFor", unfollowed := true, recurses := true, apart := false, narrowed := true }
def FnExactBuildUpForUptoSaid : Prop := fnExactBuildUpForUptoRow.holds Try.pinned (OpenSpec.upto fnExactBuildUpForSpec)

/-- 'laws.FnExactGrowthOf', WHERE WHAT IT READS IS OF BULK AT MOST 1048576: true; the input reads as it did. -/
def fnExactGrowthOfUptoRow : OpenClaim := { program := "ytggbdpamjjgakab", sum := "136b6cce630f3bf88cc733ea12f8c522ab4934eeb95354273a6719ea56cfa289", func := "loop.example/g01043/laws.FnExactGrowthOf", spec := "fnExactGrowthOf", apart := false, narrowed := true }
def FnExactGrowthOfUptoSaid : Prop := fnExactGrowthOfUptoRow.holds Try.pinned (OpenSpec.upto fnExactGrowthOfSpec)

/-- 'laws.FnExactLengthOfHalf', WHERE WHAT IT READS IS OF BULK AT MOST 1048576: true; the input reads as it did. -/
def fnExactLengthOfHalfUptoRow : OpenClaim := { program := "ytggbdpamjjgakab", sum := "136b6cce630f3bf88cc733ea12f8c522ab4934eeb95354273a6719ea56cfa289", func := "loop.example/g01043/laws.FnExactLengthOfHalf", spec := "fnExactLengthOfHalf", apart := false, narrowed := true }
def FnExactLengthOfHalfUptoSaid : Prop := fnExactLengthOfHalfUptoRow.holds Try.pinned (OpenSpec.upto fnExactLengthOfHalfSpec)

/-- 'laws.FnExactHalfFor', WHERE WHAT IT READS IS OF BULK AT MOST 1048576: true; the input reads as it did. -/
def fnExactHalfForUptoRow : OpenClaim := { program := "ytggbdpamjjgakab", sum := "136b6cce630f3bf88cc733ea12f8c522ab4934eeb95354273a6719ea56cfa289", func := "loop.example/g01043/laws.FnExactHalfFor", spec := "fnExactHalfFor", unfollowed := true, recurses := true, apart := false, narrowed := true }
def FnExactHalfForUptoSaid : Prop := fnExactHalfForUptoRow.holds Try.pinned (OpenSpec.upto fnExactHalfForSpec)

/-- 'laws.FnExactConvertHalf', WHERE WHAT IT READS IS OF BULK AT MOST 1048576: true; the input reads as it did. -/
def fnExactConvertHalfUptoRow : OpenClaim := { program := "ytggbdpamjjgakab", sum := "136b6cce630f3bf88cc733ea12f8c522ab4934eeb95354273a6719ea56cfa289", func := "loop.example/g01043/laws.FnExactConvertHalf", spec := "fnExactConvertHalf", unfollowed := true, recurses := true, apart := false, narrowed := true }
def FnExactConvertHalfUptoSaid : Prop := fnExactConvertHalfUptoRow.holds Try.pinned (OpenSpec.upto fnExactConvertHalfSpec)

end Rows
end Go.Proofs.Ytggbdpamjjgakab
