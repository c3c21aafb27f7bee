/-
  No cell of these rows narrows 'for every input' (looked for: loops, veiled, ifaces, maps, wideKeys, modest, calm, conditions, laid).
  DERIVED. THE GIVEN ROWS OF THIS SEAT. 12 by the template 'for every input the law returns true; each argument reads behind the call as it read before'; 0 by the template 'total and deterministic' (their statements: YtgclhkiiaclkgaaTotals.lean).
  GIVEN WITH THE SEED: the statements are not yours to turn. If you find one false, say at which input.
  Laid BY PROGRAM, IN A SANDBOX (cutbox-rows.mjs): the forced cells as the released guide's own fill.sh prints them over the translation 166df13310f13048… (all of the seat's roots in one cut). By AI agents, Wed Nov 11 2026. No macro, syntax, notation, axiom, sorry.
-/
import Derived.Test.YtgclhkiiaclkgaaChecked
import GoSem.Claim
import GoSem.ClaimJoined
import GoSem.ClaimMapViews
import Derived.JoinedTies
import Derived.KernelRfl
namespace Go.Proofs.Ytgclhkiiaclkgaa
/- THE CELL 'sum', in the pinned program and in every row, IS THE sha256 OF THE DUMP (.gsa) THAT YtgclhkiiaclkgaaProg.lean LOADS. Nothing in Lean hashes anything: it is a label: what it is worth is what the hold of that sum in a sandbox is worth. -/
noncomputable def Try.pinned : Pinned := { name := "ytgclhkiiaclkgaa", sum := "166df13310f1304815683859298b96d53ef28444a23994ced059d1addecf2643", checked := Try.checked }
namespace Rows
def none {H : Type} : Left H := { results := [], args := [] }

/-- 'laws.FnExactValidLeather': WHATEVER THE INPUT: true; the input reads as it did. -/
def fnExactValidLeatherSpec : ChangeSpec := { name := "fnExactValidLeather", fn := fun _ => fun
  | [d] => { results := [.lit (.bool true)], args := [d] }
  | _ => none }
def fnExactValidLeatherRow : OpenClaim := { program := "ytgclhkiiaclkgaa", sum := "166df13310f1304815683859298b96d53ef28444a23994ced059d1addecf2643", func := "loop.example/g01043/laws.FnExactValidLeather", spec := "fnExactValidLeather", apart := false }
def FnExactValidLeatherSaid : Prop := fnExactValidLeatherRow.holds Try.pinned (OpenSpec.ofChange fnExactValidLeatherSpec)

/-- ITS FALSE NEIGHBOUR: 'it returns false'. Refute it at one input. -/
def fnExactValidLeatherWrong : ChangeSpec := { name := "fnExactValidLeather", fn := fun _ => fun
  | [d] => { results := [.lit (.bool false)], args := [d] }
  | _ => none }
def FnExactValidLeatherWrongFalsely : Prop := fnExactValidLeatherRow.holds Try.pinned (OpenSpec.ofChange fnExactValidLeatherWrong)

/-- 'laws.FnExactStretchOf': WHATEVER THE INPUT: true; the input reads as it did. -/
def fnExactStretchOfSpec : ChangeSpec := { name := "fnExactStretchOf", fn := fun _ => fun
  | [d1, d2, d3] => { results := [.lit (.bool true)], args := [d1, d2, d3] }
  | _ => none }
def fnExactStretchOfRow : OpenClaim := { program := "ytgclhkiiaclkgaa", sum := "166df13310f1304815683859298b96d53ef28444a23994ced059d1addecf2643", func := "loop.example/g01043/laws.FnExactStretchOf", spec := "fnExactStretchOf", unfollowed := true, recurses := true, apart := false }
def FnExactStretchOfSaid : Prop := fnExactStretchOfRow.holds Try.pinned (OpenSpec.ofChange fnExactStretchOfSpec)

/-- ITS FALSE NEIGHBOUR: 'it returns false'. Refute it at one input. -/
def fnExactStretchOfWrong : ChangeSpec := { name := "fnExactStretchOf", fn := fun _ => fun
  | [d1, d2, d3] => { results := [.lit (.bool false)], args := [d1, d2, d3] }
  | _ => none }
def FnExactStretchOfWrongFalsely : Prop := fnExactStretchOfRow.holds Try.pinned (OpenSpec.ofChange fnExactStretchOfWrong)

/-- 'laws.FnExactLengthUnder': WHATEVER THE INPUT: true; the input reads as it did. -/
def fnExactLengthUnderSpec : ChangeSpec := { name := "fnExactLengthUnder", fn := fun _ => fun
  | [d1, d2, d3, d4] => { results := [.lit (.bool true)], args := [d1, d2, d3, d4] }
  | _ => none }
def fnExactLengthUnderRow : OpenClaim := { program := "ytgclhkiiaclkgaa", sum := "166df13310f1304815683859298b96d53ef28444a23994ced059d1addecf2643", func := "loop.example/g01043/laws.FnExactLengthUnder", spec := "fnExactLengthUnder", unfollowed := true, recurses := true, apart := false }
def FnExactLengthUnderSaid : Prop := fnExactLengthUnderRow.holds Try.pinned (OpenSpec.ofChange fnExactLengthUnderSpec)

/-- ITS FALSE NEIGHBOUR: 'it returns false'. Refute it at one input. -/
def fnExactLengthUnderWrong : ChangeSpec := { name := "fnExactLengthUnder", fn := fun _ => fun
  | [d1, d2, d3, d4] => { results := [.lit (.bool false)], args := [d1, d2, d3, d4] }
  | _ => none }
def FnExactLengthUnderWrongFalsely : Prop := fnExactLengthUnderRow.holds Try.pinned (OpenSpec.ofChange fnExactLengthUnderWrong)

/-- 'laws.FnExactLengthAfter': WHATEVER THE INPUT: true; the input reads as it did. -/
def fnExactLengthAfterSpec : ChangeSpec := { name := "fnExactLengthAfter", fn := fun _ => fun
  | [d1, d2, d3, d4] => { results := [.lit (.bool true)], args := [d1, d2, d3, d4] }
  | _ => none }
def fnExactLengthAfterRow : OpenClaim := { program := "ytgclhkiiaclkgaa", sum := "166df13310f1304815683859298b96d53ef28444a23994ced059d1addecf2643", func := "loop.example/g01043/laws.FnExactLengthAfter", spec := "fnExactLengthAfter", unfollowed := true, recurses := true, apart := false }
def FnExactLengthAfterSaid : Prop := fnExactLengthAfterRow.holds Try.pinned (OpenSpec.ofChange fnExactLengthAfterSpec)

/-- ITS FALSE NEIGHBOUR: 'it returns false'. Refute it at one input. -/
def fnExactLengthAfterWrong : ChangeSpec := { name := "fnExactLengthAfter", fn := fun _ => fun
  | [d1, d2, d3, d4] => { results := [.lit (.bool false)], args := [d1, d2, d3, d4] }
  | _ => none }
def FnExactLengthAfterWrongFalsely : Prop := fnExactLengthAfterRow.holds Try.pinned (OpenSpec.ofChange fnExactLengthAfterWrong)

/-- 'laws.FnExactRunPulls': WHATEVER THE INPUT: true; the input reads as it did. -/
def fnExactRunPullsSpec : ChangeSpec := { name := "fnExactRunPulls", fn := fun _ => fun
  | [d1, d2, d3, d4] => { results := [.lit (.bool true)], args := [d1, d2, d3, d4] }
  | _ => none }
def fnExactRunPullsRow : OpenClaim := { program := "ytgclhkiiaclkgaa", sum := "166df13310f1304815683859298b96d53ef28444a23994ced059d1addecf2643", func := "loop.example/g01043/laws.FnExactRunPulls", spec := "fnExactRunPulls", unfollowed := true, recurses := true, apart := false }
def FnExactRunPullsSaid : Prop := fnExactRunPullsRow.holds Try.pinned (OpenSpec.ofChange fnExactRunPullsSpec)

/-- ITS FALSE NEIGHBOUR: 'it returns false'. Refute it at one input. -/
def fnExactRunPullsWrong : ChangeSpec := { name := "fnExactRunPulls", fn := fun _ => fun
  | [d1, d2, d3, d4] => { results := [.lit (.bool false)], args := [d1, d2, d3, d4] }
  | _ => none }
def FnExactRunPullsWrongFalsely : Prop := fnExactRunPullsRow.holds Try.pinned (OpenSpec.ofChange fnExactRunPullsWrong)

/-- 'laws.FnExactPullFor': WHATEVER THE INPUT: true; the input reads as it did. -/
def fnExactPullForSpec : ChangeSpec := { name := "fnExactPullFor", fn := fun _ => fun
  | [d1, d2, d3, d4] => { results := [.lit (.bool true)], args := [d1, d2, d3, d4] }
  | _ => none }
def fnExactPullForRow : OpenClaim := { program := "ytgclhkiiaclkgaa", sum := "166df13310f1304815683859298b96d53ef28444a23994ced059d1addecf2643", func := "loop.example/g01043/laws.FnExactPullFor", spec := "fnExactPullFor", unfollowed := true, recurses := true, apart := false }
def FnExactPullForSaid : Prop := fnExactPullForRow.holds Try.pinned (OpenSpec.ofChange fnExactPullForSpec)

/-- ITS FALSE NEIGHBOUR: 'it returns false'. Refute it at one input. -/
def fnExactPullForWrong : ChangeSpec := { name := "fnExactPullFor", fn := fun _ => fun
  | [d1, d2, d3, d4] => { results := [.lit (.bool false)], args := [d1, d2, d3, d4] }
  | _ => none }
def FnExactPullForWrongFalsely : Prop := fnExactPullForRow.holds Try.pinned (OpenSpec.ofChange fnExactPullForWrong)

/-- 'laws.FnExactCutLength': WHATEVER THE INPUT: true; the input reads as it did. -/
def fnExactCutLengthSpec : ChangeSpec := { name := "fnExactCutLength", fn := fun _ => fun
  | [d1, d2, d3, d4] => { results := [.lit (.bool true)], args := [d1, d2, d3, d4] }
  | _ => none }
def fnExactCutLengthRow : OpenClaim := { program := "ytgclhkiiaclkgaa", sum := "166df13310f1304815683859298b96d53ef28444a23994ced059d1addecf2643", func := "loop.example/g01043/laws.FnExactCutLength", spec := "fnExactCutLength", unfollowed := true, recurses := true, apart := false }
def FnExactCutLengthSaid : Prop := fnExactCutLengthRow.holds Try.pinned (OpenSpec.ofChange fnExactCutLengthSpec)

/-- ITS FALSE NEIGHBOUR: 'it returns false'. Refute it at one input. -/
def fnExactCutLengthWrong : ChangeSpec := { name := "fnExactCutLength", fn := fun _ => fun
  | [d1, d2, d3, d4] => { results := [.lit (.bool false)], args := [d1, d2, d3, d4] }
  | _ => none }
def FnExactCutLengthWrongFalsely : Prop := fnExactCutLengthRow.holds Try.pinned (OpenSpec.ofChange fnExactCutLengthWrong)

/-- 'laws.FnExactBestDirection': WHATEVER THE INPUT: true; the input reads as it did. -/
def fnExactBestDirectionSpec : ChangeSpec := { name := "fnExactBestDirection", fn := fun _ => fun
  | [d1, d2, d3, d4] => { results := [.lit (.bool true)], args := [d1, d2, d3, d4] }
  | _ => none }
def fnExactBestDirectionRow : OpenClaim := { program := "ytgclhkiiaclkgaa", sum := "166df13310f1304815683859298b96d53ef28444a23994ced059d1addecf2643", func := "loop.example/g01043/laws.FnExactBestDirection", spec := "fnExactBestDirection", apart := false }
def FnExactBestDirectionSaid : Prop := fnExactBestDirectionRow.holds Try.pinned (OpenSpec.ofChange fnExactBestDirectionSpec)

/-- ITS FALSE NEIGHBOUR: 'it returns false'. Refute it at one input. -/
def fnExactBestDirectionWrong : ChangeSpec := { name := "fnExactBestDirection", fn := fun _ => fun
  | [d1, d2, d3, d4] => { results := [.lit (.bool false)], args := [d1, d2, d3, d4] }
  | _ => none }
def FnExactBestDirectionWrongFalsely : Prop := fnExactBestDirectionRow.holds Try.pinned (OpenSpec.ofChange fnExactBestDirectionWrong)

/-- 'laws.FnExactGreatestPull': WHATEVER THE INPUT: true; the input reads as it did. -/
def fnExactGreatestPullSpec : ChangeSpec := { name := "fnExactGreatestPull", fn := fun _ => fun
  | [d1, d2] => { results := [.lit (.bool true)], args := [d1, d2] }
  | _ => none }
def fnExactGreatestPullRow : OpenClaim := { program := "ytgclhkiiaclkgaa", sum := "166df13310f1304815683859298b96d53ef28444a23994ced059d1addecf2643", func := "loop.example/g01043/laws.FnExactGreatestPull", spec := "fnExactGreatestPull", unfollowed := true, recurses := true, apart := false }
def FnExactGreatestPullSaid : Prop := fnExactGreatestPullRow.holds Try.pinned (OpenSpec.ofChange fnExactGreatestPullSpec)

/-- ITS FALSE NEIGHBOUR: 'it returns false'. Refute it at one input. -/
def fnExactGreatestPullWrong : ChangeSpec := { name := "fnExactGreatestPull", fn := fun _ => fun
  | [d1, d2] => { results := [.lit (.bool false)], args := [d1, d2] }
  | _ => none }
def FnExactGreatestPullWrongFalsely : Prop := fnExactGreatestPullRow.holds Try.pinned (OpenSpec.ofChange fnExactGreatestPullWrong)

/-- 'laws.FnExactMatchDirections': WHATEVER THE INPUT: true; the input reads as it did. -/
def fnExactMatchDirectionsSpec : ChangeSpec := { name := "fnExactMatchDirections", fn := fun _ => fun
  | [d1, d2] => { results := [.lit (.bool true)], args := [d1, d2] }
  | _ => none }
def fnExactMatchDirectionsRow : OpenClaim := { program := "ytgclhkiiaclkgaa", sum := "166df13310f1304815683859298b96d53ef28444a23994ced059d1addecf2643", func := "loop.example/g01043/laws.FnExactMatchDirections", spec := "fnExactMatchDirections", apart := false }
def FnExactMatchDirectionsSaid : Prop := fnExactMatchDirectionsRow.holds Try.pinned (OpenSpec.ofChange fnExactMatchDirectionsSpec)

/-- ITS FALSE NEIGHBOUR: 'it returns false'. Refute it at one input. -/
def fnExactMatchDirectionsWrong : ChangeSpec := { name := "fnExactMatchDirections", fn := fun _ => fun
  | [d1, d2] => { results := [.lit (.bool false)], args := [d1, d2] }
  | _ => none }
def FnExactMatchDirectionsWrongFalsely : Prop := fnExactMatchDirectionsRow.holds Try.pinned (OpenSpec.ofChange fnExactMatchDirectionsWrong)

/-- 'laws.FnExactHalfFor': WHATEVER THE INPUT: true; the input reads as it did. -/
def fnExactHalfForSpec : ChangeSpec := { name := "fnExactHalfFor", fn := fun _ => fun
  | [d1, d2] => { results := [.lit (.bool true)], args := [d1, d2] }
  | _ => none }
def fnExactHalfForRow : OpenClaim := { program := "ytgclhkiiaclkgaa", sum := "166df13310f1304815683859298b96d53ef28444a23994ced059d1addecf2643", func := "loop.example/g01043/laws.FnExactHalfFor", spec := "fnExactHalfFor", unfollowed := true, recurses := true, apart := false }
def FnExactHalfForSaid : Prop := fnExactHalfForRow.holds Try.pinned (OpenSpec.ofChange fnExactHalfForSpec)

/-- ITS FALSE NEIGHBOUR: 'it returns false'. Refute it at one input. -/
def fnExactHalfForWrong : ChangeSpec := { name := "fnExactHalfFor", fn := fun _ => fun
  | [d1, d2] => { results := [.lit (.bool false)], args := [d1, d2] }
  | _ => none }
def FnExactHalfForWrongFalsely : Prop := fnExactHalfForRow.holds Try.pinned (OpenSpec.ofChange fnExactHalfForWrong)

/-- 'laws.FnExactNearestHalf': WHATEVER THE INPUT: true; the input reads as it did. -/
def fnExactNearestHalfSpec : ChangeSpec := { name := "fnExactNearestHalf", fn := fun _ => fun
  | [d1, d2] => { results := [.lit (.bool true)], args := [d1, d2] }
  | _ => none }
def fnExactNearestHalfRow : OpenClaim := { program := "ytgclhkiiaclkgaa", sum := "166df13310f1304815683859298b96d53ef28444a23994ced059d1addecf2643", func := "loop.example/g01043/laws.FnExactNearestHalf", spec := "fnExactNearestHalf", unfollowed := true, recurses := true, apart := false }
def FnExactNearestHalfSaid : Prop := fnExactNearestHalfRow.holds Try.pinned (OpenSpec.ofChange fnExactNearestHalfSpec)

/-- ITS FALSE NEIGHBOUR: 'it returns false'. Refute it at one input. -/
def fnExactNearestHalfWrong : ChangeSpec := { name := "fnExactNearestHalf", fn := fun _ => fun
  | [d1, d2] => { results := [.lit (.bool false)], args := [d1, d2] }
  | _ => none }
def FnExactNearestHalfWrongFalsely : Prop := fnExactNearestHalfRow.holds Try.pinned (OpenSpec.ofChange fnExactNearestHalfWrong)

/- THE SECOND FORM. 'bulk': how many values and letters a reading holds, each counted each time it is reached (what is shared counts as often as it is met; a slice's spare places count too). A statement '..UptoSaid' is the law's where the arguments, and the package variables that the reading takes, are together of bulk at most 1048576: NARROWER than '..Said'. Prove '..Said' where nothing that the law and all that it calls make is longer than what came in: it says more and counts as full. Else prove '..UptoSaid'. A law counts once. -/
mutual
def uptoBulk {H : Type} : DataW H → Nat
  | .lit (.string bytes) => bytes.length + 1
  | .lit _ => 1
  | .nil => 1
  | .ptr d => uptoBulk d + 1
  | .slice elems spare => uptoBulkAll elems + uptoBulkAll spare + 1
  | .agg parts => uptoBulkAll parts + 1
  | .iface _ d => uptoBulk d + 1
  | .map entries => uptoBulkEntries entries + 1
  | .held _ => 1
def uptoBulkAll {H : Type} : List (DataW H) → Nat
  | [] => 0
  | d :: r => uptoBulk d + uptoBulkAll r
def uptoBulkEntries {H : Type} : List (Lit × DataW H) → Nat
  | [] => 0
  | x :: r => uptoBulkEntry x + uptoBulkEntries r
def uptoBulkEntry {H : Type} : Lit × DataW H → Nat
  | (.string bytes, d) => bytes.length + uptoBulk d + 1
  | (_, d) => uptoBulk d + 1
 end
def uptoSmall : (H : Type) → List (DataW H) → Bool := fun _ ds => decide (uptoBulkAll ds ≤ 1048576)
def OpenSpec.upto (s : _root_.Go.ChangeSpec) : _root_.Go.OpenSpec := { _root_.Go.OpenSpec.ofChange s with cond := some uptoSmall }

/-- 'laws.FnExactValidLeather', WHERE WHAT IT READS IS OF BULK AT MOST 1048576: true; the input reads as it did. -/
def fnExactValidLeatherUptoRow : OpenClaim := { program := "ytgclhkiiaclkgaa", sum := "166df13310f1304815683859298b96d53ef28444a23994ced059d1addecf2643", func := "loop.example/g01043/laws.FnExactValidLeather", spec := "fnExactValidLeather", apart := false, narrowed := true }
def FnExactValidLeatherUptoSaid : Prop := fnExactValidLeatherUptoRow.holds Try.pinned (OpenSpec.upto fnExactValidLeatherSpec)

/-- 'laws.FnExactStretchOf', WHERE WHAT IT READS IS OF BULK AT MOST 1048576: true; the input reads as it did. -/
def fnExactStretchOfUptoRow : OpenClaim := { program := "ytgclhkiiaclkgaa", sum := "166df13310f1304815683859298b96d53ef28444a23994ced059d1addecf2643", func := "loop.example/g01043/laws.FnExactStretchOf", spec := "fnExactStretchOf", unfollowed := true, recurses := true, apart := false, narrowed := true }
def FnExactStretchOfUptoSaid : Prop := fnExactStretchOfUptoRow.holds Try.pinned (OpenSpec.upto fnExactStretchOfSpec)

/-- 'laws.FnExactLengthUnder', WHERE WHAT IT READS IS OF BULK AT MOST 1048576: true; the input reads as it did. -/
def fnExactLengthUnderUptoRow : OpenClaim := { program := "ytgclhkiiaclkgaa", sum := "166df13310f1304815683859298b96d53ef28444a23994ced059d1addecf2643", func := "loop.example/g01043/laws.FnExactLengthUnder", spec := "fnExactLengthUnder", unfollowed := true, recurses := true, apart := false, narrowed := true }
def FnExactLengthUnderUptoSaid : Prop := fnExactLengthUnderUptoRow.holds Try.pinned (OpenSpec.upto fnExactLengthUnderSpec)

/-- 'laws.FnExactLengthAfter', WHERE WHAT IT READS IS OF BULK AT MOST 1048576: true; the input reads as it did. -/
def fnExactLengthAfterUptoRow : OpenClaim := { program := "ytgclhkiiaclkgaa", sum := "166df13310f1304815683859298b96d53ef28444a23994ced059d1addecf2643", func := "loop.example/g01043/laws.FnExactLengthAfter", spec := "fnExactLengthAfter", unfollowed := true, recurses := true, apart := false, narrowed := true }
def FnExactLengthAfterUptoSaid : Prop := fnExactLengthAfterUptoRow.holds Try.pinned (OpenSpec.upto fnExactLengthAfterSpec)

/-- 'laws.FnExactRunPulls', WHERE WHAT IT READS IS OF BULK AT MOST 1048576: true; the input reads as it did. -/
def fnExactRunPullsUptoRow : OpenClaim := { program := "ytgclhkiiaclkgaa", sum := "166df13310f1304815683859298b96d53ef28444a23994ced059d1addecf2643", func := "loop.example/g01043/laws.FnExactRunPulls", spec := "fnExactRunPulls", unfollowed := true, recurses := true, apart := false, narrowed := true }
def FnExactRunPullsUptoSaid : Prop := fnExactRunPullsUptoRow.holds Try.pinned (OpenSpec.upto fnExactRunPullsSpec)

/-- 'laws.FnExactPullFor', WHERE WHAT IT READS IS OF BULK AT MOST 1048576: true; the input reads as it did. -/
def fnExactPullForUptoRow : OpenClaim := { program := "ytgclhkiiaclkgaa", sum := "166df13310f1304815683859298b96d53ef28444a23994ced059d1addecf2643", func := "loop.example/g01043/laws.FnExactPullFor", spec := "fnExactPullFor", unfollowed := true, recurses := true, apart := false, narrowed := true }
def FnExactPullForUptoSaid : Prop := fnExactPullForUptoRow.holds Try.pinned (OpenSpec.upto fnExactPullForSpec)

/-- 'laws.FnExactCutLength', WHERE WHAT IT READS IS OF BULK AT MOST 1048576: true; the input reads as it did. -/
def fnExactCutLengthUptoRow : OpenClaim := { program := "ytgclhkiiaclkgaa", sum := "166df13310f1304815683859298b96d53ef28444a23994ced059d1addecf2643", func := "loop.example/g01043/laws.FnExactCutLength", spec := "fnExactCutLength", unfollowed := true, recurses := true, apart := false, narrowed := true }
def FnExactCutLengthUptoSaid : Prop := fnExactCutLengthUptoRow.holds Try.pinned (OpenSpec.upto fnExactCutLengthSpec)

/-- 'laws.FnExactBestDirection', WHERE WHAT IT READS IS OF BULK AT MOST 1048576: true; the input reads as it did. -/
def fnExactBestDirectionUptoRow : OpenClaim := { program := "ytgclhkiiaclkgaa", sum := "166df13310f1304815683859298b96d53ef28444a23994ced059d1addecf2643", func := "loop.example/g01043/laws.FnExactBestDirection", spec := "fnExactBestDirection", apart := false, narrowed := true }
def FnExactBestDirectionUptoSaid : Prop := fnExactBestDirectionUptoRow.holds Try.pinned (OpenSpec.upto fnExactBestDirectionSpec)

/-- 'laws.FnExactGreatestPull', WHERE WHAT IT READS IS OF BULK AT MOST 1048576: true; the input reads as it did. -/
def fnExactGreatestPullUptoRow : OpenClaim := { program := "ytgclhkiiaclkgaa", sum := "166df13310f1304815683859298b96d53ef28444a23994ced059d1addecf2643", func := "loop.example/g01043/laws.FnExactGreatestPull", spec := "fnExactGreatestPull", unfollowed := true, recurses := true, apart := false, narrowed := true }
def FnExactGreatestPullUptoSaid : Prop := fnExactGreatestPullUptoRow.holds Try.pinned (OpenSpec.upto fnExactGreatestPullSpec)

/-- 'laws.FnExactMatchDirections', WHERE WHAT IT READS IS OF BULK AT MOST 1048576: true; the input reads as it did. -/
def fnExactMatchDirectionsUptoRow : OpenClaim := { program := "ytgclhkiiaclkgaa", sum := "166df13310f1304815683859298b96d53ef28444a23994ced059d1addecf2643", func := "loop.example/g01043/laws.FnExactMatchDirections", spec := "fnExactMatchDirections", apart := false, narrowed := true }
def FnExactMatchDirectionsUptoSaid : Prop := fnExactMatchDirectionsUptoRow.holds Try.pinned (OpenSpec.upto fnExactMatchDirectionsSpec)

/-- 'laws.FnExactHalfFor', WHERE WHAT IT READS IS OF BULK AT MOST 1048576: true; the input reads as it did. -/
def fnExactHalfForUptoRow : OpenClaim := { program := "ytgclhkiiaclkgaa", sum := "166df13310f1304815683859298b96d53ef28444a23994ced059d1addecf2643", func := "loop.example/g01043/laws.FnExactHalfFor", spec := "fnExactHalfFor", unfollowed := true, recurses := true, apart := false, narrowed := true }
def FnExactHalfForUptoSaid : Prop := fnExactHalfForUptoRow.holds Try.pinned (OpenSpec.upto fnExactHalfForSpec)

/-- 'laws.FnExactNearestHalf', WHERE WHAT IT READS IS OF BULK AT MOST 1048576: true; the input reads as it did. -/
def fnExactNearestHalfUptoRow : OpenClaim := { program := "ytgclhkiiaclkgaa", sum := "166df13310f1304815683859298b96d53ef28444a23994ced059d1addecf2643", func := "loop.example/g01043/laws.FnExactNearestHalf", spec := "fnExactNearestHalf", unfollowed := true, recurses := true, apart := false, narrowed := true }
def FnExactNearestHalfUptoSaid : Prop := fnExactNearestHalfUptoRow.holds Try.pinned (OpenSpec.upto fnExactNearestHalfSpec)

end Rows
end Go.Proofs.Ytgclhkiiaclkgaa
