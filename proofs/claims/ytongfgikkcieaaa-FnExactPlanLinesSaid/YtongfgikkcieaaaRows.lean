/-
  No cell of these rows narrows 'for every input' (looked for: loops, veiled, ifaces, maps, wideKeys, modest, calm, conditions, laid).
  DERIVED. THE GIVEN ROWS OF THIS SEAT. 12 by the template 'for every input the law returns true; each argument reads behind the call as it read before'; 0 by the template 'total and deterministic' (their statements: YtongfgikkcieaaaTotals.lean).
  GIVEN WITH THE SEED: the statements are not yours to turn. If you find one false, say at which input.
  Laid BY PROGRAM, IN A SANDBOX (cutbox-rows.mjs): the forced cells as the released guide's own fill.sh prints them over the translation 107d103bb72dcf4b… (all of the seat's roots in one cut). By AI agents, Wed Nov 11 2026. No macro, syntax, notation, axiom, sorry.
-/
import Derived.Test.YtongfgikkcieaaaChecked
import GoSem.Claim
import GoSem.ClaimJoined
import GoSem.ClaimMapViews
import Derived.JoinedTies
import Derived.KernelRfl
namespace Go.Proofs.Ytongfgikkcieaaa
/- THE CELL 'sum', in the pinned program and in every row, IS THE sha256 OF THE DUMP (.gsa) THAT YtongfgikkcieaaaProg.lean LOADS. Nothing in Lean hashes anything: it is a label: what it is worth is what the hold of that sum in a sandbox is worth. -/
noncomputable def Try.pinned : Pinned := { name := "ytongfgikkcieaaa", sum := "107d103bb72dcf4b18fbbeaee4674ca54bda76bd33b13bf10c59c88146dc3461", checked := Try.checked }
namespace Rows
def none {H : Type} : Left H := { results := [], args := [] }

/-- 'laws.FnExactValidHide': WHATEVER THE INPUT: true; the input reads as it did. -/
def fnExactValidHideSpec : ChangeSpec := { name := "fnExactValidHide", fn := fun _ => fun
  | [d] => { results := [.lit (.bool true)], args := [d] }
  | _ => none }
def fnExactValidHideRow : OpenClaim := { program := "ytongfgikkcieaaa", sum := "107d103bb72dcf4b18fbbeaee4674ca54bda76bd33b13bf10c59c88146dc3461", func := "loop.example/g01043/laws.FnExactValidHide", spec := "fnExactValidHide", inPlace := ["internal/abi.NoEscape", "internal/bytealg.MakeNoZero", "internal/bytealg.IndexByteString"], apart := false }
def FnExactValidHideSaid : Prop := fnExactValidHideRow.holds Try.pinned (OpenSpec.ofChange fnExactValidHideSpec)

/-- ITS FALSE NEIGHBOUR: 'it returns false'. Refute it at one input. -/
def fnExactValidHideWrong : ChangeSpec := { name := "fnExactValidHide", fn := fun _ => fun
  | [d] => { results := [.lit (.bool false)], args := [d] }
  | _ => none }
def FnExactValidHideWrongFalsely : Prop := fnExactValidHideRow.holds Try.pinned (OpenSpec.ofChange fnExactValidHideWrong)

/-- 'laws.FnExactValidCuts': WHATEVER THE INPUT: true; the input reads as it did. -/
def fnExactValidCutsSpec : ChangeSpec := { name := "fnExactValidCuts", fn := fun _ => fun
  | [d] => { results := [.lit (.bool true)], args := [d] }
  | _ => none }
def fnExactValidCutsRow : OpenClaim := { program := "ytongfgikkcieaaa", sum := "107d103bb72dcf4b18fbbeaee4674ca54bda76bd33b13bf10c59c88146dc3461", func := "loop.example/g01043/laws.FnExactValidCuts", spec := "fnExactValidCuts", apart := false }
def FnExactValidCutsSaid : Prop := fnExactValidCutsRow.holds Try.pinned (OpenSpec.ofChange fnExactValidCutsSpec)

/-- ITS FALSE NEIGHBOUR: 'it returns false'. Refute it at one input. -/
def fnExactValidCutsWrong : ChangeSpec := { name := "fnExactValidCuts", fn := fun _ => fun
  | [d] => { results := [.lit (.bool false)], args := [d] }
  | _ => none }
def FnExactValidCutsWrongFalsely : Prop := fnExactValidCutsRow.holds Try.pinned (OpenSpec.ofChange fnExactValidCutsWrong)

/-- 'laws.FnExactQualityAt': WHATEVER THE INPUT: true; the input reads as it did. -/
def fnExactQualityAtSpec : ChangeSpec := { name := "fnExactQualityAt", fn := fun _ => fun
  | [d1, d2, d3] => { results := [.lit (.bool true)], args := [d1, d2, d3] }
  | _ => none }
def fnExactQualityAtRow : OpenClaim := { program := "ytongfgikkcieaaa", sum := "107d103bb72dcf4b18fbbeaee4674ca54bda76bd33b13bf10c59c88146dc3461", func := "loop.example/g01043/laws.FnExactQualityAt", spec := "fnExactQualityAt", inPlace := ["internal/abi.NoEscape", "internal/bytealg.MakeNoZero", "internal/bytealg.IndexByteString"], apart := false }
def FnExactQualityAtSaid : Prop := fnExactQualityAtRow.holds Try.pinned (OpenSpec.ofChange fnExactQualityAtSpec)

/-- ITS FALSE NEIGHBOUR: 'it returns false'. Refute it at one input. -/
def fnExactQualityAtWrong : ChangeSpec := { name := "fnExactQualityAt", fn := fun _ => fun
  | [d1, d2, d3] => { results := [.lit (.bool false)], args := [d1, d2, d3] }
  | _ => none }
def FnExactQualityAtWrongFalsely : Prop := fnExactQualityAtRow.holds Try.pinned (OpenSpec.ofChange fnExactQualityAtWrong)

/-- 'laws.FnExactPlacesOf': WHATEVER THE INPUT: true; the input reads as it did. -/
def fnExactPlacesOfSpec : ChangeSpec := { name := "fnExactPlacesOf", fn := fun _ => fun
  | [d1, d2] => { results := [.lit (.bool true)], args := [d1, d2] }
  | _ => none }
def fnExactPlacesOfRow : OpenClaim := { program := "ytongfgikkcieaaa", sum := "107d103bb72dcf4b18fbbeaee4674ca54bda76bd33b13bf10c59c88146dc3461", func := "loop.example/g01043/laws.FnExactPlacesOf", spec := "fnExactPlacesOf", inPlace := ["internal/abi.NoEscape", "internal/bytealg.MakeNoZero", "internal/bytealg.IndexByteString"], unfollowed := true, recurses := true, leaving := true, apart := false }
def FnExactPlacesOfSaid : Prop := fnExactPlacesOfRow.holds Try.pinned (OpenSpec.ofChange fnExactPlacesOfSpec)

/-- ITS FALSE NEIGHBOUR: 'it returns false'. Refute it at one input. -/
def fnExactPlacesOfWrong : ChangeSpec := { name := "fnExactPlacesOf", fn := fun _ => fun
  | [d1, d2] => { results := [.lit (.bool false)], args := [d1, d2] }
  | _ => none }
def FnExactPlacesOfWrongFalsely : Prop := fnExactPlacesOfRow.holds Try.pinned (OpenSpec.ofChange fnExactPlacesOfWrong)

/-- 'laws.FnExactLargestCut': WHATEVER THE INPUT: true; the input reads as it did. -/
def fnExactLargestCutSpec : ChangeSpec := { name := "fnExactLargestCut", fn := fun _ => fun
  | [d1, d2] => { results := [.lit (.bool true)], args := [d1, d2] }
  | _ => none }
def fnExactLargestCutRow : OpenClaim := { program := "ytongfgikkcieaaa", sum := "107d103bb72dcf4b18fbbeaee4674ca54bda76bd33b13bf10c59c88146dc3461", func := "loop.example/g01043/laws.FnExactLargestCut", spec := "fnExactLargestCut", inPlace := ["internal/abi.NoEscape", "internal/bytealg.MakeNoZero", "internal/bytealg.IndexByteString"], apart := false }
def FnExactLargestCutSaid : Prop := fnExactLargestCutRow.holds Try.pinned (OpenSpec.ofChange fnExactLargestCutSpec)

/-- ITS FALSE NEIGHBOUR: 'it returns false'. Refute it at one input. -/
def fnExactLargestCutWrong : ChangeSpec := { name := "fnExactLargestCut", fn := fun _ => fun
  | [d1, d2] => { results := [.lit (.bool false)], args := [d1, d2] }
  | _ => none }
def FnExactLargestCutWrongFalsely : Prop := fnExactLargestCutRow.holds Try.pinned (OpenSpec.ofChange fnExactLargestCutWrong)

/-- 'laws.FnExactPlanFault': WHATEVER THE INPUT: true; the input reads as it did. -/
def fnExactPlanFaultSpec : ChangeSpec := { name := "fnExactPlanFault", fn := fun _ => fun
  | [d1, d2, d3] => { results := [.lit (.bool true)], args := [d1, d2, d3] }
  | _ => none }
def fnExactPlanFaultRow : OpenClaim := { program := "ytongfgikkcieaaa", sum := "107d103bb72dcf4b18fbbeaee4674ca54bda76bd33b13bf10c59c88146dc3461", func := "loop.example/g01043/laws.FnExactPlanFault", spec := "fnExactPlanFault", inPlace := ["internal/abi.NoEscape", "internal/bytealg.MakeNoZero", "internal/bytealg.IndexByteString"], apart := false }
def FnExactPlanFaultSaid : Prop := fnExactPlanFaultRow.holds Try.pinned (OpenSpec.ofChange fnExactPlanFaultSpec)

/-- ITS FALSE NEIGHBOUR: 'it returns false'. Refute it at one input. -/
def fnExactPlanFaultWrong : ChangeSpec := { name := "fnExactPlanFault", fn := fun _ => fun
  | [d1, d2, d3] => { results := [.lit (.bool false)], args := [d1, d2, d3] }
  | _ => none }
def FnExactPlanFaultWrongFalsely : Prop := fnExactPlanFaultRow.holds Try.pinned (OpenSpec.ofChange fnExactPlanFaultWrong)

/-- 'laws.FnExactPlanWorth': WHATEVER THE INPUT: true; the input reads as it did. -/
def fnExactPlanWorthSpec : ChangeSpec := { name := "fnExactPlanWorth", fn := fun _ => fun
  | [d1, d2, d3] => { results := [.lit (.bool true)], args := [d1, d2, d3] }
  | _ => none }
def fnExactPlanWorthRow : OpenClaim := { program := "ytongfgikkcieaaa", sum := "107d103bb72dcf4b18fbbeaee4674ca54bda76bd33b13bf10c59c88146dc3461", func := "loop.example/g01043/laws.FnExactPlanWorth", spec := "fnExactPlanWorth", inPlace := ["internal/abi.NoEscape", "internal/bytealg.MakeNoZero", "internal/bytealg.IndexByteString"], apart := false }
def FnExactPlanWorthSaid : Prop := fnExactPlanWorthRow.holds Try.pinned (OpenSpec.ofChange fnExactPlanWorthSpec)

/-- ITS FALSE NEIGHBOUR: 'it returns false'. Refute it at one input. -/
def fnExactPlanWorthWrong : ChangeSpec := { name := "fnExactPlanWorth", fn := fun _ => fun
  | [d1, d2, d3] => { results := [.lit (.bool false)], args := [d1, d2, d3] }
  | _ => none }
def FnExactPlanWorthWrongFalsely : Prop := fnExactPlanWorthRow.holds Try.pinned (OpenSpec.ofChange fnExactPlanWorthWrong)

/-- 'laws.FnExactBestPlan': WHATEVER THE INPUT: true; the input reads as it did. -/
def fnExactBestPlanSpec : ChangeSpec := { name := "fnExactBestPlan", fn := fun _ => fun
  | [d1, d2] => { results := [.lit (.bool true)], args := [d1, d2] }
  | _ => none }
def fnExactBestPlanRow : OpenClaim := { program := "ytongfgikkcieaaa", sum := "107d103bb72dcf4b18fbbeaee4674ca54bda76bd33b13bf10c59c88146dc3461", func := "loop.example/g01043/laws.FnExactBestPlan", spec := "fnExactBestPlan", inPlace := ["internal/abi.NoEscape", "internal/bytealg.MakeNoZero", "internal/bytealg.IndexByteString"], unfollowed := true, recurses := true, leaving := true, apart := false }
def FnExactBestPlanSaid : Prop := fnExactBestPlanRow.holds Try.pinned (OpenSpec.ofChange fnExactBestPlanSpec)

/-- ITS FALSE NEIGHBOUR: 'it returns false'. Refute it at one input. -/
def fnExactBestPlanWrong : ChangeSpec := { name := "fnExactBestPlan", fn := fun _ => fun
  | [d1, d2] => { results := [.lit (.bool false)], args := [d1, d2] }
  | _ => none }
def FnExactBestPlanWrongFalsely : Prop := fnExactBestPlanRow.holds Try.pinned (OpenSpec.ofChange fnExactBestPlanWrong)

/-- 'laws.FnExactUsedShare': WHATEVER THE INPUT: true; the input reads as it did. -/
def fnExactUsedShareSpec : ChangeSpec := { name := "fnExactUsedShare", fn := fun _ => fun
  | [d1, d2, d3] => { results := [.lit (.bool true)], args := [d1, d2, d3] }
  | _ => none }
def fnExactUsedShareRow : OpenClaim := { program := "ytongfgikkcieaaa", sum := "107d103bb72dcf4b18fbbeaee4674ca54bda76bd33b13bf10c59c88146dc3461", func := "loop.example/g01043/laws.FnExactUsedShare", spec := "fnExactUsedShare", inPlace := ["internal/abi.NoEscape", "internal/bytealg.MakeNoZero", "internal/bytealg.IndexByteString"], apart := false }
def FnExactUsedShareSaid : Prop := fnExactUsedShareRow.holds Try.pinned (OpenSpec.ofChange fnExactUsedShareSpec)

/-- ITS FALSE NEIGHBOUR: 'it returns false'. Refute it at one input. -/
def fnExactUsedShareWrong : ChangeSpec := { name := "fnExactUsedShare", fn := fun _ => fun
  | [d1, d2, d3] => { results := [.lit (.bool false)], args := [d1, d2, d3] }
  | _ => none }
def FnExactUsedShareWrongFalsely : Prop := fnExactUsedShareRow.holds Try.pinned (OpenSpec.ofChange fnExactUsedShareWrong)

/-- 'laws.FnExactMirrorHide': WHATEVER THE INPUT: true; the input reads as it did. -/
def fnExactMirrorHideSpec : ChangeSpec := { name := "fnExactMirrorHide", fn := fun _ => fun
  | [d] => { results := [.lit (.bool true)], args := [d] }
  | _ => none }
def fnExactMirrorHideRow : OpenClaim := { program := "ytongfgikkcieaaa", sum := "107d103bb72dcf4b18fbbeaee4674ca54bda76bd33b13bf10c59c88146dc3461", func := "loop.example/g01043/laws.FnExactMirrorHide", spec := "fnExactMirrorHide", inPlace := ["internal/abi.NoEscape", "internal/bytealg.MakeNoZero", "internal/bytealg.IndexByteString"], apart := false }
def FnExactMirrorHideSaid : Prop := fnExactMirrorHideRow.holds Try.pinned (OpenSpec.ofChange fnExactMirrorHideSpec)

/-- ITS FALSE NEIGHBOUR: 'it returns false'. Refute it at one input. -/
def fnExactMirrorHideWrong : ChangeSpec := { name := "fnExactMirrorHide", fn := fun _ => fun
  | [d] => { results := [.lit (.bool false)], args := [d] }
  | _ => none }
def FnExactMirrorHideWrongFalsely : Prop := fnExactMirrorHideRow.holds Try.pinned (OpenSpec.ofChange fnExactMirrorHideWrong)

/-- 'laws.FnExactPlanLines': WHATEVER THE INPUT: true; the input reads as it did. -/
def fnExactPlanLinesSpec : ChangeSpec := { name := "fnExactPlanLines", fn := fun _ => fun
  | [d1, d2, d3] => { results := [.lit (.bool true)], args := [d1, d2, d3] }
  | _ => none }
def fnExactPlanLinesRow : OpenClaim := { program := "ytongfgikkcieaaa", sum := "107d103bb72dcf4b18fbbeaee4674ca54bda76bd33b13bf10c59c88146dc3461", func := "loop.example/g01043/laws.FnExactPlanLines", spec := "fnExactPlanLines", inPlace := ["internal/abi.NoEscape", "internal/bytealg.MakeNoZero", "internal/bytealg.IndexByteString"], unfollowed := true, recurses := true, leaving := true, apart := false }
def FnExactPlanLinesSaid : Prop := fnExactPlanLinesRow.holds Try.pinned (OpenSpec.ofChange fnExactPlanLinesSpec)

/-- ITS FALSE NEIGHBOUR: 'it returns false'. Refute it at one input. -/
def fnExactPlanLinesWrong : ChangeSpec := { name := "fnExactPlanLines", fn := fun _ => fun
  | [d1, d2, d3] => { results := [.lit (.bool false)], args := [d1, d2, d3] }
  | _ => none }
def FnExactPlanLinesWrongFalsely : Prop := fnExactPlanLinesRow.holds Try.pinned (OpenSpec.ofChange fnExactPlanLinesWrong)

/-- 'laws.FnPlaces': WHATEVER THE INPUT: true; the input reads as it did. -/
def fnPlacesSpec : ChangeSpec := { name := "fnPlaces", fn := fun _ => fun
  | [d1, d2] => { results := [.lit (.bool true)], args := [d1, d2] }
  | _ => none }
def fnPlacesRow : OpenClaim := { program := "ytongfgikkcieaaa", sum := "107d103bb72dcf4b18fbbeaee4674ca54bda76bd33b13bf10c59c88146dc3461", func := "loop.example/g01043/laws.FnPlaces", spec := "fnPlaces", inPlace := ["internal/abi.NoEscape", "internal/bytealg.MakeNoZero", "internal/bytealg.IndexByteString"], unfollowed := true, recurses := true, leaving := true, apart := false }
def FnPlacesSaid : Prop := fnPlacesRow.holds Try.pinned (OpenSpec.ofChange fnPlacesSpec)

/-- ITS FALSE NEIGHBOUR: 'it returns false'. Refute it at one input. -/
def fnPlacesWrong : ChangeSpec := { name := "fnPlaces", fn := fun _ => fun
  | [d1, d2] => { results := [.lit (.bool false)], args := [d1, d2] }
  | _ => none }
def FnPlacesWrongFalsely : Prop := fnPlacesRow.holds Try.pinned (OpenSpec.ofChange fnPlacesWrong)

/- THE SECOND FORM. 'bulk': how many values and letters a reading holds, each counted each time it is reached (what is shared counts as often as it is met; a slice's spare places count too). A statement '..UptoSaid' is the law's where the arguments, and the package variables that the reading takes, are together of bulk at most 1048576: NARROWER than '..Said'. Prove '..Said' where nothing that the law and all that it calls make is longer than what came in: it says more and counts as full. Else prove '..UptoSaid'. A law counts once. -/
mutual
def uptoBulk {H : Type} : DataW H → Nat
  | .lit (.string bytes) => bytes.length + 1
  | .lit _ => 1
  | .nil => 1
  | .ptr d => uptoBulk d + 1
  | .slice elems spare => uptoBulkAll elems + uptoBulkAll spare + 1
  | .agg parts => uptoBulkAll parts + 1
  | .iface _ d => uptoBulk d + 1
  | .map entries => uptoBulkEntries entries + 1
  | .held _ => 1
def uptoBulkAll {H : Type} : List (DataW H) → Nat
  | [] => 0
  | d :: r => uptoBulk d + uptoBulkAll r
def uptoBulkEntries {H : Type} : List (Lit × DataW H) → Nat
  | [] => 0
  | x :: r => uptoBulkEntry x + uptoBulkEntries r
def uptoBulkEntry {H : Type} : Lit × DataW H → Nat
  | (.string bytes, d) => bytes.length + uptoBulk d + 1
  | (_, d) => uptoBulk d + 1
 end
def uptoSmall : (H : Type) → List (DataW H) → Bool := fun _ ds => decide (uptoBulkAll ds ≤ 1048576)
def OpenSpec.upto (s : _root_.Go.ChangeSpec) : _root_.Go.OpenSpec := { _root_.Go.OpenSpec.ofChange s with cond := some uptoSmall }

/-- 'laws.FnExactValidHide', WHERE WHAT IT READS IS OF BULK AT MOST 1048576: true; the input reads as it did. -/
def fnExactValidHideUptoRow : OpenClaim := { program := "ytongfgikkcieaaa", sum := "107d103bb72dcf4b18fbbeaee4674ca54bda76bd33b13bf10c59c88146dc3461", func := "loop.example/g01043/laws.FnExactValidHide", spec := "fnExactValidHide", inPlace := ["internal/abi.NoEscape", "internal/bytealg.MakeNoZero", "internal/bytealg.IndexByteString"], apart := false, narrowed := true }
def FnExactValidHideUptoSaid : Prop := fnExactValidHideUptoRow.holds Try.pinned (OpenSpec.upto fnExactValidHideSpec)

/-- 'laws.FnExactValidCuts', WHERE WHAT IT READS IS OF BULK AT MOST 1048576: true; the input reads as it did. -/
def fnExactValidCutsUptoRow : OpenClaim := { program := "ytongfgikkcieaaa", sum := "107d103bb72dcf4b18fbbeaee4674ca54bda76bd33b13bf10c59c88146dc3461", func := "loop.example/g01043/laws.FnExactValidCuts", spec := "fnExactValidCuts", apart := false, narrowed := true }
def FnExactValidCutsUptoSaid : Prop := fnExactValidCutsUptoRow.holds Try.pinned (OpenSpec.upto fnExactValidCutsSpec)

/-- 'laws.FnExactQualityAt', WHERE WHAT IT READS IS OF BULK AT MOST 1048576: true; the input reads as it did. -/
def fnExactQualityAtUptoRow : OpenClaim := { program := "ytongfgikkcieaaa", sum := "107d103bb72dcf4b18fbbeaee4674ca54bda76bd33b13bf10c59c88146dc3461", func := "loop.example/g01043/laws.FnExactQualityAt", spec := "fnExactQualityAt", inPlace := ["internal/abi.NoEscape", "internal/bytealg.MakeNoZero", "internal/bytealg.IndexByteString"], apart := false, narrowed := true }
def FnExactQualityAtUptoSaid : Prop := fnExactQualityAtUptoRow.holds Try.pinned (OpenSpec.upto fnExactQualityAtSpec)

/-- 'laws.FnExactPlacesOf', WHERE WHAT IT READS IS OF BULK AT MOST 1048576: true; the input reads as it did. -/
def fnExactPlacesOfUptoRow : OpenClaim := { program := "ytongfgikkcieaaa", sum := "107d103bb72dcf4b18fbbeaee4674ca54bda76bd33b13bf10c59c88146dc3461", func := "loop.example/g01043/laws.FnExactPlacesOf", spec := "fnExactPlacesOf", inPlace := ["internal/abi.NoEscape", "internal/bytealg.MakeNoZero", "internal/bytealg.IndexByteString"], unfollowed := true, recurses := true, leaving := true, apart := false, narrowed := true }
def FnExactPlacesOfUptoSaid : Prop := fnExactPlacesOfUptoRow.holds Try.pinned (OpenSpec.upto fnExactPlacesOfSpec)

/-- 'laws.FnExactLargestCut', WHERE WHAT IT READS IS OF BULK AT MOST 1048576: true; the input reads as it did. -/
def fnExactLargestCutUptoRow : OpenClaim := { program := "ytongfgikkcieaaa", sum := "107d103bb72dcf4b18fbbeaee4674ca54bda76bd33b13bf10c59c88146dc3461", func := "loop.example/g01043/laws.FnExactLargestCut", spec := "fnExactLargestCut", inPlace := ["internal/abi.NoEscape", "internal/bytealg.MakeNoZero", "internal/bytealg.IndexByteString"], apart := false, narrowed := true }
def FnExactLargestCutUptoSaid : Prop := fnExactLargestCutUptoRow.holds Try.pinned (OpenSpec.upto fnExactLargestCutSpec)

/-- 'laws.FnExactPlanFault', WHERE WHAT IT READS IS OF BULK AT MOST 1048576: true; the input reads as it did. -/
def fnExactPlanFaultUptoRow : OpenClaim := { program := "ytongfgikkcieaaa", sum := "107d103bb72dcf4b18fbbeaee4674ca54bda76bd33b13bf10c59c88146dc3461", func := "loop.example/g01043/laws.FnExactPlanFault", spec := "fnExactPlanFault", inPlace := ["internal/abi.NoEscape", "internal/bytealg.MakeNoZero", "internal/bytealg.IndexByteString"], apart := false, narrowed := true }
def FnExactPlanFaultUptoSaid : Prop := fnExactPlanFaultUptoRow.holds Try.pinned (OpenSpec.upto fnExactPlanFaultSpec)

/-- 'laws.FnExactPlanWorth', WHERE WHAT IT READS IS OF BULK AT MOST 1048576: true; the input reads as it did. -/
def fnExactPlanWorthUptoRow : OpenClaim := { program := "ytongfgikkcieaaa", sum := "107d103bb72dcf4b18fbbeaee4674ca54bda76bd33b13bf10c59c88146dc3461", func := "loop.example/g01043/laws.FnExactPlanWorth", spec := "fnExactPlanWorth", inPlace := ["internal/abi.NoEscape", "internal/bytealg.MakeNoZero", "internal/bytealg.IndexByteString"], apart := false, narrowed := true }
def FnExactPlanWorthUptoSaid : Prop := fnExactPlanWorthUptoRow.holds Try.pinned (OpenSpec.upto fnExactPlanWorthSpec)

/-- 'laws.FnExactBestPlan', WHERE WHAT IT READS IS OF BULK AT MOST 1048576: true; the input reads as it did. -/
def fnExactBestPlanUptoRow : OpenClaim := { program := "ytongfgikkcieaaa", sum := "107d103bb72dcf4b18fbbeaee4674ca54bda76bd33b13bf10c59c88146dc3461", func := "loop.example/g01043/laws.FnExactBestPlan", spec := "fnExactBestPlan", inPlace := ["internal/abi.NoEscape", "internal/bytealg.MakeNoZero", "internal/bytealg.IndexByteString"], unfollowed := true, recurses := true, leaving := true, apart := false, narrowed := true }
def FnExactBestPlanUptoSaid : Prop := fnExactBestPlanUptoRow.holds Try.pinned (OpenSpec.upto fnExactBestPlanSpec)

/-- 'laws.FnExactUsedShare', WHERE WHAT IT READS IS OF BULK AT MOST 1048576: true; the input reads as it did. -/
def fnExactUsedShareUptoRow : OpenClaim := { program := "ytongfgikkcieaaa", sum := "107d103bb72dcf4b18fbbeaee4674ca54bda76bd33b13bf10c59c88146dc3461", func := "loop.example/g01043/laws.FnExactUsedShare", spec := "fnExactUsedShare", inPlace := ["internal/abi.NoEscape", "internal/bytealg.MakeNoZero", "internal/bytealg.IndexByteString"], apart := false, narrowed := true }
def FnExactUsedShareUptoSaid : Prop := fnExactUsedShareUptoRow.holds Try.pinned (OpenSpec.upto fnExactUsedShareSpec)

/-- 'laws.FnExactMirrorHide', WHERE WHAT IT READS IS OF BULK AT MOST 1048576: true; the input reads as it did. -/
def fnExactMirrorHideUptoRow : OpenClaim := { program := "ytongfgikkcieaaa", sum := "107d103bb72dcf4b18fbbeaee4674ca54bda76bd33b13bf10c59c88146dc3461", func := "loop.example/g01043/laws.FnExactMirrorHide", spec := "fnExactMirrorHide", inPlace := ["internal/abi.NoEscape", "internal/bytealg.MakeNoZero", "internal/bytealg.IndexByteString"], apart := false, narrowed := true }
def FnExactMirrorHideUptoSaid : Prop := fnExactMirrorHideUptoRow.holds Try.pinned (OpenSpec.upto fnExactMirrorHideSpec)

/-- 'laws.FnExactPlanLines', WHERE WHAT IT READS IS OF BULK AT MOST 1048576: true; the input reads as it did. -/
def fnExactPlanLinesUptoRow : OpenClaim := { program := "ytongfgikkcieaaa", sum := "107d103bb72dcf4b18fbbeaee4674ca54bda76bd33b13bf10c59c88146dc3461", func := "loop.example/g01043/laws.FnExactPlanLines", spec := "fnExactPlanLines", inPlace := ["internal/abi.NoEscape", "internal/bytealg.MakeNoZero", "internal/bytealg.IndexByteString"], unfollowed := true, recurses := true, leaving := true, apart := false, narrowed := true }
def FnExactPlanLinesUptoSaid : Prop := fnExactPlanLinesUptoRow.holds Try.pinned (OpenSpec.upto fnExactPlanLinesSpec)

/-- 'laws.FnPlaces', WHERE WHAT IT READS IS OF BULK AT MOST 1048576: true; the input reads as it did. -/
def fnPlacesUptoRow : OpenClaim := { program := "ytongfgikkcieaaa", sum := "107d103bb72dcf4b18fbbeaee4674ca54bda76bd33b13bf10c59c88146dc3461", func := "loop.example/g01043/laws.FnPlaces", spec := "fnPlaces", inPlace := ["internal/abi.NoEscape", "internal/bytealg.MakeNoZero", "internal/bytealg.IndexByteString"], unfollowed := true, recurses := true, leaving := true, apart := false, narrowed := true }
def FnPlacesUptoSaid : Prop := fnPlacesUptoRow.holds Try.pinned (OpenSpec.upto fnPlacesSpec)

end Rows
end Go.Proofs.Ytongfgikkcieaaa
