/-
  No cell of these rows narrows 'for every input' (looked for: loops, veiled, ifaces, maps, wideKeys, modest, calm, conditions, laid).
  DERIVED. THE GIVEN ROWS OF THIS SEAT. 12 by the template 'for every input the law returns true; each argument reads behind the call as it read before'; 0 by the template 'total and deterministic' (their statements: YtaoknbhpjnileaaTotals.lean).
  GIVEN WITH THE SEED: the statements are not yours to turn. If you find one false, say at which input.
  Laid BY PROGRAM, IN A SANDBOX (cutbox-rows.mjs): the forced cells as the released guide's own fill.sh prints them over the translation 9d3d3d74192b06d2… (all of the seat's roots in one cut). By AI agents, Wed Nov 11 2026. No macro, syntax, notation, axiom, sorry.
-/
import Derived.Test.YtaoknbhpjnileaaChecked
import GoSem.Claim
import GoSem.ClaimJoined
import GoSem.ClaimMapViews
import Derived.JoinedTies
import Derived.KernelRfl
namespace Go.Proofs.Ytaoknbhpjnileaa
/- THE CELL 'sum', in the pinned program and in every row, IS THE sha256 OF THE DUMP (.gsa) THAT YtaoknbhpjnileaaProg.lean LOADS. Nothing in Lean hashes anything: it is a label: what it is worth is what the hold of that sum in a sandbox is worth. -/
noncomputable def Try.pinned : Pinned := { name := "ytaoknbhpjnileaa", sum := "9d3d3d74192b06d282123508ac3a8e90de66f82ed7abf2cfb75bccfff0627b54", checked := Try.checked }
namespace Rows
def none {H : Type} : Left H := { results := [], args := [] }

/-- 'laws.FnExactValidLayers': WHATEVER THE INPUT: true; the input reads as it did. -/
def fnExactValidLayersSpec : ChangeSpec := { name := "fnExactValidLayers", fn := fun _ => fun
  | [d] => { results := [.lit (.bool true)], args := [d] }
  | _ => none }
def fnExactValidLayersRow : OpenClaim := { program := "ytaoknbhpjnileaa", sum := "9d3d3d74192b06d282123508ac3a8e90de66f82ed7abf2cfb75bccfff0627b54", func := "loop.example/g01043/laws.FnExactValidLayers", spec := "fnExactValidLayers", plainKeys := false, apart := false }
def FnExactValidLayersSaid : Prop := fnExactValidLayersRow.holds Try.pinned (OpenSpec.ofChange fnExactValidLayersSpec)

/-- ITS FALSE NEIGHBOUR: 'it returns false'. Refute it at one input. -/
def fnExactValidLayersWrong : ChangeSpec := { name := "fnExactValidLayers", fn := fun _ => fun
  | [d] => { results := [.lit (.bool false)], args := [d] }
  | _ => none }
def FnExactValidLayersWrongFalsely : Prop := fnExactValidLayersRow.holds Try.pinned (OpenSpec.ofChange fnExactValidLayersWrong)

/-- 'laws.FnExactNeedOf': WHATEVER THE INPUT: true; the input reads as it did. -/
def fnExactNeedOfSpec : ChangeSpec := { name := "fnExactNeedOf", fn := fun _ => fun
  | [d1, d2] => { results := [.lit (.bool true)], args := [d1, d2] }
  | _ => none }
def fnExactNeedOfRow : OpenClaim := { program := "ytaoknbhpjnileaa", sum := "9d3d3d74192b06d282123508ac3a8e90de66f82ed7abf2cfb75bccfff0627b54", func := "loop.example/g01043/laws.FnExactNeedOf", spec := "fnExactNeedOf", plainKeys := false, apart := false }
def FnExactNeedOfSaid : Prop := fnExactNeedOfRow.holds Try.pinned (OpenSpec.ofChange fnExactNeedOfSpec)

/-- ITS FALSE NEIGHBOUR: 'it returns false'. Refute it at one input. -/
def fnExactNeedOfWrong : ChangeSpec := { name := "fnExactNeedOf", fn := fun _ => fun
  | [d1, d2] => { results := [.lit (.bool false)], args := [d1, d2] }
  | _ => none }
def FnExactNeedOfWrongFalsely : Prop := fnExactNeedOfRow.holds Try.pinned (OpenSpec.ofChange fnExactNeedOfWrong)

/-- 'laws.FnExactFewestLayers': WHATEVER THE INPUT: true; the input reads as it did. -/
def fnExactFewestLayersSpec : ChangeSpec := { name := "fnExactFewestLayers", fn := fun _ => fun
  | [d1, d2] => { results := [.lit (.bool true)], args := [d1, d2] }
  | _ => none }
def fnExactFewestLayersRow : OpenClaim := { program := "ytaoknbhpjnileaa", sum := "9d3d3d74192b06d282123508ac3a8e90de66f82ed7abf2cfb75bccfff0627b54", func := "loop.example/g01043/laws.FnExactFewestLayers", spec := "fnExactFewestLayers", unfollowed := true, recurses := true, plainKeys := false, apart := false }
def FnExactFewestLayersSaid : Prop := fnExactFewestLayersRow.holds Try.pinned (OpenSpec.ofChange fnExactFewestLayersSpec)

/-- ITS FALSE NEIGHBOUR: 'it returns false'. Refute it at one input. -/
def fnExactFewestLayersWrong : ChangeSpec := { name := "fnExactFewestLayers", fn := fun _ => fun
  | [d1, d2] => { results := [.lit (.bool false)], args := [d1, d2] }
  | _ => none }
def FnExactFewestLayersWrongFalsely : Prop := fnExactFewestLayersRow.holds Try.pinned (OpenSpec.ofChange fnExactFewestLayersWrong)

/-- 'laws.FnExactFewestWithin': WHATEVER THE INPUT: true; the input reads as it did. -/
def fnExactFewestWithinSpec : ChangeSpec := { name := "fnExactFewestWithin", fn := fun _ => fun
  | [d1, d2, d3] => { results := [.lit (.bool true)], args := [d1, d2, d3] }
  | _ => none }
def fnExactFewestWithinRow : OpenClaim := { program := "ytaoknbhpjnileaa", sum := "9d3d3d74192b06d282123508ac3a8e90de66f82ed7abf2cfb75bccfff0627b54", func := "loop.example/g01043/laws.FnExactFewestWithin", spec := "fnExactFewestWithin", unfollowed := true, recurses := true, plainKeys := false, apart := false }
def FnExactFewestWithinSaid : Prop := fnExactFewestWithinRow.holds Try.pinned (OpenSpec.ofChange fnExactFewestWithinSpec)

/-- ITS FALSE NEIGHBOUR: 'it returns false'. Refute it at one input. -/
def fnExactFewestWithinWrong : ChangeSpec := { name := "fnExactFewestWithin", fn := fun _ => fun
  | [d1, d2, d3] => { results := [.lit (.bool false)], args := [d1, d2, d3] }
  | _ => none }
def FnExactFewestWithinWrongFalsely : Prop := fnExactFewestWithinRow.holds Try.pinned (OpenSpec.ofChange fnExactFewestWithinWrong)

/-- 'laws.FnExactCountBuilds': WHATEVER THE INPUT: true; the input reads as it did. -/
def fnExactCountBuildsSpec : ChangeSpec := { name := "fnExactCountBuilds", fn := fun _ => fun
  | [d1, d2] => { results := [.lit (.bool true)], args := [d1, d2] }
  | _ => none }
def fnExactCountBuildsRow : OpenClaim := { program := "ytaoknbhpjnileaa", sum := "9d3d3d74192b06d282123508ac3a8e90de66f82ed7abf2cfb75bccfff0627b54", func := "loop.example/g01043/laws.FnExactCountBuilds", spec := "fnExactCountBuilds", unfollowed := true, recurses := true, plainKeys := false, apart := false }
def FnExactCountBuildsSaid : Prop := fnExactCountBuildsRow.holds Try.pinned (OpenSpec.ofChange fnExactCountBuildsSpec)

/-- ITS FALSE NEIGHBOUR: 'it returns false'. Refute it at one input. -/
def fnExactCountBuildsWrong : ChangeSpec := { name := "fnExactCountBuilds", fn := fun _ => fun
  | [d1, d2] => { results := [.lit (.bool false)], args := [d1, d2] }
  | _ => none }
def FnExactCountBuildsWrongFalsely : Prop := fnExactCountBuildsRow.holds Try.pinned (OpenSpec.ofChange fnExactCountBuildsWrong)

/-- 'laws.FnExactUnreachedSums': WHATEVER THE INPUT: true; the input reads as it did. -/
def fnExactUnreachedSumsSpec : ChangeSpec := { name := "fnExactUnreachedSums", fn := fun _ => fun
  | [d1, d2] => { results := [.lit (.bool true)], args := [d1, d2] }
  | _ => none }
def fnExactUnreachedSumsRow : OpenClaim := { program := "ytaoknbhpjnileaa", sum := "9d3d3d74192b06d282123508ac3a8e90de66f82ed7abf2cfb75bccfff0627b54", func := "loop.example/g01043/laws.FnExactUnreachedSums", spec := "fnExactUnreachedSums", plainKeys := false, apart := false }
def FnExactUnreachedSumsSaid : Prop := fnExactUnreachedSumsRow.holds Try.pinned (OpenSpec.ofChange fnExactUnreachedSumsSpec)

/-- ITS FALSE NEIGHBOUR: 'it returns false'. Refute it at one input. -/
def fnExactUnreachedSumsWrong : ChangeSpec := { name := "fnExactUnreachedSums", fn := fun _ => fun
  | [d1, d2] => { results := [.lit (.bool false)], args := [d1, d2] }
  | _ => none }
def FnExactUnreachedSumsWrongFalsely : Prop := fnExactUnreachedSumsRow.holds Try.pinned (OpenSpec.ofChange fnExactUnreachedSumsWrong)

/-- 'laws.FnExactCheapestBuild': WHATEVER THE INPUT: true; the input reads as it did. -/
def fnExactCheapestBuildSpec : ChangeSpec := { name := "fnExactCheapestBuild", fn := fun _ => fun
  | [d1, d2, d3] => { results := [.lit (.bool true)], args := [d1, d2, d3] }
  | _ => none }
def fnExactCheapestBuildRow : OpenClaim := { program := "ytaoknbhpjnileaa", sum := "9d3d3d74192b06d282123508ac3a8e90de66f82ed7abf2cfb75bccfff0627b54", func := "loop.example/g01043/laws.FnExactCheapestBuild", spec := "fnExactCheapestBuild", unfollowed := true, recurses := true, plainKeys := false, apart := false }
def FnExactCheapestBuildSaid : Prop := fnExactCheapestBuildRow.holds Try.pinned (OpenSpec.ofChange fnExactCheapestBuildSpec)

/-- ITS FALSE NEIGHBOUR: 'it returns false'. Refute it at one input. -/
def fnExactCheapestBuildWrong : ChangeSpec := { name := "fnExactCheapestBuild", fn := fun _ => fun
  | [d1, d2, d3] => { results := [.lit (.bool false)], args := [d1, d2, d3] }
  | _ => none }
def FnExactCheapestBuildWrongFalsely : Prop := fnExactCheapestBuildRow.holds Try.pinned (OpenSpec.ofChange fnExactCheapestBuildWrong)

/-- 'laws.FnExactBuildLast': WHATEVER THE INPUT: true; the input reads as it did. -/
def fnExactBuildLastSpec : ChangeSpec := { name := "fnExactBuildLast", fn := fun _ => fun
  | [d1, d2, d3] => { results := [.lit (.bool true)], args := [d1, d2, d3] }
  | _ => none }
def fnExactBuildLastRow : OpenClaim := { program := "ytaoknbhpjnileaa", sum := "9d3d3d74192b06d282123508ac3a8e90de66f82ed7abf2cfb75bccfff0627b54", func := "loop.example/g01043/laws.FnExactBuildLast", spec := "fnExactBuildLast", plainKeys := false, apart := false }
def FnExactBuildLastSaid : Prop := fnExactBuildLastRow.holds Try.pinned (OpenSpec.ofChange fnExactBuildLastSpec)

/-- ITS FALSE NEIGHBOUR: 'it returns false'. Refute it at one input. -/
def fnExactBuildLastWrong : ChangeSpec := { name := "fnExactBuildLast", fn := fun _ => fun
  | [d1, d2, d3] => { results := [.lit (.bool false)], args := [d1, d2, d3] }
  | _ => none }
def FnExactBuildLastWrongFalsely : Prop := fnExactBuildLastRow.holds Try.pinned (OpenSpec.ofChange fnExactBuildLastWrong)

/-- 'laws.FnExactBuildUpFor': WHATEVER THE INPUT: true; the input reads as it did. -/
def fnExactBuildUpForSpec : ChangeSpec := { name := "fnExactBuildUpFor", fn := fun _ => fun
  | [d1, d2, d3, d4] => { results := [.lit (.bool true)], args := [d1, d2, d3, d4] }
  | _ => none }
def fnExactBuildUpForRow : OpenClaim := { program := "ytaoknbhpjnileaa", sum := "9d3d3d74192b06d282123508ac3a8e90de66f82ed7abf2cfb75bccfff0627b54", func := "loop.example/g01043/laws.FnExactBuildUpFor", spec := "fnExactBuildUpFor", unfollowed := true, recurses := true, plainKeys := false, apart := false }
def FnExactBuildUpForSaid : Prop := fnExactBuildUpForRow.holds Try.pinned (OpenSpec.ofChange fnExactBuildUpForSpec)

/-- ITS FALSE NEIGHBOUR: 'it returns false'. Refute it at one input. -/
def fnExactBuildUpForWrong : ChangeSpec := { name := "fnExactBuildUpFor", fn := fun _ => fun
  | [d1, d2, d3, d4] => { results := [.lit (.bool false)], args := [d1, d2, d3, d4] }
  | _ => none }
def FnExactBuildUpForWrongFalsely : Prop := fnExactBuildUpForRow.holds Try.pinned (OpenSpec.ofChange fnExactBuildUpForWrong)

/-- 'laws.FnExactValidGrade': WHATEVER THE INPUT: true; the input reads as it did. -/
def fnExactValidGradeSpec : ChangeSpec := { name := "fnExactValidGrade", fn := fun _ => fun
  | [d] => { results := [.lit (.bool true)], args := [d] }
  | _ => none }
def fnExactValidGradeRow : OpenClaim := { program := "ytaoknbhpjnileaa", sum := "9d3d3d74192b06d282123508ac3a8e90de66f82ed7abf2cfb75bccfff0627b54", func := "loop.example/g01043/laws.FnExactValidGrade", spec := "fnExactValidGrade", plainKeys := false, apart := false }
def FnExactValidGradeSaid : Prop := fnExactValidGradeRow.holds Try.pinned (OpenSpec.ofChange fnExactValidGradeSpec)

/-- ITS FALSE NEIGHBOUR: 'it returns false'. Refute it at one input. -/
def fnExactValidGradeWrong : ChangeSpec := { name := "fnExactValidGrade", fn := fun _ => fun
  | [d] => { results := [.lit (.bool false)], args := [d] }
  | _ => none }
def FnExactValidGradeWrongFalsely : Prop := fnExactValidGradeRow.holds Try.pinned (OpenSpec.ofChange fnExactValidGradeWrong)

/-- 'laws.FnExactValidFit': WHATEVER THE INPUT: true; the input reads as it did. -/
def fnExactValidFitSpec : ChangeSpec := { name := "fnExactValidFit", fn := fun _ => fun
  | [d] => { results := [.lit (.bool true)], args := [d] }
  | _ => none }
def fnExactValidFitRow : OpenClaim := { program := "ytaoknbhpjnileaa", sum := "9d3d3d74192b06d282123508ac3a8e90de66f82ed7abf2cfb75bccfff0627b54", func := "loop.example/g01043/laws.FnExactValidFit", spec := "fnExactValidFit", plainKeys := false, apart := false }
def FnExactValidFitSaid : Prop := fnExactValidFitRow.holds Try.pinned (OpenSpec.ofChange fnExactValidFitSpec)

/-- ITS FALSE NEIGHBOUR: 'it returns false'. Refute it at one input. -/
def fnExactValidFitWrong : ChangeSpec := { name := "fnExactValidFit", fn := fun _ => fun
  | [d] => { results := [.lit (.bool false)], args := [d] }
  | _ => none }
def FnExactValidFitWrongFalsely : Prop := fnExactValidFitRow.holds Try.pinned (OpenSpec.ofChange fnExactValidFitWrong)

/-- 'laws.FnExactGradeLast': WHATEVER THE INPUT: true; the input reads as it did. -/
def fnExactGradeLastSpec : ChangeSpec := { name := "fnExactGradeLast", fn := fun _ => fun
  | [d1, d2, d3] => { results := [.lit (.bool true)], args := [d1, d2, d3] }
  | _ => none }
def fnExactGradeLastRow : OpenClaim := { program := "ytaoknbhpjnileaa", sum := "9d3d3d74192b06d282123508ac3a8e90de66f82ed7abf2cfb75bccfff0627b54", func := "loop.example/g01043/laws.FnExactGradeLast", spec := "fnExactGradeLast", unfollowed := true, recurses := true, plainKeys := false, apart := false }
def FnExactGradeLastSaid : Prop := fnExactGradeLastRow.holds Try.pinned (OpenSpec.ofChange fnExactGradeLastSpec)

/-- ITS FALSE NEIGHBOUR: 'it returns false'. Refute it at one input. -/
def fnExactGradeLastWrong : ChangeSpec := { name := "fnExactGradeLast", fn := fun _ => fun
  | [d1, d2, d3] => { results := [.lit (.bool false)], args := [d1, d2, d3] }
  | _ => none }
def FnExactGradeLastWrongFalsely : Prop := fnExactGradeLastRow.holds Try.pinned (OpenSpec.ofChange fnExactGradeLastWrong)

/- THE SECOND FORM. 'bulk': how many values and letters a reading holds, each counted each time it is reached (what is shared counts as often as it is met; a slice's spare places count too). A statement '..UptoSaid' is the law's where the arguments, and the package variables that the reading takes, are together of bulk at most 1048576: NARROWER than '..Said'. Prove '..Said' where nothing that the law and all that it calls make is longer than what came in: it says more and counts as full. Else prove '..UptoSaid'. A law counts once. -/
mutual
def uptoBulk {H : Type} : DataW H → Nat
  | .lit (.string bytes) => bytes.length + 1
  | .lit _ => 1
  | .nil => 1
  | .ptr d => uptoBulk d + 1
  | .slice elems spare => uptoBulkAll elems + uptoBulkAll spare + 1
  | .agg parts => uptoBulkAll parts + 1
  | .iface _ d => uptoBulk d + 1
  | .map entries => uptoBulkEntries entries + 1
  | .held _ => 1
def uptoBulkAll {H : Type} : List (DataW H) → Nat
  | [] => 0
  | d :: r => uptoBulk d + uptoBulkAll r
def uptoBulkEntries {H : Type} : List (Lit × DataW H) → Nat
  | [] => 0
  | x :: r => uptoBulkEntry x + uptoBulkEntries r
def uptoBulkEntry {H : Type} : Lit × DataW H → Nat
  | (.string bytes, d) => bytes.length + uptoBulk d + 1
  | (_, d) => uptoBulk d + 1
 end
def uptoSmall : (H : Type) → List (DataW H) → Bool := fun _ ds => decide (uptoBulkAll ds ≤ 1048576)
def OpenSpec.upto (s : _root_.Go.ChangeSpec) : _root_.Go.OpenSpec := { _root_.Go.OpenSpec.ofChange s with cond := some uptoSmall }

/-- 'laws.FnExactValidLayers', WHERE WHAT IT READS IS OF BULK AT MOST 1048576: true; the input reads as it did. -/
def fnExactValidLayersUptoRow : OpenClaim := { program := "ytaoknbhpjnileaa", sum := "9d3d3d74192b06d282123508ac3a8e90de66f82ed7abf2cfb75bccfff0627b54", func := "loop.example/g01043/laws.FnExactValidLayers", spec := "fnExactValidLayers", plainKeys := false, apart := false, narrowed := true }
def FnExactValidLayersUptoSaid : Prop := fnExactValidLayersUptoRow.holds Try.pinned (OpenSpec.upto fnExactValidLayersSpec)

/-- 'laws.FnExactNeedOf', WHERE WHAT IT READS IS OF BULK AT MOST 1048576: true; the input reads as it did. -/
def fnExactNeedOfUptoRow : OpenClaim := { program := "ytaoknbhpjnileaa", sum := "9d3d3d74192b06d282123508ac3a8e90de66f82ed7abf2cfb75bccfff0627b54", func := "loop.example/g01043/laws.FnExactNeedOf", spec := "fnExactNeedOf", plainKeys := false, apart := false, narrowed := true }
def FnExactNeedOfUptoSaid : Prop := fnExactNeedOfUptoRow.holds Try.pinned (OpenSpec.upto fnExactNeedOfSpec)

/-- 'laws.FnExactFewestLayers', WHERE WHAT IT READS IS OF BULK AT MOST 1048576: true; the input reads as it did. -/
def fnExactFewestLayersUptoRow : OpenClaim := { program := "ytaoknbhpjnileaa", sum := "9d3d3d74192b06d282123508ac3a8e90de66f82ed7abf2cfb75bccfff0627b54", func := "loop.example/g01043/laws.FnExactFewestLayers", spec := "fnExactFewestLayers", unfollowed := true, recurses := true, plainKeys := false, apart := false, narrowed := true }
def FnExactFewestLayersUptoSaid : Prop := fnExactFewestLayersUptoRow.holds Try.pinned (OpenSpec.upto fnExactFewestLayersSpec)

/-- 'laws.FnExactFewestWithin', WHERE WHAT IT READS IS OF BULK AT MOST 1048576: true; the input reads as it did. -/
def fnExactFewestWithinUptoRow : OpenClaim := { program := "ytaoknbhpjnileaa", sum := "9d3d3d74192b06d282123508ac3a8e90de66f82ed7abf2cfb75bccfff0627b54", func := "loop.example/g01043/laws.FnExactFewestWithin", spec := "fnExactFewestWithin", unfollowed := true, recurses := true, plainKeys := false, apart := false, narrowed := true }
def FnExactFewestWithinUptoSaid : Prop := fnExactFewestWithinUptoRow.holds Try.pinned (OpenSpec.upto fnExactFewestWithinSpec)

/-- 'laws.FnExactCountBuilds', WHERE WHAT IT READS IS OF BULK AT MOST 1048576: true; the input reads as it did. -/
def fnExactCountBuildsUptoRow : OpenClaim := { program := "ytaoknbhpjnileaa", sum := "9d3d3d74192b06d282123508ac3a8e90de66f82ed7abf2cfb75bccfff0627b54", func := "loop.example/g01043/laws.FnExactCountBuilds", spec := "fnExactCountBuilds", unfollowed := true, recurses := true, plainKeys := false, apart := false, narrowed := true }
def FnExactCountBuildsUptoSaid : Prop := fnExactCountBuildsUptoRow.holds Try.pinned (OpenSpec.upto fnExactCountBuildsSpec)

/-- 'laws.FnExactUnreachedSums', WHERE WHAT IT READS IS OF BULK AT MOST 1048576: true; the input reads as it did. -/
def fnExactUnreachedSumsUptoRow : OpenClaim := { program := "ytaoknbhpjnileaa", sum := "9d3d3d74192b06d282123508ac3a8e90de66f82ed7abf2cfb75bccfff0627b54", func := "loop.example/g01043/laws.FnExactUnreachedSums", spec := "fnExactUnreachedSums", plainKeys := false, apart := false, narrowed := true }
def FnExactUnreachedSumsUptoSaid : Prop := fnExactUnreachedSumsUptoRow.holds Try.pinned (OpenSpec.upto fnExactUnreachedSumsSpec)

/-- 'laws.FnExactCheapestBuild', WHERE WHAT IT READS IS OF BULK AT MOST 1048576: true; the input reads as it did. -/
def fnExactCheapestBuildUptoRow : OpenClaim := { program := "ytaoknbhpjnileaa", sum := "9d3d3d74192b06d282123508ac3a8e90de66f82ed7abf2cfb75bccfff0627b54", func := "loop.example/g01043/laws.FnExactCheapestBuild", spec := "fnExactCheapestBuild", unfollowed := true, recurses := true, plainKeys := false, apart := false, narrowed := true }
def FnExactCheapestBuildUptoSaid : Prop := fnExactCheapestBuildUptoRow.holds Try.pinned (OpenSpec.upto fnExactCheapestBuildSpec)

/-- 'laws.FnExactBuildLast', WHERE WHAT IT READS IS OF BULK AT MOST 1048576: true; the input reads as it did. -/
def fnExactBuildLastUptoRow : OpenClaim := { program := "ytaoknbhpjnileaa", sum := "9d3d3d74192b06d282123508ac3a8e90de66f82ed7abf2cfb75bccfff0627b54", func := "loop.example/g01043/laws.FnExactBuildLast", spec := "fnExactBuildLast", plainKeys := false, apart := false, narrowed := true }
def FnExactBuildLastUptoSaid : Prop := fnExactBuildLastUptoRow.holds Try.pinned (OpenSpec.upto fnExactBuildLastSpec)

/-- 'laws.FnExactBuildUpFor', WHERE WHAT IT READS IS OF BULK AT MOST 1048576: true; the input reads as it did. -/
def fnExactBuildUpForUptoRow : OpenClaim := { program := "ytaoknbhpjnileaa", sum := "9d3d3d74192b06d282123508ac3a8e90de66f82ed7abf2cfb75bccfff0627b54", func := "loop.example/g01043/laws.FnExactBuildUpFor", spec := "fnExactBuildUpFor", unfollowed := true, recurses := true, plainKeys := false, apart := false, narrowed := true }
def FnExactBuildUpForUptoSaid : Prop := fnExactBuildUpForUptoRow.holds Try.pinned (OpenSpec.upto fnExactBuildUpForSpec)

/-- 'laws.FnExactValidGrade', WHERE WHAT IT READS IS OF BULK AT MOST 1048576: true; the input reads as it did. -/
def fnExactValidGradeUptoRow : OpenClaim := { program := "ytaoknbhpjnileaa", sum := "9d3d3d74192b06d282123508ac3a8e90de66f82ed7abf2cfb75bccfff0627b54", func := "loop.example/g01043/laws.FnExactValidGrade", spec := "fnExactValidGrade", plainKeys := false, apart := false, narrowed := true }
def FnExactValidGradeUptoSaid : Prop := fnExactValidGradeUptoRow.holds Try.pinned (OpenSpec.upto fnExactValidGradeSpec)

/-- 'laws.FnExactValidFit', WHERE WHAT IT READS IS OF BULK AT MOST 1048576: true; the input reads as it did. -/
def fnExactValidFitUptoRow : OpenClaim := { program := "ytaoknbhpjnileaa", sum := "9d3d3d74192b06d282123508ac3a8e90de66f82ed7abf2cfb75bccfff0627b54", func := "loop.example/g01043/laws.FnExactValidFit", spec := "fnExactValidFit", plainKeys := false, apart := false, narrowed := true }
def FnExactValidFitUptoSaid : Prop := fnExactValidFitUptoRow.holds Try.pinned (OpenSpec.upto fnExactValidFitSpec)

/-- 'laws.FnExactGradeLast', WHERE WHAT IT READS IS OF BULK AT MOST 1048576: true; the input reads as it did. -/
def fnExactGradeLastUptoRow : OpenClaim := { program := "ytaoknbhpjnileaa", sum := "9d3d3d74192b06d282123508ac3a8e90de66f82ed7abf2cfb75bccfff0627b54", func := "loop.example/g01043/laws.FnExactGradeLast", spec := "fnExactGradeLast", unfollowed := true, recurses := true, plainKeys := false, apart := false, narrowed := true }
def FnExactGradeLastUptoSaid : Prop := fnExactGradeLastUptoRow.holds Try.pinned (OpenSpec.upto fnExactGradeLastSpec)

end Rows
end Go.Proofs.Ytaoknbhpjnileaa
