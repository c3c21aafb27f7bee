/-
  No cell of these rows narrows 'for every input' (looked for: loops, veiled, ifaces, maps, wideKeys, modest, calm, conditions, laid).
  DERIVED. THE GIVEN ROWS OF THIS SEAT. 12 by the template 'for every input the law returns true; each argument reads behind the call as it read before'; 0 by the template 'total and deterministic' (their statements: YtpmmfalpcooenabTotals.lean).
  GIVEN WITH THE SEED: the statements are not yours to turn. If you find one false, say at which input.
  Laid BY PROGRAM, IN A SANDBOX (cutbox-rows.mjs): the forced cells as the released guide's own fill.sh prints them over the translation 8149401dafdaae48… (all of the seat's roots in one cut). By AI agents, Wed Nov 11 2026. No macro, syntax, notation, axiom, sorry.
-/
import Derived.Test.YtpmmfalpcooenabChecked
import GoSem.Claim
import GoSem.ClaimJoined
import GoSem.ClaimMapViews
import Derived.JoinedTies
import Derived.KernelRfl
namespace Go.Proofs.Ytpmmfalpcooenab
/- THE CELL 'sum', in the pinned program and in every row, IS THE sha256 OF THE DUMP (.gsa) THAT YtpmmfalpcooenabProg.lean LOADS. Nothing in Lean hashes anything: it is a label: what it is worth is what the hold of that sum in a sandbox is worth. -/
noncomputable def Try.pinned : Pinned := { name := "ytpmmfalpcooenab", sum := "8149401dafdaae48af61606f44318b8ca595ce7324170f07bf216643d05116a7", checked := Try.checked }
namespace Rows
def none {H : Type} : Left H := { results := [], args := [] }

/-- 'laws.FnExactGrowthOf': WHATEVER THE INPUT: true; the input reads as it did. -/
def fnExactGrowthOfSpec : ChangeSpec := { name := "fnExactGrowthOf", fn := fun _ => fun
  | [d1, d2] => { results := [.lit (.bool true)], args := [d1, d2] }
  | _ => none }
def fnExactGrowthOfRow : OpenClaim := { program := "ytpmmfalpcooenab", sum := "8149401dafdaae48af61606f44318b8ca595ce7324170f07bf216643d05116a7", func := "loop.example/g01043/laws.FnExactGrowthOf", spec := "fnExactGrowthOf", plainKeys := false, apart := false }
def FnExactGrowthOfSaid : Prop := fnExactGrowthOfRow.holds Try.pinned (OpenSpec.ofChange fnExactGrowthOfSpec)

/-- ITS FALSE NEIGHBOUR: 'it returns false'. Refute it at one input. -/
def fnExactGrowthOfWrong : ChangeSpec := { name := "fnExactGrowthOf", fn := fun _ => fun
  | [d1, d2] => { results := [.lit (.bool false)], args := [d1, d2] }
  | _ => none }
def FnExactGrowthOfWrongFalsely : Prop := fnExactGrowthOfRow.holds Try.pinned (OpenSpec.ofChange fnExactGrowthOfWrong)

/-- 'laws.FnExactLengthOn': WHATEVER THE INPUT: true; the input reads as it did. -/
def fnExactLengthOnSpec : ChangeSpec := { name := "fnExactLengthOn", fn := fun _ => fun
  | [d1, d2, d3] => { results := [.lit (.bool true)], args := [d1, d2, d3] }
  | _ => none }
def fnExactLengthOnRow : OpenClaim := { program := "ytpmmfalpcooenab", sum := "8149401dafdaae48af61606f44318b8ca595ce7324170f07bf216643d05116a7", func := "loop.example/g01043/laws.FnExactLengthOn", spec := "fnExactLengthOn", plainKeys := false, apart := false }
def FnExactLengthOnSaid : Prop := fnExactLengthOnRow.holds Try.pinned (OpenSpec.ofChange fnExactLengthOnSpec)

/-- ITS FALSE NEIGHBOUR: 'it returns false'. Refute it at one input. -/
def fnExactLengthOnWrong : ChangeSpec := { name := "fnExactLengthOn", fn := fun _ => fun
  | [d1, d2, d3] => { results := [.lit (.bool false)], args := [d1, d2, d3] }
  | _ => none }
def FnExactLengthOnWrongFalsely : Prop := fnExactLengthOnRow.holds Try.pinned (OpenSpec.ofChange fnExactLengthOnWrong)

/-- 'laws.FnExactValidLayers': WHATEVER THE INPUT: true; the input reads as it did. -/
def fnExactValidLayersSpec : ChangeSpec := { name := "fnExactValidLayers", fn := fun _ => fun
  | [d] => { results := [.lit (.bool true)], args := [d] }
  | _ => none }
def fnExactValidLayersRow : OpenClaim := { program := "ytpmmfalpcooenab", sum := "8149401dafdaae48af61606f44318b8ca595ce7324170f07bf216643d05116a7", func := "loop.example/g01043/laws.FnExactValidLayers", spec := "fnExactValidLayers", plainKeys := false, apart := false }
def FnExactValidLayersSaid : Prop := fnExactValidLayersRow.holds Try.pinned (OpenSpec.ofChange fnExactValidLayersSpec)

/-- ITS FALSE NEIGHBOUR: 'it returns false'. Refute it at one input. -/
def fnExactValidLayersWrong : ChangeSpec := { name := "fnExactValidLayers", fn := fun _ => fun
  | [d] => { results := [.lit (.bool false)], args := [d] }
  | _ => none }
def FnExactValidLayersWrongFalsely : Prop := fnExactValidLayersRow.holds Try.pinned (OpenSpec.ofChange fnExactValidLayersWrong)

/-- 'laws.FnExactFewestLayers': WHATEVER THE INPUT: true; the input reads as it did. -/
def fnExactFewestLayersSpec : ChangeSpec := { name := "fnExactFewestLayers", fn := fun _ => fun
  | [d1, d2] => { results := [.lit (.bool true)], args := [d1, d2] }
  | _ => none }
def fnExactFewestLayersRow : OpenClaim := { program := "ytpmmfalpcooenab", sum := "8149401dafdaae48af61606f44318b8ca595ce7324170f07bf216643d05116a7", func := "loop.example/g01043/laws.FnExactFewestLayers", spec := "fnExactFewestLayers", unfollowed := true, recurses := true, plainKeys := false, apart := false }
def FnExactFewestLayersSaid : Prop := fnExactFewestLayersRow.holds Try.pinned (OpenSpec.ofChange fnExactFewestLayersSpec)

/-- ITS FALSE NEIGHBOUR: 'it returns false'. Refute it at one input. -/
def fnExactFewestLayersWrong : ChangeSpec := { name := "fnExactFewestLayers", fn := fun _ => fun
  | [d1, d2] => { results := [.lit (.bool false)], args := [d1, d2] }
  | _ => none }
def FnExactFewestLayersWrongFalsely : Prop := fnExactFewestLayersRow.holds Try.pinned (OpenSpec.ofChange fnExactFewestLayersWrong)

/-- 'laws.FnExactFewestWithin': WHATEVER THE INPUT: true; the input reads as it did. -/
def fnExactFewestWithinSpec : ChangeSpec := { name := "fnExactFewestWithin", fn := fun _ => fun
  | [d1, d2, d3] => { results := [.lit (.bool true)], args := [d1, d2, d3] }
  | _ => none }
def fnExactFewestWithinRow : OpenClaim := { program := "ytpmmfalpcooenab", sum := "8149401dafdaae48af61606f44318b8ca595ce7324170f07bf216643d05116a7", func := "loop.example/g01043/laws.FnExactFewestWithin", spec := "fnExactFewestWithin", unfollowed := true, recurses := true, plainKeys := false, apart := false }
def FnExactFewestWithinSaid : Prop := fnExactFewestWithinRow.holds Try.pinned (OpenSpec.ofChange fnExactFewestWithinSpec)

/-- ITS FALSE NEIGHBOUR: 'it returns false'. Refute it at one input. -/
def fnExactFewestWithinWrong : ChangeSpec := { name := "fnExactFewestWithin", fn := fun _ => fun
  | [d1, d2, d3] => { results := [.lit (.bool false)], args := [d1, d2, d3] }
  | _ => none }
def FnExactFewestWithinWrongFalsely : Prop := fnExactFewestWithinRow.holds Try.pinned (OpenSpec.ofChange fnExactFewestWithinWrong)

/-- 'laws.FnExactCountBuilds': WHATEVER THE INPUT: true; the input reads as it did. -/
def fnExactCountBuildsSpec : ChangeSpec := { name := "fnExactCountBuilds", fn := fun _ => fun
  | [d1, d2] => { results := [.lit (.bool true)], args := [d1, d2] }
  | _ => none }
def fnExactCountBuildsRow : OpenClaim := { program := "ytpmmfalpcooenab", sum := "8149401dafdaae48af61606f44318b8ca595ce7324170f07bf216643d05116a7", func := "loop.example/g01043/laws.FnExactCountBuilds", spec := "fnExactCountBuilds", unfollowed := true, recurses := true, plainKeys := false, apart := false }
def FnExactCountBuildsSaid : Prop := fnExactCountBuildsRow.holds Try.pinned (OpenSpec.ofChange fnExactCountBuildsSpec)

/-- ITS FALSE NEIGHBOUR: 'it returns false'. Refute it at one input. -/
def fnExactCountBuildsWrong : ChangeSpec := { name := "fnExactCountBuilds", fn := fun _ => fun
  | [d1, d2] => { results := [.lit (.bool false)], args := [d1, d2] }
  | _ => none }
def FnExactCountBuildsWrongFalsely : Prop := fnExactCountBuildsRow.holds Try.pinned (OpenSpec.ofChange fnExactCountBuildsWrong)

/-- 'laws.FnExactUnreachedSums': WHATEVER THE INPUT: true; the input reads as it did. -/
def fnExactUnreachedSumsSpec : ChangeSpec := { name := "fnExactUnreachedSums", fn := fun _ => fun
  | [d1, d2] => { results := [.lit (.bool true)], args := [d1, d2] }
  | _ => none }
def fnExactUnreachedSumsRow : OpenClaim := { program := "ytpmmfalpcooenab", sum := "8149401dafdaae48af61606f44318b8ca595ce7324170f07bf216643d05116a7", func := "loop.example/g01043/laws.FnExactUnreachedSums", spec := "fnExactUnreachedSums", plainKeys := false, apart := false }
def FnExactUnreachedSumsSaid : Prop := fnExactUnreachedSumsRow.holds Try.pinned (OpenSpec.ofChange fnExactUnreachedSumsSpec)

/-- ITS FALSE NEIGHBOUR: 'it returns false'. Refute it at one input. -/
def fnExactUnreachedSumsWrong : ChangeSpec := { name := "fnExactUnreachedSums", fn := fun _ => fun
  | [d1, d2] => { results := [.lit (.bool false)], args := [d1, d2] }
  | _ => none }
def FnExactUnreachedSumsWrongFalsely : Prop := fnExactUnreachedSumsRow.holds Try.pinned (OpenSpec.ofChange fnExactUnreachedSumsWrong)

/-- 'laws.FnExactCheapestBuild': WHATEVER THE INPUT: true; the input reads as it did. -/
def fnExactCheapestBuildSpec : ChangeSpec := { name := "fnExactCheapestBuild", fn := fun _ => fun
  | [d1, d2, d3] => { results := [.lit (.bool true)], args := [d1, d2, d3] }
  | _ => none }
def fnExactCheapestBuildRow : OpenClaim := { program := "ytpmmfalpcooenab", sum := "8149401dafdaae48af61606f44318b8ca595ce7324170f07bf216643d05116a7", func := "loop.example/g01043/laws.FnExactCheapestBuild", spec := "fnExactCheapestBuild", unfollowed := true, recurses := true, plainKeys := false, apart := false }
def FnExactCheapestBuildSaid : Prop := fnExactCheapestBuildRow.holds Try.pinned (OpenSpec.ofChange fnExactCheapestBuildSpec)

/-- ITS FALSE NEIGHBOUR: 'it returns false'. Refute it at one input. -/
def fnExactCheapestBuildWrong : ChangeSpec := { name := "fnExactCheapestBuild", fn := fun _ => fun
  | [d1, d2, d3] => { results := [.lit (.bool false)], args := [d1, d2, d3] }
  | _ => none }
def FnExactCheapestBuildWrongFalsely : Prop := fnExactCheapestBuildRow.holds Try.pinned (OpenSpec.ofChange fnExactCheapestBuildWrong)

/-- 'laws.FnExactBuildLast': WHATEVER THE INPUT: true; the input reads as it did. -/
def fnExactBuildLastSpec : ChangeSpec := { name := "fnExactBuildLast", fn := fun _ => fun
  | [d1, d2, d3] => { results := [.lit (.bool true)], args := [d1, d2, d3] }
  | _ => none }
def fnExactBuildLastRow : OpenClaim := { program := "ytpmmfalpcooenab", sum := "8149401dafdaae48af61606f44318b8ca595ce7324170f07bf216643d05116a7", func := "loop.example/g01043/laws.FnExactBuildLast", spec := "fnExactBuildLast", plainKeys := false, apart := false }
def FnExactBuildLastSaid : Prop := fnExactBuildLastRow.holds Try.pinned (OpenSpec.ofChange fnExactBuildLastSpec)

/-- ITS FALSE NEIGHBOUR: 'it returns false'. Refute it at one input. -/
def fnExactBuildLastWrong : ChangeSpec := { name := "fnExactBuildLast", fn := fun _ => fun
  | [d1, d2, d3] => { results := [.lit (.bool false)], args := [d1, d2, d3] }
  | _ => none }
def FnExactBuildLastWrongFalsely : Prop := fnExactBuildLastRow.holds Try.pinned (OpenSpec.ofChange fnExactBuildLastWrong)

/-- 'laws.FnExactBuildUpFor': WHATEVER THE INPUT: true; the input reads as it did. -/
def fnExactBuildUpForSpec : ChangeSpec := { name := "fnExactBuildUpFor", fn := fun _ => fun
  | [d1, d2, d3, d4] => { results := [.lit (.bool true)], args := [d1, d2, d3, d4] }
  | _ => none }
def fnExactBuildUpForRow : OpenClaim := { program := "ytpmmfalpcooenab", sum := "8149401dafdaae48af61606f44318b8ca595ce7324170f07bf216643d05116a7", func := "loop.example/g01043/laws.FnExactBuildUpFor", spec := "fnExactBuildUpFor", unfollowed := true, recurses := true, plainKeys := false, apart := false }
def FnExactBuildUpForSaid : Prop := fnExactBuildUpForRow.holds Try.pinned (OpenSpec.ofChange fnExactBuildUpForSpec)

/-- ITS FALSE NEIGHBOUR: 'it returns false'. Refute it at one input. -/
def fnExactBuildUpForWrong : ChangeSpec := { name := "fnExactBuildUpFor", fn := fun _ => fun
  | [d1, d2, d3, d4] => { results := [.lit (.bool false)], args := [d1, d2, d3, d4] }
  | _ => none }
def FnExactBuildUpForWrongFalsely : Prop := fnExactBuildUpForRow.holds Try.pinned (OpenSpec.ofChange fnExactBuildUpForWrong)

/-- 'laws.FnExactFirstFault': WHATEVER THE INPUT: true; the input reads as it did. -/
def fnExactFirstFaultSpec : ChangeSpec := { name := "fnExactFirstFault", fn := fun _ => fun
  | [d1, d2] => { results := [.lit (.bool true)], args := [d1, d2] }
  | _ => none }
def fnExactFirstFaultRow : OpenClaim := { program := "ytpmmfalpcooenab", sum := "8149401dafdaae48af61606f44318b8ca595ce7324170f07bf216643d05116a7", func := "loop.example/g01043/laws.FnExactFirstFault", spec := "fnExactFirstFault", plainKeys := false, apart := false }
def FnExactFirstFaultSaid : Prop := fnExactFirstFaultRow.holds Try.pinned (OpenSpec.ofChange fnExactFirstFaultSpec)

/-- ITS FALSE NEIGHBOUR: 'it returns false'. Refute it at one input. -/
def fnExactFirstFaultWrong : ChangeSpec := { name := "fnExactFirstFault", fn := fun _ => fun
  | [d1, d2] => { results := [.lit (.bool false)], args := [d1, d2] }
  | _ => none }
def FnExactFirstFaultWrongFalsely : Prop := fnExactFirstFaultRow.holds Try.pinned (OpenSpec.ofChange fnExactFirstFaultWrong)

/-- 'laws.FnExactIsSound': WHATEVER THE INPUT: true; the input reads as it did. -/
def fnExactIsSoundSpec : ChangeSpec := { name := "fnExactIsSound", fn := fun _ => fun
  | [d1, d2] => { results := [.lit (.bool true)], args := [d1, d2] }
  | _ => none }
def fnExactIsSoundRow : OpenClaim := { program := "ytpmmfalpcooenab", sum := "8149401dafdaae48af61606f44318b8ca595ce7324170f07bf216643d05116a7", func := "loop.example/g01043/laws.FnExactIsSound", spec := "fnExactIsSound", plainKeys := false, apart := false }
def FnExactIsSoundSaid : Prop := fnExactIsSoundRow.holds Try.pinned (OpenSpec.ofChange fnExactIsSoundSpec)

/-- ITS FALSE NEIGHBOUR: 'it returns false'. Refute it at one input. -/
def fnExactIsSoundWrong : ChangeSpec := { name := "fnExactIsSound", fn := fun _ => fun
  | [d1, d2] => { results := [.lit (.bool false)], args := [d1, d2] }
  | _ => none }
def FnExactIsSoundWrongFalsely : Prop := fnExactIsSoundRow.holds Try.pinned (OpenSpec.ofChange fnExactIsSoundWrong)

/- THE SECOND FORM. 'bulk': how many values and letters a reading holds, each counted each time it is reached (what is shared counts as often as it is met; a slice's spare places count too). A statement '..UptoSaid' is the law's where the arguments, and the package variables that the reading takes, are together of bulk at most 1048576: NARROWER than '..Said'. Prove '..Said' where nothing that the law and all that it calls make is longer than what came in: it says more and counts as full. Else prove '..UptoSaid'. A law counts once. -/
mutual
def uptoBulk {H : Type} : DataW H → Nat
  | .lit (.string bytes) => bytes.length + 1
  | .lit _ => 1
  | .nil => 1
  | .ptr d => uptoBulk d + 1
  | .slice elems spare => uptoBulkAll elems + uptoBulkAll spare + 1
  | .agg parts => uptoBulkAll parts + 1
  | .iface _ d => uptoBulk d + 1
  | .map entries => uptoBulkEntries entries + 1
  | .held _ => 1
def uptoBulkAll {H : Type} : List (DataW H) → Nat
  | [] => 0
  | d :: r => uptoBulk d + uptoBulkAll r
def uptoBulkEntries {H : Type} : List (Lit × DataW H) → Nat
  | [] => 0
  | x :: r => uptoBulkEntry x + uptoBulkEntries r
def uptoBulkEntry {H : Type} : Lit × DataW H → Nat
  | (.string bytes, d) => bytes.length + uptoBulk d + 1
  | (_, d) => uptoBulk d + 1
 end
def uptoSmall : (H : Type) → List (DataW H) → Bool := fun _ ds => decide (uptoBulkAll ds ≤ 1048576)
def OpenSpec.upto (s : _root_.Go.ChangeSpec) : _root_.Go.OpenSpec := { _root_.Go.OpenSpec.ofChange s with cond := some uptoSmall }

/-- 'laws.FnExactGrowthOf', WHERE WHAT IT READS IS OF BULK AT MOST 1048576: true; the input reads as it did. -/
def fnExactGrowthOfUptoRow : OpenClaim := { program := "ytpmmfalpcooenab", sum := "8149401dafdaae48af61606f44318b8ca595ce7324170f07bf216643d05116a7", func := "loop.example/g01043/laws.FnExactGrowthOf", spec := "fnExactGrowthOf", plainKeys := false, apart := false, narrowed := true }
def FnExactGrowthOfUptoSaid : Prop := fnExactGrowthOfUptoRow.holds Try.pinned (OpenSpec.upto fnExactGrowthOfSpec)

/-- 'laws.FnExactLengthOn', WHERE WHAT IT READS IS OF BULK AT MOST 1048576: true; the input reads as it did. -/
def fnExactLengthOnUptoRow : OpenClaim := { program := "ytpmmfalpcooenab", sum := "8149401dafdaae48af61606f44318b8ca595ce7324170f07bf216643d05116a7", func := "loop.example/g01043/laws.FnExactLengthOn", spec := "fnExactLengthOn", plainKeys := false, apart := false, narrowed := true }
def FnExactLengthOnUptoSaid : Prop := fnExactLengthOnUptoRow.holds Try.pinned (OpenSpec.upto fnExactLengthOnSpec)

/-- 'laws.FnExactValidLayers', WHERE WHAT IT READS IS OF BULK AT MOST 1048576: true; the input reads as it did. -/
def fnExactValidLayersUptoRow : OpenClaim := { program := "ytpmmfalpcooenab", sum := "8149401dafdaae48af61606f44318b8ca595ce7324170f07bf216643d05116a7", func := "loop.example/g01043/laws.FnExactValidLayers", spec := "fnExactValidLayers", plainKeys := false, apart := false, narrowed := true }
def FnExactValidLayersUptoSaid : Prop := fnExactValidLayersUptoRow.holds Try.pinned (OpenSpec.upto fnExactValidLayersSpec)

/-- 'laws.FnExactFewestLayers', WHERE WHAT IT READS IS OF BULK AT MOST 1048576: true; the input reads as it did. -/
def fnExactFewestLayersUptoRow : OpenClaim := { program := "ytpmmfalpcooenab", sum := "8149401dafdaae48af61606f44318b8ca595ce7324170f07bf216643d05116a7", func := "loop.example/g01043/laws.FnExactFewestLayers", spec := "fnExactFewestLayers", unfollowed := true, recurses := true, plainKeys := false, apart := false, narrowed := true }
def FnExactFewestLayersUptoSaid : Prop := fnExactFewestLayersUptoRow.holds Try.pinned (OpenSpec.upto fnExactFewestLayersSpec)

/-- 'laws.FnExactFewestWithin', WHERE WHAT IT READS IS OF BULK AT MOST 1048576: true; the input reads as it did. -/
def fnExactFewestWithinUptoRow : OpenClaim := { program := "ytpmmfalpcooenab", sum := "8149401dafdaae48af61606f44318b8ca595ce7324170f07bf216643d05116a7", func := "loop.example/g01043/laws.FnExactFewestWithin", spec := "fnExactFewestWithin", unfollowed := true, recurses := true, plainKeys := false, apart := false, narrowed := true }
def FnExactFewestWithinUptoSaid : Prop := fnExactFewestWithinUptoRow.holds Try.pinned (OpenSpec.upto fnExactFewestWithinSpec)

/-- 'laws.FnExactCountBuilds', WHERE WHAT IT READS IS OF BULK AT MOST 1048576: true; the input reads as it did. -/
def fnExactCountBuildsUptoRow : OpenClaim := { program := "ytpmmfalpcooenab", sum := "8149401dafdaae48af61606f44318b8ca595ce7324170f07bf216643d05116a7", func := "loop.example/g01043/laws.FnExactCountBuilds", spec := "fnExactCountBuilds", unfollowed := true, recurses := true, plainKeys := false, apart := false, narrowed := true }
def FnExactCountBuildsUptoSaid : Prop := fnExactCountBuildsUptoRow.holds Try.pinned (OpenSpec.upto fnExactCountBuildsSpec)

/-- 'laws.FnExactUnreachedSums', WHERE WHAT IT READS IS OF BULK AT MOST 1048576: true; the input reads as it did. -/
def fnExactUnreachedSumsUptoRow : OpenClaim := { program := "ytpmmfalpcooenab", sum := "8149401dafdaae48af61606f44318b8ca595ce7324170f07bf216643d05116a7", func := "loop.example/g01043/laws.FnExactUnreachedSums", spec := "fnExactUnreachedSums", plainKeys := false, apart := false, narrowed := true }
def FnExactUnreachedSumsUptoSaid : Prop := fnExactUnreachedSumsUptoRow.holds Try.pinned (OpenSpec.upto fnExactUnreachedSumsSpec)

/-- 'laws.FnExactCheapestBuild', WHERE WHAT IT READS IS OF BULK AT MOST 1048576: true; the input reads as it did. -/
def fnExactCheapestBuildUptoRow : OpenClaim := { program := "ytpmmfalpcooenab", sum := "8149401dafdaae48af61606f44318b8ca595ce7324170f07bf216643d05116a7", func := "loop.example/g01043/laws.FnExactCheapestBuild", spec := "fnExactCheapestBuild", unfollowed := true, recurses := true, plainKeys := false, apart := false, narrowed := true }
def FnExactCheapestBuildUptoSaid : Prop := fnExactCheapestBuildUptoRow.holds Try.pinned (OpenSpec.upto fnExactCheapestBuildSpec)

/-- 'laws.FnExactBuildLast', WHERE WHAT IT READS IS OF BULK AT MOST 1048576: true; the input reads as it did. -/
def fnExactBuildLastUptoRow : OpenClaim := { program := "ytpmmfalpcooenab", sum := "8149401dafdaae48af61606f44318b8ca595ce7324170f07bf216643d05116a7", func := "loop.example/g01043/laws.FnExactBuildLast", spec := "fnExactBuildLast", plainKeys := false, apart := false, narrowed := true }
def FnExactBuildLastUptoSaid : Prop := fnExactBuildLastUptoRow.holds Try.pinned (OpenSpec.upto fnExactBuildLastSpec)

/-- 'laws.FnExactBuildUpFor', WHERE WHAT IT READS IS OF BULK AT MOST 1048576: true; the input reads as it did. -/
def fnExactBuildUpForUptoRow : OpenClaim := { program := "ytpmmfalpcooenab", sum := "8149401dafdaae48af61606f44318b8ca595ce7324170f07bf216643d05116a7", func := "loop.example/g01043/laws.FnExactBuildUpFor", spec := "fnExactBuildUpFor", unfollowed := true, recurses := true, plainKeys := false, apart := false, narrowed := true }
def FnExactBuildUpForUptoSaid : Prop := fnExactBuildUpForUptoRow.holds Try.pinned (OpenSpec.upto fnExactBuildUpForSpec)

/-- 'laws.FnExactFirstFault', WHERE WHAT IT READS IS OF BULK AT MOST 1048576: true; the input reads as it did. -/
def fnExactFirstFaultUptoRow : OpenClaim := { program := "ytpmmfalpcooenab", sum := "8149401dafdaae48af61606f44318b8ca595ce7324170f07bf216643d05116a7", func := "loop.example/g01043/laws.FnExactFirstFault", spec := "fnExactFirstFault", plainKeys := false, apart := false, narrowed := true }
def FnExactFirstFaultUptoSaid : Prop := fnExactFirstFaultUptoRow.holds Try.pinned (OpenSpec.upto fnExactFirstFaultSpec)

/-- 'laws.FnExactIsSound', WHERE WHAT IT READS IS OF BULK AT MOST 1048576: true; the input reads as it did. -/
def fnExactIsSoundUptoRow : OpenClaim := { program := "ytpmmfalpcooenab", sum := "8149401dafdaae48af61606f44318b8ca595ce7324170f07bf216643d05116a7", func := "loop.example/g01043/laws.FnExactIsSound", spec := "fnExactIsSound", plainKeys := false, apart := false, narrowed := true }
def FnExactIsSoundUptoSaid : Prop := fnExactIsSoundUptoRow.holds Try.pinned (OpenSpec.upto fnExactIsSoundSpec)

end Rows
end Go.Proofs.Ytpmmfalpcooenab
