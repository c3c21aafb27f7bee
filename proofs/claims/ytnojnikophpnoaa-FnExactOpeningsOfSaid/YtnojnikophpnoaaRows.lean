/-
  No cell of these rows narrows 'for every input' (looked for: loops, veiled, ifaces, maps, wideKeys, modest, calm, conditions, laid).
  DERIVED. THE GIVEN ROWS OF THIS SEAT. 10 by the template 'for every input the law returns true; each argument reads behind the call as it read before'; 0 by the template 'total and deterministic' (their statements: YtnojnikophpnoaaTotals.lean).
  GIVEN WITH THE SEED: the statements are not yours to turn. If you find one false, say at which input.
  Laid BY PROGRAM, IN A SANDBOX (cutbox-rows.mjs): the forced cells as the released guide's own fill.sh prints them over the translation d777f6f19b9a2c2c… (all of the seat's roots in one cut). By AI agents, Wed Nov 11 2026. No macro, syntax, notation, axiom, sorry.
-/
import Derived.Test.YtnojnikophpnoaaChecked
import GoSem.Claim
import GoSem.ClaimJoined
import GoSem.ClaimMapViews
import Derived.JoinedTies
import Derived.KernelRfl
namespace Go.Proofs.Ytnojnikophpnoaa
/- THE CELL 'sum', in the pinned program and in every row, IS THE sha256 OF THE DUMP (.gsa) THAT YtnojnikophpnoaaProg.lean LOADS. Nothing in Lean hashes anything: it is a label: what it is worth is what the hold of that sum in a sandbox is worth. -/
noncomputable def Try.pinned : Pinned := { name := "ytnojnikophpnoaa", sum := "d777f6f19b9a2c2c76eab9c28016d32c801a84a02c0332a83341e69e83a7f342", checked := Try.checked }
namespace Rows
def none {H : Type} : Left H := { results := [], args := [] }

/-- 'laws.FnExactSamePattern': WHATEVER THE INPUT: true; the input reads as it did. -/
def fnExactSamePatternSpec : ChangeSpec := { name := "fnExactSamePattern", fn := fun _ => fun
  | [d1, d2] => { results := [.lit (.bool true)], args := [d1, d2] }
  | _ => none }
def fnExactSamePatternRow : OpenClaim := { program := "ytnojnikophpnoaa", sum := "d777f6f19b9a2c2c76eab9c28016d32c801a84a02c0332a83341e69e83a7f342", func := "loop.example/g01043/laws.FnExactSamePattern", spec := "fnExactSamePattern", unfollowed := true, recurses := true, plainKeys := false, apart := false }
def FnExactSamePatternSaid : Prop := fnExactSamePatternRow.holds Try.pinned (OpenSpec.ofChange fnExactSamePatternSpec)

/-- ITS FALSE NEIGHBOUR: 'it returns false'. Refute it at one input. -/
def fnExactSamePatternWrong : ChangeSpec := { name := "fnExactSamePattern", fn := fun _ => fun
  | [d1, d2] => { results := [.lit (.bool false)], args := [d1, d2] }
  | _ => none }
def FnExactSamePatternWrongFalsely : Prop := fnExactSamePatternRow.holds Try.pinned (OpenSpec.ofChange fnExactSamePatternWrong)

/-- 'laws.FnExactValidPattern': WHATEVER THE INPUT: true; the input reads as it did. -/
def fnExactValidPatternSpec : ChangeSpec := { name := "fnExactValidPattern", fn := fun _ => fun
  | [d] => { results := [.lit (.bool true)], args := [d] }
  | _ => none }
def fnExactValidPatternRow : OpenClaim := { program := "ytnojnikophpnoaa", sum := "d777f6f19b9a2c2c76eab9c28016d32c801a84a02c0332a83341e69e83a7f342", func := "loop.example/g01043/laws.FnExactValidPattern", spec := "fnExactValidPattern", plainKeys := false, apart := false }
def FnExactValidPatternSaid : Prop := fnExactValidPatternRow.holds Try.pinned (OpenSpec.ofChange fnExactValidPatternSpec)

/-- ITS FALSE NEIGHBOUR: 'it returns false'. Refute it at one input. -/
def fnExactValidPatternWrong : ChangeSpec := { name := "fnExactValidPattern", fn := fun _ => fun
  | [d] => { results := [.lit (.bool false)], args := [d] }
  | _ => none }
def FnExactValidPatternWrongFalsely : Prop := fnExactValidPatternRow.holds Try.pinned (OpenSpec.ofChange fnExactValidPatternWrong)

/-- 'laws.FnExactSeamDifferences': WHATEVER THE INPUT: true; the input reads as it did. -/
def fnExactSeamDifferencesSpec : ChangeSpec := { name := "fnExactSeamDifferences", fn := fun _ => fun
  | [d] => { results := [.lit (.bool true)], args := [d] }
  | _ => none }
def fnExactSeamDifferencesRow : OpenClaim := { program := "ytnojnikophpnoaa", sum := "d777f6f19b9a2c2c76eab9c28016d32c801a84a02c0332a83341e69e83a7f342", func := "loop.example/g01043/laws.FnExactSeamDifferences", spec := "fnExactSeamDifferences", unfollowed := true, recurses := true, plainKeys := false, apart := false }
def FnExactSeamDifferencesSaid : Prop := fnExactSeamDifferencesRow.holds Try.pinned (OpenSpec.ofChange fnExactSeamDifferencesSpec)

/-- ITS FALSE NEIGHBOUR: 'it returns false'. Refute it at one input. -/
def fnExactSeamDifferencesWrong : ChangeSpec := { name := "fnExactSeamDifferences", fn := fun _ => fun
  | [d] => { results := [.lit (.bool false)], args := [d] }
  | _ => none }
def FnExactSeamDifferencesWrongFalsely : Prop := fnExactSeamDifferencesRow.holds Try.pinned (OpenSpec.ofChange fnExactSeamDifferencesWrong)

/-- 'laws.FnExactOpenEdges': WHATEVER THE INPUT: true; the input reads as it did. -/
def fnExactOpenEdgesSpec : ChangeSpec := { name := "fnExactOpenEdges", fn := fun _ => fun
  | [d] => { results := [.lit (.bool true)], args := [d] }
  | _ => none }
def fnExactOpenEdgesRow : OpenClaim := { program := "ytnojnikophpnoaa", sum := "d777f6f19b9a2c2c76eab9c28016d32c801a84a02c0332a83341e69e83a7f342", func := "loop.example/g01043/laws.FnExactOpenEdges", spec := "fnExactOpenEdges", unfollowed := true, recurses := true, plainKeys := false, apart := false }
def FnExactOpenEdgesSaid : Prop := fnExactOpenEdgesRow.holds Try.pinned (OpenSpec.ofChange fnExactOpenEdgesSpec)

/-- ITS FALSE NEIGHBOUR: 'it returns false'. Refute it at one input. -/
def fnExactOpenEdgesWrong : ChangeSpec := { name := "fnExactOpenEdges", fn := fun _ => fun
  | [d] => { results := [.lit (.bool false)], args := [d] }
  | _ => none }
def FnExactOpenEdgesWrongFalsely : Prop := fnExactOpenEdgesRow.holds Try.pinned (OpenSpec.ofChange fnExactOpenEdgesWrong)

/-- 'laws.FnExactPartsOf': WHATEVER THE INPUT: true; the input reads as it did. -/
def fnExactPartsOfSpec : ChangeSpec := { name := "fnExactPartsOf", fn := fun _ => fun
  | [d] => { results := [.lit (.bool true)], args := [d] }
  | _ => none }
def fnExactPartsOfRow : OpenClaim := { program := "ytnojnikophpnoaa", sum := "d777f6f19b9a2c2c76eab9c28016d32c801a84a02c0332a83341e69e83a7f342", func := "loop.example/g01043/laws.FnExactPartsOf", spec := "fnExactPartsOf", unfollowed := true, recurses := true, plainKeys := false, apart := false }
def FnExactPartsOfSaid : Prop := fnExactPartsOfRow.holds Try.pinned (OpenSpec.ofChange fnExactPartsOfSpec)

/-- ITS FALSE NEIGHBOUR: 'it returns false'. Refute it at one input. -/
def fnExactPartsOfWrong : ChangeSpec := { name := "fnExactPartsOf", fn := fun _ => fun
  | [d] => { results := [.lit (.bool false)], args := [d] }
  | _ => none }
def FnExactPartsOfWrongFalsely : Prop := fnExactPartsOfRow.holds Try.pinned (OpenSpec.ofChange fnExactPartsOfWrong)

/-- 'laws.FnExactAddSeam': WHATEVER THE INPUT: true; the input reads as it did. -/
def fnExactAddSeamSpec : ChangeSpec := { name := "fnExactAddSeam", fn := fun _ => fun
  | [d1, d2] => { results := [.lit (.bool true)], args := [d1, d2] }
  | _ => none }
def fnExactAddSeamRow : OpenClaim := { program := "ytnojnikophpnoaa", sum := "d777f6f19b9a2c2c76eab9c28016d32c801a84a02c0332a83341e69e83a7f342", func := "loop.example/g01043/laws.FnExactAddSeam", spec := "fnExactAddSeam", plainKeys := false, apart := false }
def FnExactAddSeamSaid : Prop := fnExactAddSeamRow.holds Try.pinned (OpenSpec.ofChange fnExactAddSeamSpec)

/-- ITS FALSE NEIGHBOUR: 'it returns false'. Refute it at one input. -/
def fnExactAddSeamWrong : ChangeSpec := { name := "fnExactAddSeam", fn := fun _ => fun
  | [d1, d2] => { results := [.lit (.bool false)], args := [d1, d2] }
  | _ => none }
def FnExactAddSeamWrongFalsely : Prop := fnExactAddSeamRow.holds Try.pinned (OpenSpec.ofChange fnExactAddSeamWrong)

/-- 'laws.FnExactOpeningsOf': WHATEVER THE INPUT: true; the input reads as it did. -/
def fnExactOpeningsOfSpec : ChangeSpec := { name := "fnExactOpeningsOf", fn := fun _ => fun
  | [d] => { results := [.lit (.bool true)], args := [d] }
  | _ => none }
def fnExactOpeningsOfRow : OpenClaim := { program := "ytnojnikophpnoaa", sum := "d777f6f19b9a2c2c76eab9c28016d32c801a84a02c0332a83341e69e83a7f342", func := "loop.example/g01043/laws.FnExactOpeningsOf", spec := "fnExactOpeningsOf", unfollowed := true, recurses := true, plainKeys := false, apart := false }
def FnExactOpeningsOfSaid : Prop := fnExactOpeningsOfRow.holds Try.pinned (OpenSpec.ofChange fnExactOpeningsOfSpec)

/-- ITS FALSE NEIGHBOUR: 'it returns false'. Refute it at one input. -/
def fnExactOpeningsOfWrong : ChangeSpec := { name := "fnExactOpeningsOf", fn := fun _ => fun
  | [d] => { results := [.lit (.bool false)], args := [d] }
  | _ => none }
def FnExactOpeningsOfWrongFalsely : Prop := fnExactOpeningsOfRow.holds Try.pinned (OpenSpec.ofChange fnExactOpeningsOfWrong)

/-- 'laws.FnExactCornersOf': WHATEVER THE INPUT: true; the input reads as it did. -/
def fnExactCornersOfSpec : ChangeSpec := { name := "fnExactCornersOf", fn := fun _ => fun
  | [d] => { results := [.lit (.bool true)], args := [d] }
  | _ => none }
def fnExactCornersOfRow : OpenClaim := { program := "ytnojnikophpnoaa", sum := "d777f6f19b9a2c2c76eab9c28016d32c801a84a02c0332a83341e69e83a7f342", func := "loop.example/g01043/laws.FnExactCornersOf", spec := "fnExactCornersOf", unfollowed := true, recurses := true, plainKeys := false, apart := false }
def FnExactCornersOfSaid : Prop := fnExactCornersOfRow.holds Try.pinned (OpenSpec.ofChange fnExactCornersOfSpec)

/-- ITS FALSE NEIGHBOUR: 'it returns false'. Refute it at one input. -/
def fnExactCornersOfWrong : ChangeSpec := { name := "fnExactCornersOf", fn := fun _ => fun
  | [d] => { results := [.lit (.bool false)], args := [d] }
  | _ => none }
def FnExactCornersOfWrongFalsely : Prop := fnExactCornersOfRow.holds Try.pinned (OpenSpec.ofChange fnExactCornersOfWrong)

/-- 'laws.FnExactEulerOf': WHATEVER THE INPUT: true; the input reads as it did. -/
def fnExactEulerOfSpec : ChangeSpec := { name := "fnExactEulerOf", fn := fun _ => fun
  | [d] => { results := [.lit (.bool true)], args := [d] }
  | _ => none }
def fnExactEulerOfRow : OpenClaim := { program := "ytnojnikophpnoaa", sum := "d777f6f19b9a2c2c76eab9c28016d32c801a84a02c0332a83341e69e83a7f342", func := "loop.example/g01043/laws.FnExactEulerOf", spec := "fnExactEulerOf", unfollowed := true, recurses := true, plainKeys := false, apart := false }
def FnExactEulerOfSaid : Prop := fnExactEulerOfRow.holds Try.pinned (OpenSpec.ofChange fnExactEulerOfSpec)

/-- ITS FALSE NEIGHBOUR: 'it returns false'. Refute it at one input. -/
def fnExactEulerOfWrong : ChangeSpec := { name := "fnExactEulerOf", fn := fun _ => fun
  | [d] => { results := [.lit (.bool false)], args := [d] }
  | _ => none }
def FnExactEulerOfWrongFalsely : Prop := fnExactEulerOfRow.holds Try.pinned (OpenSpec.ofChange fnExactEulerOfWrong)

/-- 'laws.FnExactFirstFault': WHATEVER THE INPUT: true; the input reads as it did. -/
def fnExactFirstFaultSpec : ChangeSpec := { name := "fnExactFirstFault", fn := fun _ => fun
  | [d1, d2] => { results := [.lit (.bool true)], args := [d1, d2] }
  | _ => none }
def fnExactFirstFaultRow : OpenClaim := { program := "ytnojnikophpnoaa", sum := "d777f6f19b9a2c2c76eab9c28016d32c801a84a02c0332a83341e69e83a7f342", func := "loop.example/g01043/laws.FnExactFirstFault", spec := "fnExactFirstFault", plainKeys := false, apart := false }
def FnExactFirstFaultSaid : Prop := fnExactFirstFaultRow.holds Try.pinned (OpenSpec.ofChange fnExactFirstFaultSpec)

/-- ITS FALSE NEIGHBOUR: 'it returns false'. Refute it at one input. -/
def fnExactFirstFaultWrong : ChangeSpec := { name := "fnExactFirstFault", fn := fun _ => fun
  | [d1, d2] => { results := [.lit (.bool false)], args := [d1, d2] }
  | _ => none }
def FnExactFirstFaultWrongFalsely : Prop := fnExactFirstFaultRow.holds Try.pinned (OpenSpec.ofChange fnExactFirstFaultWrong)

/- THE SECOND FORM. 'bulk': how many values and letters a reading holds, each counted each time it is reached (what is shared counts as often as it is met; a slice's spare places count too). A statement '..UptoSaid' is the law's where the arguments, and the package variables that the reading takes, are together of bulk at most 1048576: NARROWER than '..Said'. Prove '..Said' where nothing that the law and all that it calls make is longer than what came in: it says more and counts as full. Else prove '..UptoSaid'. A law counts once. -/
mutual
def uptoBulk {H : Type} : DataW H → Nat
  | .lit (.string bytes) => bytes.length + 1
  | .lit _ => 1
  | .nil => 1
  | .ptr d => uptoBulk d + 1
  | .slice elems spare => uptoBulkAll elems + uptoBulkAll spare + 1
  | .agg parts => uptoBulkAll parts + 1
  | .iface _ d => uptoBulk d + 1
  | .map entries => uptoBulkEntries entries + 1
  | .held _ => 1
def uptoBulkAll {H : Type} : List (DataW H) → Nat
  | [] => 0
  | d :: r => uptoBulk d + uptoBulkAll r
def uptoBulkEntries {H : Type} : List (Lit × DataW H) → Nat
  | [] => 0
  | x :: r => uptoBulkEntry x + uptoBulkEntries r
def uptoBulkEntry {H : Type} : Lit × DataW H → Nat
  | (.string bytes, d) => bytes.length + uptoBulk d + 1
  | (_, d) => uptoBulk d + 1
 end
def uptoSmall : (H : Type) → List (DataW H) → Bool := fun _ ds => decide (uptoBulkAll ds ≤ 1048576)
def OpenSpec.upto (s : _root_.Go.ChangeSpec) : _root_.Go.OpenSpec := { _root_.Go.OpenSpec.ofChange s with cond := some uptoSmall }

/-- 'laws.FnExactSamePattern', WHERE WHAT IT READS IS OF BULK AT MOST 1048576: true; the input reads as it did. -/
def fnExactSamePatternUptoRow : OpenClaim := { program := "ytnojnikophpnoaa", sum := "d777f6f19b9a2c2c76eab9c28016d32c801a84a02c0332a83341e69e83a7f342", func := "loop.example/g01043/laws.FnExactSamePattern", spec := "fnExactSamePattern", unfollowed := true, recurses := true, plainKeys := false, apart := false, narrowed := true }
def FnExactSamePatternUptoSaid : Prop := fnExactSamePatternUptoRow.holds Try.pinned (OpenSpec.upto fnExactSamePatternSpec)

/-- 'laws.FnExactValidPattern', WHERE WHAT IT READS IS OF BULK AT MOST 1048576: true; the input reads as it did. -/
def fnExactValidPatternUptoRow : OpenClaim := { program := "ytnojnikophpnoaa", sum := "d777f6f19b9a2c2c76eab9c28016d32c801a84a02c0332a83341e69e83a7f342", func := "loop.example/g01043/laws.FnExactValidPattern", spec := "fnExactValidPattern", plainKeys := false, apart := false, narrowed := true }
def FnExactValidPatternUptoSaid : Prop := fnExactValidPatternUptoRow.holds Try.pinned (OpenSpec.upto fnExactValidPatternSpec)

/-- 'laws.FnExactSeamDifferences', WHERE WHAT IT READS IS OF BULK AT MOST 1048576: true; the input reads as it did. -/
def fnExactSeamDifferencesUptoRow : OpenClaim := { program := "ytnojnikophpnoaa", sum := "d777f6f19b9a2c2c76eab9c28016d32c801a84a02c0332a83341e69e83a7f342", func := "loop.example/g01043/laws.FnExactSeamDifferences", spec := "fnExactSeamDifferences", unfollowed := true, recurses := true, plainKeys := false, apart := false, narrowed := true }
def FnExactSeamDifferencesUptoSaid : Prop := fnExactSeamDifferencesUptoRow.holds Try.pinned (OpenSpec.upto fnExactSeamDifferencesSpec)

/-- 'laws.FnExactOpenEdges', WHERE WHAT IT READS IS OF BULK AT MOST 1048576: true; the input reads as it did. -/
def fnExactOpenEdgesUptoRow : OpenClaim := { program := "ytnojnikophpnoaa", sum := "d777f6f19b9a2c2c76eab9c28016d32c801a84a02c0332a83341e69e83a7f342", func := "loop.example/g01043/laws.FnExactOpenEdges", spec := "fnExactOpenEdges", unfollowed := true, recurses := true, plainKeys := false, apart := false, narrowed := true }
def FnExactOpenEdgesUptoSaid : Prop := fnExactOpenEdgesUptoRow.holds Try.pinned (OpenSpec.upto fnExactOpenEdgesSpec)

/-- 'laws.FnExactPartsOf', WHERE WHAT IT READS IS OF BULK AT MOST 1048576: true; the input reads as it did. -/
def fnExactPartsOfUptoRow : OpenClaim := { program := "ytnojnikophpnoaa", sum := "d777f6f19b9a2c2c76eab9c28016d32c801a84a02c0332a83341e69e83a7f342", func := "loop.example/g01043/laws.FnExactPartsOf", spec := "fnExactPartsOf", unfollowed := true, recurses := true, plainKeys := false, apart := false, narrowed := true }
def FnExactPartsOfUptoSaid : Prop := fnExactPartsOfUptoRow.holds Try.pinned (OpenSpec.upto fnExactPartsOfSpec)

/-- 'laws.FnExactAddSeam', WHERE WHAT IT READS IS OF BULK AT MOST 1048576: true; the input reads as it did. -/
def fnExactAddSeamUptoRow : OpenClaim := { program := "ytnojnikophpnoaa", sum := "d777f6f19b9a2c2c76eab9c28016d32c801a84a02c0332a83341e69e83a7f342", func := "loop.example/g01043/laws.FnExactAddSeam", spec := "fnExactAddSeam", plainKeys := false, apart := false, narrowed := true }
def FnExactAddSeamUptoSaid : Prop := fnExactAddSeamUptoRow.holds Try.pinned (OpenSpec.upto fnExactAddSeamSpec)

/-- 'laws.FnExactOpeningsOf', WHERE WHAT IT READS IS OF BULK AT MOST 1048576: true; the input reads as it did. -/
def fnExactOpeningsOfUptoRow : OpenClaim := { program := "ytnojnikophpnoaa", sum := "d777f6f19b9a2c2c76eab9c28016d32c801a84a02c0332a83341e69e83a7f342", func := "loop.example/g01043/laws.FnExactOpeningsOf", spec := "fnExactOpeningsOf", unfollowed := true, recurses := true, plainKeys := false, apart := false, narrowed := true }
def FnExactOpeningsOfUptoSaid : Prop := fnExactOpeningsOfUptoRow.holds Try.pinned (OpenSpec.upto fnExactOpeningsOfSpec)

/-- 'laws.FnExactCornersOf', WHERE WHAT IT READS IS OF BULK AT MOST 1048576: true; the input reads as it did. -/
def fnExactCornersOfUptoRow : OpenClaim := { program := "ytnojnikophpnoaa", sum := "d777f6f19b9a2c2c76eab9c28016d32c801a84a02c0332a83341e69e83a7f342", func := "loop.example/g01043/laws.FnExactCornersOf", spec := "fnExactCornersOf", unfollowed := true, recurses := true, plainKeys := false, apart := false, narrowed := true }
def FnExactCornersOfUptoSaid : Prop := fnExactCornersOfUptoRow.holds Try.pinned (OpenSpec.upto fnExactCornersOfSpec)

/-- 'laws.FnExactEulerOf', WHERE WHAT IT READS IS OF BULK AT MOST 1048576: true; the input reads as it did. -/
def fnExactEulerOfUptoRow : OpenClaim := { program := "ytnojnikophpnoaa", sum := "d777f6f19b9a2c2c76eab9c28016d32c801a84a02c0332a83341e69e83a7f342", func := "loop.example/g01043/laws.FnExactEulerOf", spec := "fnExactEulerOf", unfollowed := true, recurses := true, plainKeys := false, apart := false, narrowed := true }
def FnExactEulerOfUptoSaid : Prop := fnExactEulerOfUptoRow.holds Try.pinned (OpenSpec.upto fnExactEulerOfSpec)

/-- 'laws.FnExactFirstFault', WHERE WHAT IT READS IS OF BULK AT MOST 1048576: true; the input reads as it did. -/
def fnExactFirstFaultUptoRow : OpenClaim := { program := "ytnojnikophpnoaa", sum := "d777f6f19b9a2c2c76eab9c28016d32c801a84a02c0332a83341e69e83a7f342", func := "loop.example/g01043/laws.FnExactFirstFault", spec := "fnExactFirstFault", plainKeys := false, apart := false, narrowed := true }
def FnExactFirstFaultUptoSaid : Prop := fnExactFirstFaultUptoRow.holds Try.pinned (OpenSpec.upto fnExactFirstFaultSpec)

end Rows
end Go.Proofs.Ytnojnikophpnoaa
