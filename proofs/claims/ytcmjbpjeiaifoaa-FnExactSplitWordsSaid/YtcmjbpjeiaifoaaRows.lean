/-
  No cell of these rows narrows 'for every input' (looked for: loops, veiled, ifaces, maps, wideKeys, modest, calm, conditions, laid).
  DERIVED. THE GIVEN ROWS OF THIS SEAT. 8 by the template 'for every input the law returns true; each argument reads behind the call as it read before'; 0 by the template 'total and deterministic' (their statements: YtcmjbpjeiaifoaaTotals.lean).
  GIVEN WITH THE SEED: the statements are not yours to turn. If you find one false, say at which input.
  Laid BY PROGRAM, IN A SANDBOX (cutbox-rows.mjs): the forced cells as the released guide's own fill.sh prints them over the translation 460d4777f8a37c10… (all of the seat's roots in one cut). By AI agents, Wed Nov 11 2026. No macro, syntax, notation, axiom, sorry.
-/
import Derived.Test.YtcmjbpjeiaifoaaChecked
import GoSem.Claim
import GoSem.ClaimJoined
import GoSem.ClaimMapViews
import Derived.JoinedTies
import Derived.KernelRfl
namespace Go.Proofs.Ytcmjbpjeiaifoaa
/- THE CELL 'sum', in the pinned program and in every row, IS THE sha256 OF THE DUMP (.gsa) THAT YtcmjbpjeiaifoaaProg.lean LOADS. Nothing in Lean hashes anything: it is a label: what it is worth is what the hold of that sum in a sandbox is worth. -/
noncomputable def Try.pinned : Pinned := { name := "ytcmjbpjeiaifoaa", sum := "460d4777f8a37c101be47b8f430e2116a558ca60320ac5869fd01f29e858b7ee", checked := Try.checked }
namespace Rows
def none {H : Type} : Left H := { results := [], args := [] }

/-- 'laws.FnExactGrowthOf': WHATEVER THE INPUT: true; the input reads as it did. -/
def fnExactGrowthOfSpec : ChangeSpec := { name := "fnExactGrowthOf", fn := fun _ => fun
  | [d1, d2] => { results := [.lit (.bool true)], args := [d1, d2] }
  | _ => none }
def fnExactGrowthOfRow : OpenClaim := { program := "ytcmjbpjeiaifoaa", sum := "460d4777f8a37c101be47b8f430e2116a558ca60320ac5869fd01f29e858b7ee", func := "loop.example/g01043/laws.FnExactGrowthOf", spec := "fnExactGrowthOf", apart := false }
def FnExactGrowthOfSaid : Prop := fnExactGrowthOfRow.holds Try.pinned (OpenSpec.ofChange fnExactGrowthOfSpec)

/-- ITS FALSE NEIGHBOUR: 'it returns false'. Refute it at one input. -/
def fnExactGrowthOfWrong : ChangeSpec := { name := "fnExactGrowthOf", fn := fun _ => fun
  | [d1, d2] => { results := [.lit (.bool false)], args := [d1, d2] }
  | _ => none }
def FnExactGrowthOfWrongFalsely : Prop := fnExactGrowthOfRow.holds Try.pinned (OpenSpec.ofChange fnExactGrowthOfWrong)

/-- 'laws.FnExactLengthOn': WHATEVER THE INPUT: true; the input reads as it did. -/
def fnExactLengthOnSpec : ChangeSpec := { name := "fnExactLengthOn", fn := fun _ => fun
  | [d1, d2, d3] => { results := [.lit (.bool true)], args := [d1, d2, d3] }
  | _ => none }
def fnExactLengthOnRow : OpenClaim := { program := "ytcmjbpjeiaifoaa", sum := "460d4777f8a37c101be47b8f430e2116a558ca60320ac5869fd01f29e858b7ee", func := "loop.example/g01043/laws.FnExactLengthOn", spec := "fnExactLengthOn", apart := false }
def FnExactLengthOnSaid : Prop := fnExactLengthOnRow.holds Try.pinned (OpenSpec.ofChange fnExactLengthOnSpec)

/-- ITS FALSE NEIGHBOUR: 'it returns false'. Refute it at one input. -/
def fnExactLengthOnWrong : ChangeSpec := { name := "fnExactLengthOn", fn := fun _ => fun
  | [d1, d2, d3] => { results := [.lit (.bool false)], args := [d1, d2, d3] }
  | _ => none }
def FnExactLengthOnWrongFalsely : Prop := fnExactLengthOnRow.holds Try.pinned (OpenSpec.ofChange fnExactLengthOnWrong)

/-- 'laws.FnExactFarFeet': WHATEVER THE INPUT: true; the input reads as it did. -/
def fnExactFarFeetSpec : ChangeSpec := { name := "fnExactFarFeet", fn := fun _ => fun
  | [d1, d2] => { results := [.lit (.bool true)], args := [d1, d2] }
  | _ => none }
def fnExactFarFeetRow : OpenClaim := { program := "ytcmjbpjeiaifoaa", sum := "460d4777f8a37c101be47b8f430e2116a558ca60320ac5869fd01f29e858b7ee", func := "loop.example/g01043/laws.FnExactFarFeet", spec := "fnExactFarFeet", recurses := true, apart := false }
def FnExactFarFeetSaid : Prop := fnExactFarFeetRow.holds Try.pinned (OpenSpec.ofChange fnExactFarFeetSpec)

/-- ITS FALSE NEIGHBOUR: 'it returns false'. Refute it at one input. -/
def fnExactFarFeetWrong : ChangeSpec := { name := "fnExactFarFeet", fn := fun _ => fun
  | [d1, d2] => { results := [.lit (.bool false)], args := [d1, d2] }
  | _ => none }
def FnExactFarFeetWrongFalsely : Prop := fnExactFarFeetRow.holds Try.pinned (OpenSpec.ofChange fnExactFarFeetWrong)

/-- 'laws.FnExactJoinFeet': WHATEVER THE INPUT: true; the input reads as it did. -/
def fnExactJoinFeetSpec : ChangeSpec := { name := "fnExactJoinFeet", fn := fun _ => fun
  | [d1, d2] => { results := [.lit (.bool true)], args := [d1, d2] }
  | _ => none }
def fnExactJoinFeetRow : OpenClaim := { program := "ytcmjbpjeiaifoaa", sum := "460d4777f8a37c101be47b8f430e2116a558ca60320ac5869fd01f29e858b7ee", func := "loop.example/g01043/laws.FnExactJoinFeet", spec := "fnExactJoinFeet", recurses := true, apart := false }
def FnExactJoinFeetSaid : Prop := fnExactJoinFeetRow.holds Try.pinned (OpenSpec.ofChange fnExactJoinFeetSpec)

/-- ITS FALSE NEIGHBOUR: 'it returns false'. Refute it at one input. -/
def fnExactJoinFeetWrong : ChangeSpec := { name := "fnExactJoinFeet", fn := fun _ => fun
  | [d1, d2] => { results := [.lit (.bool false)], args := [d1, d2] }
  | _ => none }
def FnExactJoinFeetWrongFalsely : Prop := fnExactJoinFeetRow.holds Try.pinned (OpenSpec.ofChange fnExactJoinFeetWrong)

/-- 'laws.FnExactMiddleFoot': WHATEVER THE INPUT: true; the input reads as it did. -/
def fnExactMiddleFootSpec : ChangeSpec := { name := "fnExactMiddleFoot", fn := fun _ => fun
  | [d] => { results := [.lit (.bool true)], args := [d] }
  | _ => none }
def fnExactMiddleFootRow : OpenClaim := { program := "ytcmjbpjeiaifoaa", sum := "460d4777f8a37c101be47b8f430e2116a558ca60320ac5869fd01f29e858b7ee", func := "loop.example/g01043/laws.FnExactMiddleFoot", spec := "fnExactMiddleFoot", recurses := true, apart := false }
def FnExactMiddleFootSaid : Prop := fnExactMiddleFootRow.holds Try.pinned (OpenSpec.ofChange fnExactMiddleFootSpec)

/-- ITS FALSE NEIGHBOUR: 'it returns false'. Refute it at one input. -/
def fnExactMiddleFootWrong : ChangeSpec := { name := "fnExactMiddleFoot", fn := fun _ => fun
  | [d] => { results := [.lit (.bool false)], args := [d] }
  | _ => none }
def FnExactMiddleFootWrongFalsely : Prop := fnExactMiddleFootRow.holds Try.pinned (OpenSpec.ofChange fnExactMiddleFootWrong)

/-- 'laws.FnExactSplitWords': WHATEVER THE INPUT: true; the input reads as it did. -/
def fnExactSplitWordsSpec : ChangeSpec := { name := "fnExactSplitWords", fn := fun _ => fun
  | [d] => { results := [.lit (.bool true)], args := [d] }
  | _ => none }
def fnExactSplitWordsRow : OpenClaim := { program := "ytcmjbpjeiaifoaa", sum := "460d4777f8a37c101be47b8f430e2116a558ca60320ac5869fd01f29e858b7ee", func := "loop.example/g01043/laws.FnExactSplitWords", spec := "fnExactSplitWords", unfollowed := true, recurses := true, apart := false }
def FnExactSplitWordsSaid : Prop := fnExactSplitWordsRow.holds Try.pinned (OpenSpec.ofChange fnExactSplitWordsSpec)

/-- ITS FALSE NEIGHBOUR: 'it returns false'. Refute it at one input. -/
def fnExactSplitWordsWrong : ChangeSpec := { name := "fnExactSplitWords", fn := fun _ => fun
  | [d] => { results := [.lit (.bool false)], args := [d] }
  | _ => none }
def FnExactSplitWordsWrongFalsely : Prop := fnExactSplitWordsRow.holds Try.pinned (OpenSpec.ofChange fnExactSplitWordsWrong)

/-- 'laws.FnGrowth': WHATEVER THE INPUT: true; the input reads as it did. -/
def fnGrowthSpec : ChangeSpec := { name := "fnGrowth", fn := fun _ => fun
  | [d1, d2] => { results := [.lit (.bool true)], args := [d1, d2] }
  | _ => none }
def fnGrowthRow : OpenClaim := { program := "ytcmjbpjeiaifoaa", sum := "460d4777f8a37c101be47b8f430e2116a558ca60320ac5869fd01f29e858b7ee", func := "loop.example/g01043/laws.FnGrowth", spec := "fnGrowth", apart := false }
def FnGrowthSaid : Prop := fnGrowthRow.holds Try.pinned (OpenSpec.ofChange fnGrowthSpec)

/-- ITS FALSE NEIGHBOUR: 'it returns false'. Refute it at one input. -/
def fnGrowthWrong : ChangeSpec := { name := "fnGrowth", fn := fun _ => fun
  | [d1, d2] => { results := [.lit (.bool false)], args := [d1, d2] }
  | _ => none }
def FnGrowthWrongFalsely : Prop := fnGrowthRow.holds Try.pinned (OpenSpec.ofChange fnGrowthWrong)

/-- 'laws.FnMiddles': WHATEVER THE INPUT: true; the input reads as it did. -/
def fnMiddlesSpec : ChangeSpec := { name := "fnMiddles", fn := fun _ => fun
  | [d1, d2] => { results := [.lit (.bool true)], args := [d1, d2] }
  | _ => none }
def fnMiddlesRow : OpenClaim := { program := "ytcmjbpjeiaifoaa", sum := "460d4777f8a37c101be47b8f430e2116a558ca60320ac5869fd01f29e858b7ee", func := "loop.example/g01043/laws.FnMiddles", spec := "fnMiddles", recurses := true, apart := false }
def FnMiddlesSaid : Prop := fnMiddlesRow.holds Try.pinned (OpenSpec.ofChange fnMiddlesSpec)

/-- ITS FALSE NEIGHBOUR: 'it returns false'. Refute it at one input. -/
def fnMiddlesWrong : ChangeSpec := { name := "fnMiddles", fn := fun _ => fun
  | [d1, d2] => { results := [.lit (.bool false)], args := [d1, d2] }
  | _ => none }
def FnMiddlesWrongFalsely : Prop := fnMiddlesRow.holds Try.pinned (OpenSpec.ofChange fnMiddlesWrong)

/- THE SECOND FORM. 'bulk': how many values and letters a reading holds, each counted each time it is reached (what is shared counts as often as it is met; a slice's spare places count too). A statement '..UptoSaid' is the law's where the arguments, and the package variables that the reading takes, are together of bulk at most 1048576: NARROWER than '..Said'. Prove '..Said' where nothing that the law and all that it calls make is longer than what came in: it says more and counts as full. Else prove '..UptoSaid'. A law counts once. -/
mutual
def uptoBulk {H : Type} : DataW H → Nat
  | .lit (.string bytes) => bytes.length + 1
  | .lit _ => 1
  | .nil => 1
  | .ptr d => uptoBulk d + 1
  | .slice elems spare => uptoBulkAll elems + uptoBulkAll spare + 1
  | .agg parts => uptoBulkAll parts + 1
  | .iface _ d => uptoBulk d + 1
  | .map entries => uptoBulkEntries entries + 1
  | .held _ => 1
def uptoBulkAll {H : Type} : List (DataW H) → Nat
  | [] => 0
  | d :: r => uptoBulk d + uptoBulkAll r
def uptoBulkEntries {H : Type} : List (Lit × DataW H) → Nat
  | [] => 0
  | x :: r => uptoBulkEntry x + uptoBulkEntries r
def uptoBulkEntry {H : Type} : Lit × DataW H → Nat
  | (.string bytes, d) => bytes.length + uptoBulk d + 1
  | (_, d) => uptoBulk d + 1
 end
def uptoSmall : (H : Type) → List (DataW H) → Bool := fun _ ds => decide (uptoBulkAll ds ≤ 1048576)
def OpenSpec.upto (s : _root_.Go.ChangeSpec) : _root_.Go.OpenSpec := { _root_.Go.OpenSpec.ofChange s with cond := some uptoSmall }

/-- 'laws.FnExactGrowthOf', WHERE WHAT IT READS IS OF BULK AT MOST 1048576: true; the input reads as it did. -/
def fnExactGrowthOfUptoRow : OpenClaim := { program := "ytcmjbpjeiaifoaa", sum := "460d4777f8a37c101be47b8f430e2116a558ca60320ac5869fd01f29e858b7ee", func := "loop.example/g01043/laws.FnExactGrowthOf", spec := "fnExactGrowthOf", apart := false, narrowed := true }
def FnExactGrowthOfUptoSaid : Prop := fnExactGrowthOfUptoRow.holds Try.pinned (OpenSpec.upto fnExactGrowthOfSpec)

/-- 'laws.FnExactLengthOn', WHERE WHAT IT READS IS OF BULK AT MOST 1048576: true; the input reads as it did. -/
def fnExactLengthOnUptoRow : OpenClaim := { program := "ytcmjbpjeiaifoaa", sum := "460d4777f8a37c101be47b8f430e2116a558ca60320ac5869fd01f29e858b7ee", func := "loop.example/g01043/laws.FnExactLengthOn", spec := "fnExactLengthOn", apart := false, narrowed := true }
def FnExactLengthOnUptoSaid : Prop := fnExactLengthOnUptoRow.holds Try.pinned (OpenSpec.upto fnExactLengthOnSpec)

/-- 'laws.FnExactFarFeet', WHERE WHAT IT READS IS OF BULK AT MOST 1048576: true; the input reads as it did. -/
def fnExactFarFeetUptoRow : OpenClaim := { program := "ytcmjbpjeiaifoaa", sum := "460d4777f8a37c101be47b8f430e2116a558ca60320ac5869fd01f29e858b7ee", func := "loop.example/g01043/laws.FnExactFarFeet", spec := "fnExactFarFeet", recurses := true, apart := false, narrowed := true }
def FnExactFarFeetUptoSaid : Prop := fnExactFarFeetUptoRow.holds Try.pinned (OpenSpec.upto fnExactFarFeetSpec)

/-- 'laws.FnExactJoinFeet', WHERE WHAT IT READS IS OF BULK AT MOST 1048576: true; the input reads as it did. -/
def fnExactJoinFeetUptoRow : OpenClaim := { program := "ytcmjbpjeiaifoaa", sum := "460d4777f8a37c101be47b8f430e2116a558ca60320ac5869fd01f29e858b7ee", func := "loop.example/g01043/laws.FnExactJoinFeet", spec := "fnExactJoinFeet", recurses := true, apart := false, narrowed := true }
def FnExactJoinFeetUptoSaid : Prop := fnExactJoinFeetUptoRow.holds Try.pinned (OpenSpec.upto fnExactJoinFeetSpec)

/-- 'laws.FnExactMiddleFoot', WHERE WHAT IT READS IS OF BULK AT MOST 1048576: true; the input reads as it did. -/
def fnExactMiddleFootUptoRow : OpenClaim := { program := "ytcmjbpjeiaifoaa", sum := "460d4777f8a37c101be47b8f430e2116a558ca60320ac5869fd01f29e858b7ee", func := "loop.example/g01043/laws.FnExactMiddleFoot", spec := "fnExactMiddleFoot", recurses := true, apart := false, narrowed := true }
def FnExactMiddleFootUptoSaid : Prop := fnExactMiddleFootUptoRow.holds Try.pinned (OpenSpec.upto fnExactMiddleFootSpec)

/-- 'laws.FnExactSplitWords', WHERE WHAT IT READS IS OF BULK AT MOST 1048576: true; the input reads as it did. -/
def fnExactSplitWordsUptoRow : OpenClaim := { program := "ytcmjbpjeiaifoaa", sum := "460d4777f8a37c101be47b8f430e2116a558ca60320ac5869fd01f29e858b7ee", func := "loop.example/g01043/laws.FnExactSplitWords", spec := "fnExactSplitWords", unfollowed := true, recurses := true, apart := false, narrowed := true }
def FnExactSplitWordsUptoSaid : Prop := fnExactSplitWordsUptoRow.holds Try.pinned (OpenSpec.upto fnExactSplitWordsSpec)

/-- 'laws.FnGrowth', WHERE WHAT IT READS IS OF BULK AT MOST 1048576: true; the input reads as it did. -/
def fnGrowthUptoRow : OpenClaim := { program := "ytcmjbpjeiaifoaa", sum := "460d4777f8a37c101be47b8f430e2116a558ca60320ac5869fd01f29e858b7ee", func := "loop.example/g01043/laws.FnGrowth", spec := "fnGrowth", apart := false, narrowed := true }
def FnGrowthUptoSaid : Prop := fnGrowthUptoRow.holds Try.pinned (OpenSpec.upto fnGrowthSpec)

/-- 'laws.FnMiddles', WHERE WHAT IT READS IS OF BULK AT MOST 1048576: true; the input reads as it did. -/
def fnMiddlesUptoRow : OpenClaim := { program := "ytcmjbpjeiaifoaa", sum := "460d4777f8a37c101be47b8f430e2116a558ca60320ac5869fd01f29e858b7ee", func := "loop.example/g01043/laws.FnMiddles", spec := "fnMiddles", recurses := true, apart := false, narrowed := true }
def FnMiddlesUptoSaid : Prop := fnMiddlesUptoRow.holds Try.pinned (OpenSpec.upto fnMiddlesSpec)

end Rows
end Go.Proofs.Ytcmjbpjeiaifoaa
