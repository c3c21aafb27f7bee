/-
  No cell of these rows narrows 'for every input' (looked for: loops, veiled, ifaces, maps, wideKeys, modest, calm, conditions, laid).
  DERIVED. THE GIVEN ROWS OF THIS SEAT. 12 by the template 'for every input the law returns true; each argument reads behind the call as it read before'; 0 by the template 'total and deterministic' (their statements: YtoincfhhafpekaaTotals.lean).
  GIVEN WITH THE SEED: the statements are not yours to turn. If you find one false, say at which input.
  Laid BY PROGRAM, IN A SANDBOX (cutbox-rows.mjs): the forced cells as the released guide's own fill.sh prints them over the translation 60344366222f3971… (all of the seat's roots in one cut). By AI agents, Wed Nov 11 2026. No macro, syntax, notation, axiom, sorry.
-/
import Derived.Test.YtoincfhhafpekaaChecked
import GoSem.Claim
import GoSem.ClaimJoined
import GoSem.ClaimMapViews
import Derived.JoinedTies
import Derived.KernelRfl
namespace Go.Proofs.Ytoincfhhafpekaa
/- THE CELL 'sum', in the pinned program and in every row, IS THE sha256 OF THE DUMP (.gsa) THAT YtoincfhhafpekaaProg.lean LOADS. Nothing in Lean hashes anything: it is a label: what it is worth is what the hold of that sum in a sandbox is worth. -/
noncomputable def Try.pinned : Pinned := { name := "ytoincfhhafpekaa", sum := "60344366222f3971cce8ab61baa0a5e1777b72c69a2ea6043054ff7e79d3ca3e", checked := Try.checked }
namespace Rows
def none {H : Type} : Left H := { results := [], args := [] }

/-- 'laws.FnExactMiddleFoot': WHATEVER THE INPUT: true; the input reads as it did. -/
def fnExactMiddleFootSpec : ChangeSpec := { name := "fnExactMiddleFoot", fn := fun _ => fun
  | [d] => { results := [.lit (.bool true)], args := [d] }
  | _ => none }
def fnExactMiddleFootRow : OpenClaim := { program := "ytoincfhhafpekaa", sum := "60344366222f3971cce8ab61baa0a5e1777b72c69a2ea6043054ff7e79d3ca3e", func := "loop.example/g01043/laws.FnExactMiddleFoot", spec := "fnExactMiddleFoot", recurses := true, apart := false }
def FnExactMiddleFootSaid : Prop := fnExactMiddleFootRow.holds Try.pinned (OpenSpec.ofChange fnExactMiddleFootSpec)

/-- ITS FALSE NEIGHBOUR: 'it returns false'. Refute it at one input. -/
def fnExactMiddleFootWrong : ChangeSpec := { name := "fnExactMiddleFoot", fn := fun _ => fun
  | [d] => { results := [.lit (.bool false)], args := [d] }
  | _ => none }
def FnExactMiddleFootWrongFalsely : Prop := fnExactMiddleFootRow.holds Try.pinned (OpenSpec.ofChange fnExactMiddleFootWrong)

/-- 'laws.FnExactFarFeet': WHATEVER THE INPUT: true; the input reads as it did. -/
def fnExactFarFeetSpec : ChangeSpec := { name := "fnExactFarFeet", fn := fun _ => fun
  | [d1, d2] => { results := [.lit (.bool true)], args := [d1, d2] }
  | _ => none }
def fnExactFarFeetRow : OpenClaim := { program := "ytoincfhhafpekaa", sum := "60344366222f3971cce8ab61baa0a5e1777b72c69a2ea6043054ff7e79d3ca3e", func := "loop.example/g01043/laws.FnExactFarFeet", spec := "fnExactFarFeet", recurses := true, apart := false }
def FnExactFarFeetSaid : Prop := fnExactFarFeetRow.holds Try.pinned (OpenSpec.ofChange fnExactFarFeetSpec)

/-- ITS FALSE NEIGHBOUR: 'it returns false'. Refute it at one input. -/
def fnExactFarFeetWrong : ChangeSpec := { name := "fnExactFarFeet", fn := fun _ => fun
  | [d1, d2] => { results := [.lit (.bool false)], args := [d1, d2] }
  | _ => none }
def FnExactFarFeetWrongFalsely : Prop := fnExactFarFeetRow.holds Try.pinned (OpenSpec.ofChange fnExactFarFeetWrong)

/-- 'laws.FnExactJoinFeet': WHATEVER THE INPUT: true; the input reads as it did. -/
def fnExactJoinFeetSpec : ChangeSpec := { name := "fnExactJoinFeet", fn := fun _ => fun
  | [d1, d2] => { results := [.lit (.bool true)], args := [d1, d2] }
  | _ => none }
def fnExactJoinFeetRow : OpenClaim := { program := "ytoincfhhafpekaa", sum := "60344366222f3971cce8ab61baa0a5e1777b72c69a2ea6043054ff7e79d3ca3e", func := "loop.example/g01043/laws.FnExactJoinFeet", spec := "fnExactJoinFeet", recurses := true, apart := false }
def FnExactJoinFeetSaid : Prop := fnExactJoinFeetRow.holds Try.pinned (OpenSpec.ofChange fnExactJoinFeetSpec)

/-- ITS FALSE NEIGHBOUR: 'it returns false'. Refute it at one input. -/
def fnExactJoinFeetWrong : ChangeSpec := { name := "fnExactJoinFeet", fn := fun _ => fun
  | [d1, d2] => { results := [.lit (.bool false)], args := [d1, d2] }
  | _ => none }
def FnExactJoinFeetWrongFalsely : Prop := fnExactJoinFeetRow.holds Try.pinned (OpenSpec.ofChange fnExactJoinFeetWrong)

/-- 'laws.FnExactGrowthOf': WHATEVER THE INPUT: true; the input reads as it did. -/
def fnExactGrowthOfSpec : ChangeSpec := { name := "fnExactGrowthOf", fn := fun _ => fun
  | [d1, d2] => { results := [.lit (.bool true)], args := [d1, d2] }
  | _ => none }
def fnExactGrowthOfRow : OpenClaim := { program := "ytoincfhhafpekaa", sum := "60344366222f3971cce8ab61baa0a5e1777b72c69a2ea6043054ff7e79d3ca3e", func := "loop.example/g01043/laws.FnExactGrowthOf", spec := "fnExactGrowthOf", apart := false }
def FnExactGrowthOfSaid : Prop := fnExactGrowthOfRow.holds Try.pinned (OpenSpec.ofChange fnExactGrowthOfSpec)

/-- ITS FALSE NEIGHBOUR: 'it returns false'. Refute it at one input. -/
def fnExactGrowthOfWrong : ChangeSpec := { name := "fnExactGrowthOf", fn := fun _ => fun
  | [d1, d2] => { results := [.lit (.bool false)], args := [d1, d2] }
  | _ => none }
def FnExactGrowthOfWrongFalsely : Prop := fnExactGrowthOfRow.holds Try.pinned (OpenSpec.ofChange fnExactGrowthOfWrong)

/-- 'laws.FnExactLengthOn': WHATEVER THE INPUT: true; the input reads as it did. -/
def fnExactLengthOnSpec : ChangeSpec := { name := "fnExactLengthOn", fn := fun _ => fun
  | [d1, d2, d3] => { results := [.lit (.bool true)], args := [d1, d2, d3] }
  | _ => none }
def fnExactLengthOnRow : OpenClaim := { program := "ytoincfhhafpekaa", sum := "60344366222f3971cce8ab61baa0a5e1777b72c69a2ea6043054ff7e79d3ca3e", func := "loop.example/g01043/laws.FnExactLengthOn", spec := "fnExactLengthOn", apart := false }
def FnExactLengthOnSaid : Prop := fnExactLengthOnRow.holds Try.pinned (OpenSpec.ofChange fnExactLengthOnSpec)

/-- ITS FALSE NEIGHBOUR: 'it returns false'. Refute it at one input. -/
def fnExactLengthOnWrong : ChangeSpec := { name := "fnExactLengthOn", fn := fun _ => fun
  | [d1, d2, d3] => { results := [.lit (.bool false)], args := [d1, d2, d3] }
  | _ => none }
def FnExactLengthOnWrongFalsely : Prop := fnExactLengthOnRow.holds Try.pinned (OpenSpec.ofChange fnExactLengthOnWrong)

/-- 'laws.FnExactValidLasts': WHATEVER THE INPUT: true; the input reads as it did. -/
def fnExactValidLastsSpec : ChangeSpec := { name := "fnExactValidLasts", fn := fun _ => fun
  | [d] => { results := [.lit (.bool true)], args := [d] }
  | _ => none }
def fnExactValidLastsRow : OpenClaim := { program := "ytoincfhhafpekaa", sum := "60344366222f3971cce8ab61baa0a5e1777b72c69a2ea6043054ff7e79d3ca3e", func := "loop.example/g01043/laws.FnExactValidLasts", spec := "fnExactValidLasts", apart := false }
def FnExactValidLastsSaid : Prop := fnExactValidLastsRow.holds Try.pinned (OpenSpec.ofChange fnExactValidLastsSpec)

/-- ITS FALSE NEIGHBOUR: 'it returns false'. Refute it at one input. -/
def fnExactValidLastsWrong : ChangeSpec := { name := "fnExactValidLasts", fn := fun _ => fun
  | [d] => { results := [.lit (.bool false)], args := [d] }
  | _ => none }
def FnExactValidLastsWrongFalsely : Prop := fnExactValidLastsRow.holds Try.pinned (OpenSpec.ofChange fnExactValidLastsWrong)

/-- 'laws.FnExactSameLasts': WHATEVER THE INPUT: true; the input reads as it did. -/
def fnExactSameLastsSpec : ChangeSpec := { name := "fnExactSameLasts", fn := fun _ => fun
  | [d1, d2] => { results := [.lit (.bool true)], args := [d1, d2] }
  | _ => none }
def fnExactSameLastsRow : OpenClaim := { program := "ytoincfhhafpekaa", sum := "60344366222f3971cce8ab61baa0a5e1777b72c69a2ea6043054ff7e79d3ca3e", func := "loop.example/g01043/laws.FnExactSameLasts", spec := "fnExactSameLasts", apart := false }
def FnExactSameLastsSaid : Prop := fnExactSameLastsRow.holds Try.pinned (OpenSpec.ofChange fnExactSameLastsSpec)

/-- ITS FALSE NEIGHBOUR: 'it returns false'. Refute it at one input. -/
def fnExactSameLastsWrong : ChangeSpec := { name := "fnExactSameLasts", fn := fun _ => fun
  | [d1, d2] => { results := [.lit (.bool false)], args := [d1, d2] }
  | _ => none }
def FnExactSameLastsWrongFalsely : Prop := fnExactSameLastsRow.holds Try.pinned (OpenSpec.ofChange fnExactSameLastsWrong)

/-- 'laws.FnExactValidFit': WHATEVER THE INPUT: true; the input reads as it did. -/
def fnExactValidFitSpec : ChangeSpec := { name := "fnExactValidFit", fn := fun _ => fun
  | [d] => { results := [.lit (.bool true)], args := [d] }
  | _ => none }
def fnExactValidFitRow : OpenClaim := { program := "ytoincfhhafpekaa", sum := "60344366222f3971cce8ab61baa0a5e1777b72c69a2ea6043054ff7e79d3ca3e", func := "loop.example/g01043/laws.FnExactValidFit", spec := "fnExactValidFit", apart := false }
def FnExactValidFitSaid : Prop := fnExactValidFitRow.holds Try.pinned (OpenSpec.ofChange fnExactValidFitSpec)

/-- ITS FALSE NEIGHBOUR: 'it returns false'. Refute it at one input. -/
def fnExactValidFitWrong : ChangeSpec := { name := "fnExactValidFit", fn := fun _ => fun
  | [d] => { results := [.lit (.bool false)], args := [d] }
  | _ => none }
def FnExactValidFitWrongFalsely : Prop := fnExactValidFitRow.holds Try.pinned (OpenSpec.ofChange fnExactValidFitWrong)

/-- 'laws.FnExactAddLast': WHATEVER THE INPUT: true; the input reads as it did. -/
def fnExactAddLastSpec : ChangeSpec := { name := "fnExactAddLast", fn := fun _ => fun
  | [d1, d2] => { results := [.lit (.bool true)], args := [d1, d2] }
  | _ => none }
def fnExactAddLastRow : OpenClaim := { program := "ytoincfhhafpekaa", sum := "60344366222f3971cce8ab61baa0a5e1777b72c69a2ea6043054ff7e79d3ca3e", func := "loop.example/g01043/laws.FnExactAddLast", spec := "fnExactAddLast", unfollowed := true, recurses := true, apart := false }
def FnExactAddLastSaid : Prop := fnExactAddLastRow.holds Try.pinned (OpenSpec.ofChange fnExactAddLastSpec)

/-- ITS FALSE NEIGHBOUR: 'it returns false'. Refute it at one input. -/
def fnExactAddLastWrong : ChangeSpec := { name := "fnExactAddLast", fn := fun _ => fun
  | [d1, d2] => { results := [.lit (.bool false)], args := [d1, d2] }
  | _ => none }
def FnExactAddLastWrongFalsely : Prop := fnExactAddLastRow.holds Try.pinned (OpenSpec.ofChange fnExactAddLastWrong)

/-- 'laws.FnExactLastNamed': WHATEVER THE INPUT: true; the input reads as it did. -/
def fnExactLastNamedSpec : ChangeSpec := { name := "fnExactLastNamed", fn := fun _ => fun
  | [d1, d2] => { results := [.lit (.bool true)], args := [d1, d2] }
  | _ => none }
def fnExactLastNamedRow : OpenClaim := { program := "ytoincfhhafpekaa", sum := "60344366222f3971cce8ab61baa0a5e1777b72c69a2ea6043054ff7e79d3ca3e", func := "loop.example/g01043/laws.FnExactLastNamed", spec := "fnExactLastNamed", unfollowed := true, recurses := true, apart := false }
def FnExactLastNamedSaid : Prop := fnExactLastNamedRow.holds Try.pinned (OpenSpec.ofChange fnExactLastNamedSpec)

/-- ITS FALSE NEIGHBOUR: 'it returns false'. Refute it at one input. -/
def fnExactLastNamedWrong : ChangeSpec := { name := "fnExactLastNamed", fn := fun _ => fun
  | [d1, d2] => { results := [.lit (.bool false)], args := [d1, d2] }
  | _ => none }
def FnExactLastNamedWrongFalsely : Prop := fnExactLastNamedRow.holds Try.pinned (OpenSpec.ofChange fnExactLastNamedWrong)

/-- 'laws.FnExactMayFit': WHATEVER THE INPUT: true; the input reads as it did. -/
def fnExactMayFitSpec : ChangeSpec := { name := "fnExactMayFit", fn := fun _ => fun
  | [d1, d2, d3] => { results := [.lit (.bool true)], args := [d1, d2, d3] }
  | _ => none }
def fnExactMayFitRow : OpenClaim := { program := "ytoincfhhafpekaa", sum := "60344366222f3971cce8ab61baa0a5e1777b72c69a2ea6043054ff7e79d3ca3e", func := "loop.example/g01043/laws.FnExactMayFit", spec := "fnExactMayFit", apart := false }
def FnExactMayFitSaid : Prop := fnExactMayFitRow.holds Try.pinned (OpenSpec.ofChange fnExactMayFitSpec)

/-- ITS FALSE NEIGHBOUR: 'it returns false'. Refute it at one input. -/
def fnExactMayFitWrong : ChangeSpec := { name := "fnExactMayFit", fn := fun _ => fun
  | [d1, d2, d3] => { results := [.lit (.bool false)], args := [d1, d2, d3] }
  | _ => none }
def FnExactMayFitWrongFalsely : Prop := fnExactMayFitRow.holds Try.pinned (OpenSpec.ofChange fnExactMayFitWrong)

/-- 'laws.FnExactFitCost': WHATEVER THE INPUT: true; the input reads as it did. -/
def fnExactFitCostSpec : ChangeSpec := { name := "fnExactFitCost", fn := fun _ => fun
  | [d1, d2, d3] => { results := [.lit (.bool true)], args := [d1, d2, d3] }
  | _ => none }
def fnExactFitCostRow : OpenClaim := { program := "ytoincfhhafpekaa", sum := "60344366222f3971cce8ab61baa0a5e1777b72c69a2ea6043054ff7e79d3ca3e", func := "loop.example/g01043/laws.FnExactFitCost", spec := "fnExactFitCost", apart := false }
def FnExactFitCostSaid : Prop := fnExactFitCostRow.holds Try.pinned (OpenSpec.ofChange fnExactFitCostSpec)

/-- ITS FALSE NEIGHBOUR: 'it returns false'. Refute it at one input. -/
def fnExactFitCostWrong : ChangeSpec := { name := "fnExactFitCost", fn := fun _ => fun
  | [d1, d2, d3] => { results := [.lit (.bool false)], args := [d1, d2, d3] }
  | _ => none }
def FnExactFitCostWrongFalsely : Prop := fnExactFitCostRow.holds Try.pinned (OpenSpec.ofChange fnExactFitCostWrong)

/- THE SECOND FORM. 'bulk': how many values and letters a reading holds, each counted each time it is reached (what is shared counts as often as it is met; a slice's spare places count too). A statement '..UptoSaid' is the law's where the arguments, and the package variables that the reading takes, are together of bulk at most 1048576: NARROWER than '..Said'. Prove '..Said' where nothing that the law and all that it calls make is longer than what came in: it says more and counts as full. Else prove '..UptoSaid'. A law counts once. -/
mutual
def uptoBulk {H : Type} : DataW H → Nat
  | .lit (.string bytes) => bytes.length + 1
  | .lit _ => 1
  | .nil => 1
  | .ptr d => uptoBulk d + 1
  | .slice elems spare => uptoBulkAll elems + uptoBulkAll spare + 1
  | .agg parts => uptoBulkAll parts + 1
  | .iface _ d => uptoBulk d + 1
  | .map entries => uptoBulkEntries entries + 1
  | .held _ => 1
def uptoBulkAll {H : Type} : List (DataW H) → Nat
  | [] => 0
  | d :: r => uptoBulk d + uptoBulkAll r
def uptoBulkEntries {H : Type} : List (Lit × DataW H) → Nat
  | [] => 0
  | x :: r => uptoBulkEntry x + uptoBulkEntries r
def uptoBulkEntry {H : Type} : Lit × DataW H → Nat
  | (.string bytes, d) => bytes.length + uptoBulk d + 1
  | (_, d) => uptoBulk d + 1
 end
def uptoSmall : (H : Type) → List (DataW H) → Bool := fun _ ds => decide (uptoBulkAll ds ≤ 1048576)
def OpenSpec.upto (s : _root_.Go.ChangeSpec) : _root_.Go.OpenSpec := { _root_.Go.OpenSpec.ofChange s with cond := some uptoSmall }

/-- 'laws.FnExactMiddleFoot', WHERE WHAT IT READS IS OF BULK AT MOST 1048576: true; the input reads as it did. -/
def fnExactMiddleFootUptoRow : OpenClaim := { program := "ytoincfhhafpekaa", sum := "60344366222f3971cce8ab61baa0a5e1777b72c69a2ea6043054ff7e79d3ca3e", func := "loop.example/g01043/laws.FnExactMiddleFoot", spec := "fnExactMiddleFoot", recurses := true, apart := false, narrowed := true }
def FnExactMiddleFootUptoSaid : Prop := fnExactMiddleFootUptoRow.holds Try.pinned (OpenSpec.upto fnExactMiddleFootSpec)

/-- 'laws.FnExactFarFeet', WHERE WHAT IT READS IS OF BULK AT MOST 1048576: true; the input reads as it did. -/
def fnExactFarFeetUptoRow : OpenClaim := { program := "ytoincfhhafpekaa", sum := "60344366222f3971cce8ab61baa0a5e1777b72c69a2ea6043054ff7e79d3ca3e", func := "loop.example/g01043/laws.FnExactFarFeet", spec := "fnExactFarFeet", recurses := true, apart := false, narrowed := true }
def FnExactFarFeetUptoSaid : Prop := fnExactFarFeetUptoRow.holds Try.pinned (OpenSpec.upto fnExactFarFeetSpec)

/-- 'laws.FnExactJoinFeet', WHERE WHAT IT READS IS OF BULK AT MOST 1048576: true; the input reads as it did. -/
def fnExactJoinFeetUptoRow : OpenClaim := { program := "ytoincfhhafpekaa", sum := "60344366222f3971cce8ab61baa0a5e1777b72c69a2ea6043054ff7e79d3ca3e", func := "loop.example/g01043/laws.FnExactJoinFeet", spec := "fnExactJoinFeet", recurses := true, apart := false, narrowed := true }
def FnExactJoinFeetUptoSaid : Prop := fnExactJoinFeetUptoRow.holds Try.pinned (OpenSpec.upto fnExactJoinFeetSpec)

/-- 'laws.FnExactGrowthOf', WHERE WHAT IT READS IS OF BULK AT MOST 1048576: true; the input reads as it did. -/
def fnExactGrowthOfUptoRow : OpenClaim := { program := "ytoincfhhafpekaa", sum := "60344366222f3971cce8ab61baa0a5e1777b72c69a2ea6043054ff7e79d3ca3e", func := "loop.example/g01043/laws.FnExactGrowthOf", spec := "fnExactGrowthOf", apart := false, narrowed := true }
def FnExactGrowthOfUptoSaid : Prop := fnExactGrowthOfUptoRow.holds Try.pinned (OpenSpec.upto fnExactGrowthOfSpec)

/-- 'laws.FnExactLengthOn', WHERE WHAT IT READS IS OF BULK AT MOST 1048576: true; the input reads as it did. -/
def fnExactLengthOnUptoRow : OpenClaim := { program := "ytoincfhhafpekaa", sum := "60344366222f3971cce8ab61baa0a5e1777b72c69a2ea6043054ff7e79d3ca3e", func := "loop.example/g01043/laws.FnExactLengthOn", spec := "fnExactLengthOn", apart := false, narrowed := true }
def FnExactLengthOnUptoSaid : Prop := fnExactLengthOnUptoRow.holds Try.pinned (OpenSpec.upto fnExactLengthOnSpec)

/-- 'laws.FnExactValidLasts', WHERE WHAT IT READS IS OF BULK AT MOST 1048576: true; the input reads as it did. -/
def fnExactValidLastsUptoRow : OpenClaim := { program := "ytoincfhhafpekaa", sum := "60344366222f3971cce8ab61baa0a5e1777b72c69a2ea6043054ff7e79d3ca3e", func := "loop.example/g01043/laws.FnExactValidLasts", spec := "fnExactValidLasts", apart := false, narrowed := true }
def FnExactValidLastsUptoSaid : Prop := fnExactValidLastsUptoRow.holds Try.pinned (OpenSpec.upto fnExactValidLastsSpec)

/-- 'laws.FnExactSameLasts', WHERE WHAT IT READS IS OF BULK AT MOST 1048576: true; the input reads as it did. -/
def fnExactSameLastsUptoRow : OpenClaim := { program := "ytoincfhhafpekaa", sum := "60344366222f3971cce8ab61baa0a5e1777b72c69a2ea6043054ff7e79d3ca3e", func := "loop.example/g01043/laws.FnExactSameLasts", spec := "fnExactSameLasts", apart := false, narrowed := true }
def FnExactSameLastsUptoSaid : Prop := fnExactSameLastsUptoRow.holds Try.pinned (OpenSpec.upto fnExactSameLastsSpec)

/-- 'laws.FnExactValidFit', WHERE WHAT IT READS IS OF BULK AT MOST 1048576: true; the input reads as it did. -/
def fnExactValidFitUptoRow : OpenClaim := { program := "ytoincfhhafpekaa", sum := "60344366222f3971cce8ab61baa0a5e1777b72c69a2ea6043054ff7e79d3ca3e", func := "loop.example/g01043/laws.FnExactValidFit", spec := "fnExactValidFit", apart := false, narrowed := true }
def FnExactValidFitUptoSaid : Prop := fnExactValidFitUptoRow.holds Try.pinned (OpenSpec.upto fnExactValidFitSpec)

/-- 'laws.FnExactAddLast', WHERE WHAT IT READS IS OF BULK AT MOST 1048576: true; the input reads as it did. -/
def fnExactAddLastUptoRow : OpenClaim := { program := "ytoincfhhafpekaa", sum := "60344366222f3971cce8ab61baa0a5e1777b72c69a2ea6043054ff7e79d3ca3e", func := "loop.example/g01043/laws.FnExactAddLast", spec := "fnExactAddLast", unfollowed := true, recurses := true, apart := false, narrowed := true }
def FnExactAddLastUptoSaid : Prop := fnExactAddLastUptoRow.holds Try.pinned (OpenSpec.upto fnExactAddLastSpec)

/-- 'laws.FnExactLastNamed', WHERE WHAT IT READS IS OF BULK AT MOST 1048576: true; the input reads as it did. -/
def fnExactLastNamedUptoRow : OpenClaim := { program := "ytoincfhhafpekaa", sum := "60344366222f3971cce8ab61baa0a5e1777b72c69a2ea6043054ff7e79d3ca3e", func := "loop.example/g01043/laws.FnExactLastNamed", spec := "fnExactLastNamed", unfollowed := true, recurses := true, apart := false, narrowed := true }
def FnExactLastNamedUptoSaid : Prop := fnExactLastNamedUptoRow.holds Try.pinned (OpenSpec.upto fnExactLastNamedSpec)

/-- 'laws.FnExactMayFit', WHERE WHAT IT READS IS OF BULK AT MOST 1048576: true; the input reads as it did. -/
def fnExactMayFitUptoRow : OpenClaim := { program := "ytoincfhhafpekaa", sum := "60344366222f3971cce8ab61baa0a5e1777b72c69a2ea6043054ff7e79d3ca3e", func := "loop.example/g01043/laws.FnExactMayFit", spec := "fnExactMayFit", apart := false, narrowed := true }
def FnExactMayFitUptoSaid : Prop := fnExactMayFitUptoRow.holds Try.pinned (OpenSpec.upto fnExactMayFitSpec)

/-- 'laws.FnExactFitCost', WHERE WHAT IT READS IS OF BULK AT MOST 1048576: true; the input reads as it did. -/
def fnExactFitCostUptoRow : OpenClaim := { program := "ytoincfhhafpekaa", sum := "60344366222f3971cce8ab61baa0a5e1777b72c69a2ea6043054ff7e79d3ca3e", func := "loop.example/g01043/laws.FnExactFitCost", spec := "fnExactFitCost", apart := false, narrowed := true }
def FnExactFitCostUptoSaid : Prop := fnExactFitCostUptoRow.holds Try.pinned (OpenSpec.upto fnExactFitCostSpec)

end Rows
end Go.Proofs.Ytoincfhhafpekaa
