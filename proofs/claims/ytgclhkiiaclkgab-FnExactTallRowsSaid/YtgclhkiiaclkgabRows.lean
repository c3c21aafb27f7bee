/-
  No cell of these rows narrows 'for every input' (looked for: loops, veiled, ifaces, maps, wideKeys, modest, calm, conditions, laid).
  DERIVED. THE GIVEN ROWS OF THIS SEAT. 12 by the template 'for every input the law returns true; each argument reads behind the call as it read before'; 0 by the template 'total and deterministic' (their statements: YtgclhkiiaclkgabTotals.lean).
  GIVEN WITH THE SEED: the statements are not yours to turn. If you find one false, say at which input.
  Laid BY PROGRAM, IN A SANDBOX (cutbox-rows.mjs): the forced cells as the released guide's own fill.sh prints them over the translation de3c1e38e5d69f6f… (all of the seat's roots in one cut). By AI agents, Wed Nov 11 2026. No macro, syntax, notation, axiom, sorry.
-/
import Derived.Test.YtgclhkiiaclkgabChecked
import GoSem.Claim
import GoSem.ClaimJoined
import GoSem.ClaimMapViews
import Derived.JoinedTies
import Derived.KernelRfl
namespace Go.Proofs.Ytgclhkiiaclkgab
/- THE CELL 'sum', in the pinned program and in every row, IS THE sha256 OF THE DUMP (.gsa) THAT YtgclhkiiaclkgabProg.lean LOADS. Nothing in Lean hashes anything: it is a label: what it is worth is what the hold of that sum in a sandbox is worth. -/
noncomputable def Try.pinned : Pinned := { name := "ytgclhkiiaclkgab", sum := "de3c1e38e5d69f6fff6292e473f91b8a9b005453ed7f94ba92c73b0fa5ece0c6", checked := Try.checked }
namespace Rows
def none {H : Type} : Left H := { results := [], args := [] }

/-- 'laws.FnExactValidBlocks': WHATEVER THE INPUT: true; the input reads as it did. -/
def fnExactValidBlocksSpec : ChangeSpec := { name := "fnExactValidBlocks", fn := fun _ => fun
  | [d1, d2] => { results := [.lit (.bool true)], args := [d1, d2] }
  | _ => none }
def fnExactValidBlocksRow : OpenClaim := { program := "ytgclhkiiaclkgab", sum := "de3c1e38e5d69f6fff6292e473f91b8a9b005453ed7f94ba92c73b0fa5ece0c6", func := "loop.example/g01043/laws.FnExactValidBlocks", spec := "fnExactValidBlocks", apart := false }
def FnExactValidBlocksSaid : Prop := fnExactValidBlocksRow.holds Try.pinned (OpenSpec.ofChange fnExactValidBlocksSpec)

/-- ITS FALSE NEIGHBOUR: 'it returns false'. Refute it at one input. -/
def fnExactValidBlocksWrong : ChangeSpec := { name := "fnExactValidBlocks", fn := fun _ => fun
  | [d1, d2] => { results := [.lit (.bool false)], args := [d1, d2] }
  | _ => none }
def FnExactValidBlocksWrongFalsely : Prop := fnExactValidBlocksRow.holds Try.pinned (OpenSpec.ofChange fnExactValidBlocksWrong)

/-- 'laws.FnExactSameBlocks': WHATEVER THE INPUT: true; the input reads as it did. -/
def fnExactSameBlocksSpec : ChangeSpec := { name := "fnExactSameBlocks", fn := fun _ => fun
  | [d1, d2] => { results := [.lit (.bool true)], args := [d1, d2] }
  | _ => none }
def fnExactSameBlocksRow : OpenClaim := { program := "ytgclhkiiaclkgab", sum := "de3c1e38e5d69f6fff6292e473f91b8a9b005453ed7f94ba92c73b0fa5ece0c6", func := "loop.example/g01043/laws.FnExactSameBlocks", spec := "fnExactSameBlocks", apart := false }
def FnExactSameBlocksSaid : Prop := fnExactSameBlocksRow.holds Try.pinned (OpenSpec.ofChange fnExactSameBlocksSpec)

/-- ITS FALSE NEIGHBOUR: 'it returns false'. Refute it at one input. -/
def fnExactSameBlocksWrong : ChangeSpec := { name := "fnExactSameBlocks", fn := fun _ => fun
  | [d1, d2] => { results := [.lit (.bool false)], args := [d1, d2] }
  | _ => none }
def FnExactSameBlocksWrongFalsely : Prop := fnExactSameBlocksRow.holds Try.pinned (OpenSpec.ofChange fnExactSameBlocksWrong)

/-- 'laws.FnExactRowsFault': WHATEVER THE INPUT: true; the input reads as it did. -/
def fnExactRowsFaultSpec : ChangeSpec := { name := "fnExactRowsFault", fn := fun _ => fun
  | [d1, d2, d3] => { results := [.lit (.bool true)], args := [d1, d2, d3] }
  | _ => none }
def fnExactRowsFaultRow : OpenClaim := { program := "ytgclhkiiaclkgab", sum := "de3c1e38e5d69f6fff6292e473f91b8a9b005453ed7f94ba92c73b0fa5ece0c6", func := "loop.example/g01043/laws.FnExactRowsFault", spec := "fnExactRowsFault", unfollowed := true, recurses := true, apart := false }
def FnExactRowsFaultSaid : Prop := fnExactRowsFaultRow.holds Try.pinned (OpenSpec.ofChange fnExactRowsFaultSpec)

/-- ITS FALSE NEIGHBOUR: 'it returns false'. Refute it at one input. -/
def fnExactRowsFaultWrong : ChangeSpec := { name := "fnExactRowsFault", fn := fun _ => fun
  | [d1, d2, d3] => { results := [.lit (.bool false)], args := [d1, d2, d3] }
  | _ => none }
def FnExactRowsFaultWrongFalsely : Prop := fnExactRowsFaultRow.holds Try.pinned (OpenSpec.ofChange fnExactRowsFaultWrong)

/-- 'laws.FnExactHeightOfRows': WHATEVER THE INPUT: true; the input reads as it did. -/
def fnExactHeightOfRowsSpec : ChangeSpec := { name := "fnExactHeightOfRows", fn := fun _ => fun
  | [d1, d2, d3] => { results := [.lit (.bool true)], args := [d1, d2, d3] }
  | _ => none }
def fnExactHeightOfRowsRow : OpenClaim := { program := "ytgclhkiiaclkgab", sum := "de3c1e38e5d69f6fff6292e473f91b8a9b005453ed7f94ba92c73b0fa5ece0c6", func := "loop.example/g01043/laws.FnExactHeightOfRows", spec := "fnExactHeightOfRows", unfollowed := true, recurses := true, apart := false }
def FnExactHeightOfRowsSaid : Prop := fnExactHeightOfRowsRow.holds Try.pinned (OpenSpec.ofChange fnExactHeightOfRowsSpec)

/-- ITS FALSE NEIGHBOUR: 'it returns false'. Refute it at one input. -/
def fnExactHeightOfRowsWrong : ChangeSpec := { name := "fnExactHeightOfRows", fn := fun _ => fun
  | [d1, d2, d3] => { results := [.lit (.bool false)], args := [d1, d2, d3] }
  | _ => none }
def FnExactHeightOfRowsWrongFalsely : Prop := fnExactHeightOfRowsRow.holds Try.pinned (OpenSpec.ofChange fnExactHeightOfRowsWrong)

/-- 'laws.FnExactFirstRows': WHATEVER THE INPUT: true; the input reads as it did. -/
def fnExactFirstRowsSpec : ChangeSpec := { name := "fnExactFirstRows", fn := fun _ => fun
  | [d1, d2] => { results := [.lit (.bool true)], args := [d1, d2] }
  | _ => none }
def fnExactFirstRowsRow : OpenClaim := { program := "ytgclhkiiaclkgab", sum := "de3c1e38e5d69f6fff6292e473f91b8a9b005453ed7f94ba92c73b0fa5ece0c6", func := "loop.example/g01043/laws.FnExactFirstRows", spec := "fnExactFirstRows", unfollowed := true, recurses := true, apart := false }
def FnExactFirstRowsSaid : Prop := fnExactFirstRowsRow.holds Try.pinned (OpenSpec.ofChange fnExactFirstRowsSpec)

/-- ITS FALSE NEIGHBOUR: 'it returns false'. Refute it at one input. -/
def fnExactFirstRowsWrong : ChangeSpec := { name := "fnExactFirstRows", fn := fun _ => fun
  | [d1, d2] => { results := [.lit (.bool false)], args := [d1, d2] }
  | _ => none }
def FnExactFirstRowsWrongFalsely : Prop := fnExactFirstRowsRow.holds Try.pinned (OpenSpec.ofChange fnExactFirstRowsWrong)

/-- 'laws.FnExactTallRows': WHATEVER THE INPUT: true; the input reads as it did. -/
def fnExactTallRowsSpec : ChangeSpec := { name := "fnExactTallRows", fn := fun _ => fun
  | [d1, d2] => { results := [.lit (.bool true)], args := [d1, d2] }
  | _ => none }
def fnExactTallRowsRow : OpenClaim := { program := "ytgclhkiiaclkgab", sum := "de3c1e38e5d69f6fff6292e473f91b8a9b005453ed7f94ba92c73b0fa5ece0c6", func := "loop.example/g01043/laws.FnExactTallRows", spec := "fnExactTallRows", unfollowed := true, recurses := true, apart := false }
def FnExactTallRowsSaid : Prop := fnExactTallRowsRow.holds Try.pinned (OpenSpec.ofChange fnExactTallRowsSpec)

/-- ITS FALSE NEIGHBOUR: 'it returns false'. Refute it at one input. -/
def fnExactTallRowsWrong : ChangeSpec := { name := "fnExactTallRows", fn := fun _ => fun
  | [d1, d2] => { results := [.lit (.bool false)], args := [d1, d2] }
  | _ => none }
def FnExactTallRowsWrongFalsely : Prop := fnExactTallRowsRow.holds Try.pinned (OpenSpec.ofChange fnExactTallRowsWrong)

/-- 'laws.FnExactHeightBound': WHATEVER THE INPUT: true; the input reads as it did. -/
def fnExactHeightBoundSpec : ChangeSpec := { name := "fnExactHeightBound", fn := fun _ => fun
  | [d1, d2] => { results := [.lit (.bool true)], args := [d1, d2] }
  | _ => none }
def fnExactHeightBoundRow : OpenClaim := { program := "ytgclhkiiaclkgab", sum := "de3c1e38e5d69f6fff6292e473f91b8a9b005453ed7f94ba92c73b0fa5ece0c6", func := "loop.example/g01043/laws.FnExactHeightBound", spec := "fnExactHeightBound", apart := false }
def FnExactHeightBoundSaid : Prop := fnExactHeightBoundRow.holds Try.pinned (OpenSpec.ofChange fnExactHeightBoundSpec)

/-- ITS FALSE NEIGHBOUR: 'it returns false'. Refute it at one input. -/
def fnExactHeightBoundWrong : ChangeSpec := { name := "fnExactHeightBound", fn := fun _ => fun
  | [d1, d2] => { results := [.lit (.bool false)], args := [d1, d2] }
  | _ => none }
def FnExactHeightBoundWrongFalsely : Prop := fnExactHeightBoundRow.holds Try.pinned (OpenSpec.ofChange fnExactHeightBoundWrong)

/-- 'laws.FnExactWasteOfRows': WHATEVER THE INPUT: true; the input reads as it did. -/
def fnExactWasteOfRowsSpec : ChangeSpec := { name := "fnExactWasteOfRows", fn := fun _ => fun
  | [d1, d2, d3] => { results := [.lit (.bool true)], args := [d1, d2, d3] }
  | _ => none }
def fnExactWasteOfRowsRow : OpenClaim := { program := "ytgclhkiiaclkgab", sum := "de3c1e38e5d69f6fff6292e473f91b8a9b005453ed7f94ba92c73b0fa5ece0c6", func := "loop.example/g01043/laws.FnExactWasteOfRows", spec := "fnExactWasteOfRows", unfollowed := true, recurses := true, apart := false }
def FnExactWasteOfRowsSaid : Prop := fnExactWasteOfRowsRow.holds Try.pinned (OpenSpec.ofChange fnExactWasteOfRowsSpec)

/-- ITS FALSE NEIGHBOUR: 'it returns false'. Refute it at one input. -/
def fnExactWasteOfRowsWrong : ChangeSpec := { name := "fnExactWasteOfRows", fn := fun _ => fun
  | [d1, d2, d3] => { results := [.lit (.bool false)], args := [d1, d2, d3] }
  | _ => none }
def FnExactWasteOfRowsWrongFalsely : Prop := fnExactWasteOfRowsRow.holds Try.pinned (OpenSpec.ofChange fnExactWasteOfRowsWrong)

/-- 'laws.FnExactTurnBlocks': WHATEVER THE INPUT: true; the input reads as it did. -/
def fnExactTurnBlocksSpec : ChangeSpec := { name := "fnExactTurnBlocks", fn := fun _ => fun
  | [d1, d2] => { results := [.lit (.bool true)], args := [d1, d2] }
  | _ => none }
def fnExactTurnBlocksRow : OpenClaim := { program := "ytgclhkiiaclkgab", sum := "de3c1e38e5d69f6fff6292e473f91b8a9b005453ed7f94ba92c73b0fa5ece0c6", func := "loop.example/g01043/laws.FnExactTurnBlocks", spec := "fnExactTurnBlocks", apart := false }
def FnExactTurnBlocksSaid : Prop := fnExactTurnBlocksRow.holds Try.pinned (OpenSpec.ofChange fnExactTurnBlocksSpec)

/-- ITS FALSE NEIGHBOUR: 'it returns false'. Refute it at one input. -/
def fnExactTurnBlocksWrong : ChangeSpec := { name := "fnExactTurnBlocks", fn := fun _ => fun
  | [d1, d2] => { results := [.lit (.bool false)], args := [d1, d2] }
  | _ => none }
def FnExactTurnBlocksWrongFalsely : Prop := fnExactTurnBlocksRow.holds Try.pinned (OpenSpec.ofChange fnExactTurnBlocksWrong)

/-- 'laws.FnExactPlacesOnRoll': WHATEVER THE INPUT: true; the input reads as it did. -/
def fnExactPlacesOnRollSpec : ChangeSpec := { name := "fnExactPlacesOnRoll", fn := fun _ => fun
  | [d1, d2, d3] => { results := [.lit (.bool true)], args := [d1, d2, d3] }
  | _ => none }
def fnExactPlacesOnRollRow : OpenClaim := { program := "ytgclhkiiaclkgab", sum := "de3c1e38e5d69f6fff6292e473f91b8a9b005453ed7f94ba92c73b0fa5ece0c6", func := "loop.example/g01043/laws.FnExactPlacesOnRoll", spec := "fnExactPlacesOnRoll", unfollowed := true, recurses := true, apart := false }
def FnExactPlacesOnRollSaid : Prop := fnExactPlacesOnRollRow.holds Try.pinned (OpenSpec.ofChange fnExactPlacesOnRollSpec)

/-- ITS FALSE NEIGHBOUR: 'it returns false'. Refute it at one input. -/
def fnExactPlacesOnRollWrong : ChangeSpec := { name := "fnExactPlacesOnRoll", fn := fun _ => fun
  | [d1, d2, d3] => { results := [.lit (.bool false)], args := [d1, d2, d3] }
  | _ => none }
def FnExactPlacesOnRollWrongFalsely : Prop := fnExactPlacesOnRollRow.holds Try.pinned (OpenSpec.ofChange fnExactPlacesOnRollWrong)

/-- 'laws.FnExactBestRows': WHATEVER THE INPUT: true; the input reads as it did. -/
def fnExactBestRowsSpec : ChangeSpec := { name := "fnExactBestRows", fn := fun _ => fun
  | [d1, d2] => { results := [.lit (.bool true)], args := [d1, d2] }
  | _ => none }
def fnExactBestRowsRow : OpenClaim := { program := "ytgclhkiiaclkgab", sum := "de3c1e38e5d69f6fff6292e473f91b8a9b005453ed7f94ba92c73b0fa5ece0c6", func := "loop.example/g01043/laws.FnExactBestRows", spec := "fnExactBestRows", recurses := true, apart := false }
def FnExactBestRowsSaid : Prop := fnExactBestRowsRow.holds Try.pinned (OpenSpec.ofChange fnExactBestRowsSpec)

/-- ITS FALSE NEIGHBOUR: 'it returns false'. Refute it at one input. -/
def fnExactBestRowsWrong : ChangeSpec := { name := "fnExactBestRows", fn := fun _ => fun
  | [d1, d2] => { results := [.lit (.bool false)], args := [d1, d2] }
  | _ => none }
def FnExactBestRowsWrongFalsely : Prop := fnExactBestRowsRow.holds Try.pinned (OpenSpec.ofChange fnExactBestRowsWrong)

/-- 'laws.FnExactLeastHeight': WHATEVER THE INPUT: true; the input reads as it did. -/
def fnExactLeastHeightSpec : ChangeSpec := { name := "fnExactLeastHeight", fn := fun _ => fun
  | [d1, d2] => { results := [.lit (.bool true)], args := [d1, d2] }
  | _ => none }
def fnExactLeastHeightRow : OpenClaim := { program := "ytgclhkiiaclkgab", sum := "de3c1e38e5d69f6fff6292e473f91b8a9b005453ed7f94ba92c73b0fa5ece0c6", func := "loop.example/g01043/laws.FnExactLeastHeight", spec := "fnExactLeastHeight", recurses := true, apart := false }
def FnExactLeastHeightSaid : Prop := fnExactLeastHeightRow.holds Try.pinned (OpenSpec.ofChange fnExactLeastHeightSpec)

/-- ITS FALSE NEIGHBOUR: 'it returns false'. Refute it at one input. -/
def fnExactLeastHeightWrong : ChangeSpec := { name := "fnExactLeastHeight", fn := fun _ => fun
  | [d1, d2] => { results := [.lit (.bool false)], args := [d1, d2] }
  | _ => none }
def FnExactLeastHeightWrongFalsely : Prop := fnExactLeastHeightRow.holds Try.pinned (OpenSpec.ofChange fnExactLeastHeightWrong)

/- THE SECOND FORM. 'bulk': how many values and letters a reading holds, each counted each time it is reached (what is shared counts as often as it is met; a slice's spare places count too). A statement '..UptoSaid' is the law's where the arguments, and the package variables that the reading takes, are together of bulk at most 1048576: NARROWER than '..Said'. Prove '..Said' where nothing that the law and all that it calls make is longer than what came in: it says more and counts as full. Else prove '..UptoSaid'. A law counts once. -/
mutual
def uptoBulk {H : Type} : DataW H → Nat
  | .lit (.string bytes) => bytes.length + 1
  | .lit _ => 1
  | .nil => 1
  | .ptr d => uptoBulk d + 1
  | .slice elems spare => uptoBulkAll elems + uptoBulkAll spare + 1
  | .agg parts => uptoBulkAll parts + 1
  | .iface _ d => uptoBulk d + 1
  | .map entries => uptoBulkEntries entries + 1
  | .held _ => 1
def uptoBulkAll {H : Type} : List (DataW H) → Nat
  | [] => 0
  | d :: r => uptoBulk d + uptoBulkAll r
def uptoBulkEntries {H : Type} : List (Lit × DataW H) → Nat
  | [] => 0
  | x :: r => uptoBulkEntry x + uptoBulkEntries r
def uptoBulkEntry {H : Type} : Lit × DataW H → Nat
  | (.string bytes, d) => bytes.length + uptoBulk d + 1
  | (_, d) => uptoBulk d + 1
 end
def uptoSmall : (H : Type) → List (DataW H) → Bool := fun _ ds => decide (uptoBulkAll ds ≤ 1048576)
def OpenSpec.upto (s : _root_.Go.ChangeSpec) : _root_.Go.OpenSpec := { _root_.Go.OpenSpec.ofChange s with cond := some uptoSmall }

/-- 'laws.FnExactValidBlocks', WHERE WHAT IT READS IS OF BULK AT MOST 1048576: true; the input reads as it did. -/
def fnExactValidBlocksUptoRow : OpenClaim := { program := "ytgclhkiiaclkgab", sum := "de3c1e38e5d69f6fff6292e473f91b8a9b005453ed7f94ba92c73b0fa5ece0c6", func := "loop.example/g01043/laws.FnExactValidBlocks", spec := "fnExactValidBlocks", apart := false, narrowed := true }
def FnExactValidBlocksUptoSaid : Prop := fnExactValidBlocksUptoRow.holds Try.pinned (OpenSpec.upto fnExactValidBlocksSpec)

/-- 'laws.FnExactSameBlocks', WHERE WHAT IT READS IS OF BULK AT MOST 1048576: true; the input reads as it did. -/
def fnExactSameBlocksUptoRow : OpenClaim := { program := "ytgclhkiiaclkgab", sum := "de3c1e38e5d69f6fff6292e473f91b8a9b005453ed7f94ba92c73b0fa5ece0c6", func := "loop.example/g01043/laws.FnExactSameBlocks", spec := "fnExactSameBlocks", apart := false, narrowed := true }
def FnExactSameBlocksUptoSaid : Prop := fnExactSameBlocksUptoRow.holds Try.pinned (OpenSpec.upto fnExactSameBlocksSpec)

/-- 'laws.FnExactRowsFault', WHERE WHAT IT READS IS OF BULK AT MOST 1048576: true; the input reads as it did. -/
def fnExactRowsFaultUptoRow : OpenClaim := { program := "ytgclhkiiaclkgab", sum := "de3c1e38e5d69f6fff6292e473f91b8a9b005453ed7f94ba92c73b0fa5ece0c6", func := "loop.example/g01043/laws.FnExactRowsFault", spec := "fnExactRowsFault", unfollowed := true, recurses := true, apart := false, narrowed := true }
def FnExactRowsFaultUptoSaid : Prop := fnExactRowsFaultUptoRow.holds Try.pinned (OpenSpec.upto fnExactRowsFaultSpec)

/-- 'laws.FnExactHeightOfRows', WHERE WHAT IT READS IS OF BULK AT MOST 1048576: true; the input reads as it did. -/
def fnExactHeightOfRowsUptoRow : OpenClaim := { program := "ytgclhkiiaclkgab", sum := "de3c1e38e5d69f6fff6292e473f91b8a9b005453ed7f94ba92c73b0fa5ece0c6", func := "loop.example/g01043/laws.FnExactHeightOfRows", spec := "fnExactHeightOfRows", unfollowed := true, recurses := true, apart := false, narrowed := true }
def FnExactHeightOfRowsUptoSaid : Prop := fnExactHeightOfRowsUptoRow.holds Try.pinned (OpenSpec.upto fnExactHeightOfRowsSpec)

/-- 'laws.FnExactFirstRows', WHERE WHAT IT READS IS OF BULK AT MOST 1048576: true; the input reads as it did. -/
def fnExactFirstRowsUptoRow : OpenClaim := { program := "ytgclhkiiaclkgab", sum := "de3c1e38e5d69f6fff6292e473f91b8a9b005453ed7f94ba92c73b0fa5ece0c6", func := "loop.example/g01043/laws.FnExactFirstRows", spec := "fnExactFirstRows", unfollowed := true, recurses := true, apart := false, narrowed := true }
def FnExactFirstRowsUptoSaid : Prop := fnExactFirstRowsUptoRow.holds Try.pinned (OpenSpec.upto fnExactFirstRowsSpec)

/-- 'laws.FnExactTallRows', WHERE WHAT IT READS IS OF BULK AT MOST 1048576: true; the input reads as it did. -/
def fnExactTallRowsUptoRow : OpenClaim := { program := "ytgclhkiiaclkgab", sum := "de3c1e38e5d69f6fff6292e473f91b8a9b005453ed7f94ba92c73b0fa5ece0c6", func := "loop.example/g01043/laws.FnExactTallRows", spec := "fnExactTallRows", unfollowed := true, recurses := true, apart := false, narrowed := true }
def FnExactTallRowsUptoSaid : Prop := fnExactTallRowsUptoRow.holds Try.pinned (OpenSpec.upto fnExactTallRowsSpec)

/-- 'laws.FnExactHeightBound', WHERE WHAT IT READS IS OF BULK AT MOST 1048576: true; the input reads as it did. -/
def fnExactHeightBoundUptoRow : OpenClaim := { program := "ytgclhkiiaclkgab", sum := "de3c1e38e5d69f6fff6292e473f91b8a9b005453ed7f94ba92c73b0fa5ece0c6", func := "loop.example/g01043/laws.FnExactHeightBound", spec := "fnExactHeightBound", apart := false, narrowed := true }
def FnExactHeightBoundUptoSaid : Prop := fnExactHeightBoundUptoRow.holds Try.pinned (OpenSpec.upto fnExactHeightBoundSpec)

/-- 'laws.FnExactWasteOfRows', WHERE WHAT IT READS IS OF BULK AT MOST 1048576: true; the input reads as it did. -/
def fnExactWasteOfRowsUptoRow : OpenClaim := { program := "ytgclhkiiaclkgab", sum := "de3c1e38e5d69f6fff6292e473f91b8a9b005453ed7f94ba92c73b0fa5ece0c6", func := "loop.example/g01043/laws.FnExactWasteOfRows", spec := "fnExactWasteOfRows", unfollowed := true, recurses := true, apart := false, narrowed := true }
def FnExactWasteOfRowsUptoSaid : Prop := fnExactWasteOfRowsUptoRow.holds Try.pinned (OpenSpec.upto fnExactWasteOfRowsSpec)

/-- 'laws.FnExactTurnBlocks', WHERE WHAT IT READS IS OF BULK AT MOST 1048576: true; the input reads as it did. -/
def fnExactTurnBlocksUptoRow : OpenClaim := { program := "ytgclhkiiaclkgab", sum := "de3c1e38e5d69f6fff6292e473f91b8a9b005453ed7f94ba92c73b0fa5ece0c6", func := "loop.example/g01043/laws.FnExactTurnBlocks", spec := "fnExactTurnBlocks", apart := false, narrowed := true }
def FnExactTurnBlocksUptoSaid : Prop := fnExactTurnBlocksUptoRow.holds Try.pinned (OpenSpec.upto fnExactTurnBlocksSpec)

/-- 'laws.FnExactPlacesOnRoll', WHERE WHAT IT READS IS OF BULK AT MOST 1048576: true; the input reads as it did. -/
def fnExactPlacesOnRollUptoRow : OpenClaim := { program := "ytgclhkiiaclkgab", sum := "de3c1e38e5d69f6fff6292e473f91b8a9b005453ed7f94ba92c73b0fa5ece0c6", func := "loop.example/g01043/laws.FnExactPlacesOnRoll", spec := "fnExactPlacesOnRoll", unfollowed := true, recurses := true, apart := false, narrowed := true }
def FnExactPlacesOnRollUptoSaid : Prop := fnExactPlacesOnRollUptoRow.holds Try.pinned (OpenSpec.upto fnExactPlacesOnRollSpec)

/-- 'laws.FnExactBestRows', WHERE WHAT IT READS IS OF BULK AT MOST 1048576: true; the input reads as it did. -/
def fnExactBestRowsUptoRow : OpenClaim := { program := "ytgclhkiiaclkgab", sum := "de3c1e38e5d69f6fff6292e473f91b8a9b005453ed7f94ba92c73b0fa5ece0c6", func := "loop.example/g01043/laws.FnExactBestRows", spec := "fnExactBestRows", recurses := true, apart := false, narrowed := true }
def FnExactBestRowsUptoSaid : Prop := fnExactBestRowsUptoRow.holds Try.pinned (OpenSpec.upto fnExactBestRowsSpec)

/-- 'laws.FnExactLeastHeight', WHERE WHAT IT READS IS OF BULK AT MOST 1048576: true; the input reads as it did. -/
def fnExactLeastHeightUptoRow : OpenClaim := { program := "ytgclhkiiaclkgab", sum := "de3c1e38e5d69f6fff6292e473f91b8a9b005453ed7f94ba92c73b0fa5ece0c6", func := "loop.example/g01043/laws.FnExactLeastHeight", spec := "fnExactLeastHeight", recurses := true, apart := false, narrowed := true }
def FnExactLeastHeightUptoSaid : Prop := fnExactLeastHeightUptoRow.holds Try.pinned (OpenSpec.upto fnExactLeastHeightSpec)

end Rows
end Go.Proofs.Ytgclhkiiaclkgab
