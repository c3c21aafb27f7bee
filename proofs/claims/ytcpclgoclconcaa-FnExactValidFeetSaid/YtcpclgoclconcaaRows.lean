/-
  No cell of these rows narrows 'for every input' (looked for: loops, veiled, ifaces, maps, wideKeys, modest, calm, conditions, laid).
  DERIVED. THE GIVEN ROWS OF THIS SEAT. 6 by the template 'for every input the law returns true; each argument reads behind the call as it read before'; 0 by the template 'total and deterministic' (their statements: YtcpclgoclconcaaTotals.lean).
  GIVEN WITH THE SEED: the statements are not yours to turn. If you find one false, say at which input.
  Laid BY PROGRAM, IN A SANDBOX (cutbox-rows.mjs): the forced cells as the released guide's own fill.sh prints them over the translation 456e00c37b5b349d… (all of the seat's roots in one cut). By AI agents, Wed Nov 11 2026. No macro, syntax, notation, axiom, sorry.
-/
import Derived.Test.YtcpclgoclconcaaChecked
import GoSem.Claim
import GoSem.ClaimJoined
import GoSem.ClaimMapViews
import Derived.JoinedTies
import Derived.KernelRfl
namespace Go.Proofs.Ytcpclgoclconcaa
/- THE CELL 'sum', in the pinned program and in every row, IS THE sha256 OF THE DUMP (.gsa) THAT YtcpclgoclconcaaProg.lean LOADS. Nothing in Lean hashes anything: it is a label: what it is worth is what the hold of that sum in a sandbox is worth. -/
noncomputable def Try.pinned : Pinned := { name := "ytcpclgoclconcaa", sum := "456e00c37b5b349d214898e7327d419d34334293ebd2892ff7cac5c983715f8e", checked := Try.checked }
namespace Rows
def none {H : Type} : Left H := { results := [], args := [] }

/-- 'laws.FnMiddles': WHATEVER THE INPUT: true; the input reads as it did. -/
def fnMiddlesSpec : ChangeSpec := { name := "fnMiddles", fn := fun _ => fun
  | [d1, d2] => { results := [.lit (.bool true)], args := [d1, d2] }
  | _ => none }
def fnMiddlesRow : OpenClaim := { program := "ytcpclgoclconcaa", sum := "456e00c37b5b349d214898e7327d419d34334293ebd2892ff7cac5c983715f8e", func := "loop.example/g01043/laws.FnMiddles", spec := "fnMiddles", recurses := true, apart := false }
def FnMiddlesSaid : Prop := fnMiddlesRow.holds Try.pinned (OpenSpec.ofChange fnMiddlesSpec)

/-- ITS FALSE NEIGHBOUR: 'it returns false'. Refute it at one input. -/
def fnMiddlesWrong : ChangeSpec := { name := "fnMiddles", fn := fun _ => fun
  | [d1, d2] => { results := [.lit (.bool false)], args := [d1, d2] }
  | _ => none }
def FnMiddlesWrongFalsely : Prop := fnMiddlesRow.holds Try.pinned (OpenSpec.ofChange fnMiddlesWrong)

/-- 'laws.FnGrowth': WHATEVER THE INPUT: true; the input reads as it did. -/
def fnGrowthSpec : ChangeSpec := { name := "fnGrowth", fn := fun _ => fun
  | [d1, d2] => { results := [.lit (.bool true)], args := [d1, d2] }
  | _ => none }
def fnGrowthRow : OpenClaim := { program := "ytcpclgoclconcaa", sum := "456e00c37b5b349d214898e7327d419d34334293ebd2892ff7cac5c983715f8e", func := "loop.example/g01043/laws.FnGrowth", spec := "fnGrowth", apart := false }
def FnGrowthSaid : Prop := fnGrowthRow.holds Try.pinned (OpenSpec.ofChange fnGrowthSpec)

/-- ITS FALSE NEIGHBOUR: 'it returns false'. Refute it at one input. -/
def fnGrowthWrong : ChangeSpec := { name := "fnGrowth", fn := fun _ => fun
  | [d1, d2] => { results := [.lit (.bool false)], args := [d1, d2] }
  | _ => none }
def FnGrowthWrongFalsely : Prop := fnGrowthRow.holds Try.pinned (OpenSpec.ofChange fnGrowthWrong)

/-- 'laws.FnExactIsName': WHATEVER THE INPUT: true; the input reads as it did. -/
def fnExactIsNameSpec : ChangeSpec := { name := "fnExactIsName", fn := fun _ => fun
  | [d] => { results := [.lit (.bool true)], args := [d] }
  | _ => none }
def fnExactIsNameRow : OpenClaim := { program := "ytcpclgoclconcaa", sum := "456e00c37b5b349d214898e7327d419d34334293ebd2892ff7cac5c983715f8e", func := "loop.example/g01043/laws.FnExactIsName", spec := "fnExactIsName", apart := false }
def FnExactIsNameSaid : Prop := fnExactIsNameRow.holds Try.pinned (OpenSpec.ofChange fnExactIsNameSpec)

/-- ITS FALSE NEIGHBOUR: 'it returns false'. Refute it at one input. -/
def fnExactIsNameWrong : ChangeSpec := { name := "fnExactIsName", fn := fun _ => fun
  | [d] => { results := [.lit (.bool false)], args := [d] }
  | _ => none }
def FnExactIsNameWrongFalsely : Prop := fnExactIsNameRow.holds Try.pinned (OpenSpec.ofChange fnExactIsNameWrong)

/-- 'laws.FnExactSplitWords': WHATEVER THE INPUT: true; the input reads as it did. -/
def fnExactSplitWordsSpec : ChangeSpec := { name := "fnExactSplitWords", fn := fun _ => fun
  | [d] => { results := [.lit (.bool true)], args := [d] }
  | _ => none }
def fnExactSplitWordsRow : OpenClaim := { program := "ytcpclgoclconcaa", sum := "456e00c37b5b349d214898e7327d419d34334293ebd2892ff7cac5c983715f8e", func := "loop.example/g01043/laws.FnExactSplitWords", spec := "fnExactSplitWords", unfollowed := true, recurses := true, apart := false }
def FnExactSplitWordsSaid : Prop := fnExactSplitWordsRow.holds Try.pinned (OpenSpec.ofChange fnExactSplitWordsSpec)

/-- ITS FALSE NEIGHBOUR: 'it returns false'. Refute it at one input. -/
def fnExactSplitWordsWrong : ChangeSpec := { name := "fnExactSplitWords", fn := fun _ => fun
  | [d] => { results := [.lit (.bool false)], args := [d] }
  | _ => none }
def FnExactSplitWordsWrongFalsely : Prop := fnExactSplitWordsRow.holds Try.pinned (OpenSpec.ofChange fnExactSplitWordsWrong)

/-- 'laws.FnExactValidFoot': WHATEVER THE INPUT: true; the input reads as it did. -/
def fnExactValidFootSpec : ChangeSpec := { name := "fnExactValidFoot", fn := fun _ => fun
  | [d] => { results := [.lit (.bool true)], args := [d] }
  | _ => none }
def fnExactValidFootRow : OpenClaim := { program := "ytcpclgoclconcaa", sum := "456e00c37b5b349d214898e7327d419d34334293ebd2892ff7cac5c983715f8e", func := "loop.example/g01043/laws.FnExactValidFoot", spec := "fnExactValidFoot", apart := false }
def FnExactValidFootSaid : Prop := fnExactValidFootRow.holds Try.pinned (OpenSpec.ofChange fnExactValidFootSpec)

/-- ITS FALSE NEIGHBOUR: 'it returns false'. Refute it at one input. -/
def fnExactValidFootWrong : ChangeSpec := { name := "fnExactValidFoot", fn := fun _ => fun
  | [d] => { results := [.lit (.bool false)], args := [d] }
  | _ => none }
def FnExactValidFootWrongFalsely : Prop := fnExactValidFootRow.holds Try.pinned (OpenSpec.ofChange fnExactValidFootWrong)

/-- 'laws.FnExactValidFeet': WHATEVER THE INPUT: true; the input reads as it did. -/
def fnExactValidFeetSpec : ChangeSpec := { name := "fnExactValidFeet", fn := fun _ => fun
  | [d] => { results := [.lit (.bool true)], args := [d] }
  | _ => none }
def fnExactValidFeetRow : OpenClaim := { program := "ytcpclgoclconcaa", sum := "456e00c37b5b349d214898e7327d419d34334293ebd2892ff7cac5c983715f8e", func := "loop.example/g01043/laws.FnExactValidFeet", spec := "fnExactValidFeet", apart := false }
def FnExactValidFeetSaid : Prop := fnExactValidFeetRow.holds Try.pinned (OpenSpec.ofChange fnExactValidFeetSpec)

/-- ITS FALSE NEIGHBOUR: 'it returns false'. Refute it at one input. -/
def fnExactValidFeetWrong : ChangeSpec := { name := "fnExactValidFeet", fn := fun _ => fun
  | [d] => { results := [.lit (.bool false)], args := [d] }
  | _ => none }
def FnExactValidFeetWrongFalsely : Prop := fnExactValidFeetRow.holds Try.pinned (OpenSpec.ofChange fnExactValidFeetWrong)

/- THE SECOND FORM. 'bulk': how many values and letters a reading holds, each counted each time it is reached (what is shared counts as often as it is met; a slice's spare places count too). A statement '..UptoSaid' is the law's where the arguments, and the package variables that the reading takes, are together of bulk at most 1048576: NARROWER than '..Said'. Prove '..Said' where nothing that the law and all that it calls make is longer than what came in: it says more and counts as full. Else prove '..UptoSaid'. A law counts once. -/
mutual
def uptoBulk {H : Type} : DataW H → Nat
  | .lit (.string bytes) => bytes.length + 1
  | .lit _ => 1
  | .nil => 1
  | .ptr d => uptoBulk d + 1
  | .slice elems spare => uptoBulkAll elems + uptoBulkAll spare + 1
  | .agg parts => uptoBulkAll parts + 1
  | .iface _ d => uptoBulk d + 1
  | .map entries => uptoBulkEntries entries + 1
  | .held _ => 1
def uptoBulkAll {H : Type} : List (DataW H) → Nat
  | [] => 0
  | d :: r => uptoBulk d + uptoBulkAll r
def uptoBulkEntries {H : Type} : List (Lit × DataW H) → Nat
  | [] => 0
  | x :: r => uptoBulkEntry x + uptoBulkEntries r
def uptoBulkEntry {H : Type} : Lit × DataW H → Nat
  | (.string bytes, d) => bytes.length + uptoBulk d + 1
  | (_, d) => uptoBulk d + 1
 end
def uptoSmall : (H : Type) → List (DataW H) → Bool := fun _ ds => decide (uptoBulkAll ds ≤ 1048576)
def OpenSpec.upto (s : _root_.Go.ChangeSpec) : _root_.Go.OpenSpec := { _root_.Go.OpenSpec.ofChange s with cond := some uptoSmall }

/-- 'laws.FnMiddles', WHERE WHAT IT READS IS OF BULK AT MOST 1048576: true; the input reads as it did. -/
def fnMiddlesUptoRow : OpenClaim := { program := "ytcpclgoclconcaa", sum := "456e00c37b5b349d214898e7327d419d34334293ebd2892ff7cac5c983715f8e", func := "loop.example/g01043/laws.FnMiddles", spec := "fnMiddles", recurses := true, apart := false, narrowed := true }
def FnMiddlesUptoSaid : Prop := fnMiddlesUptoRow.holds Try.pinned (OpenSpec.upto fnMiddlesSpec)

/-- 'laws.FnGrowth', WHERE WHAT IT READS IS OF BULK AT MOST 1048576: true; the input reads as it did. -/
def fnGrowthUptoRow : OpenClaim := { program := "ytcpclgoclconcaa", sum := "456e00c37b5b349d214898e7327d419d34334293ebd2892ff7cac5c983715f8e", func := "loop.example/g01043/laws.FnGrowth", spec := "fnGrowth", apart := false, narrowed := true }
def FnGrowthUptoSaid : Prop := fnGrowthUptoRow.holds Try.pinned (OpenSpec.upto fnGrowthSpec)

/-- 'laws.FnExactIsName', WHERE WHAT IT READS IS OF BULK AT MOST 1048576: true; the input reads as it did. -/
def fnExactIsNameUptoRow : OpenClaim := { program := "ytcpclgoclconcaa", sum := "456e00c37b5b349d214898e7327d419d34334293ebd2892ff7cac5c983715f8e", func := "loop.example/g01043/laws.FnExactIsName", spec := "fnExactIsName", apart := false, narrowed := true }
def FnExactIsNameUptoSaid : Prop := fnExactIsNameUptoRow.holds Try.pinned (OpenSpec.upto fnExactIsNameSpec)

/-- 'laws.FnExactSplitWords', WHERE WHAT IT READS IS OF BULK AT MOST 1048576: true; the input reads as it did. -/
def fnExactSplitWordsUptoRow : OpenClaim := { program := "ytcpclgoclconcaa", sum := "456e00c37b5b349d214898e7327d419d34334293ebd2892ff7cac5c983715f8e", func := "loop.example/g01043/laws.FnExactSplitWords", spec := "fnExactSplitWords", unfollowed := true, recurses := true, apart := false, narrowed := true }
def FnExactSplitWordsUptoSaid : Prop := fnExactSplitWordsUptoRow.holds Try.pinned (OpenSpec.upto fnExactSplitWordsSpec)

/-- 'laws.FnExactValidFoot', WHERE WHAT IT READS IS OF BULK AT MOST 1048576: true; the input reads as it did. -/
def fnExactValidFootUptoRow : OpenClaim := { program := "ytcpclgoclconcaa", sum := "456e00c37b5b349d214898e7327d419d34334293ebd2892ff7cac5c983715f8e", func := "loop.example/g01043/laws.FnExactValidFoot", spec := "fnExactValidFoot", apart := false, narrowed := true }
def FnExactValidFootUptoSaid : Prop := fnExactValidFootUptoRow.holds Try.pinned (OpenSpec.upto fnExactValidFootSpec)

/-- 'laws.FnExactValidFeet', WHERE WHAT IT READS IS OF BULK AT MOST 1048576: true; the input reads as it did. -/
def fnExactValidFeetUptoRow : OpenClaim := { program := "ytcpclgoclconcaa", sum := "456e00c37b5b349d214898e7327d419d34334293ebd2892ff7cac5c983715f8e", func := "loop.example/g01043/laws.FnExactValidFeet", spec := "fnExactValidFeet", apart := false, narrowed := true }
def FnExactValidFeetUptoSaid : Prop := fnExactValidFeetUptoRow.holds Try.pinned (OpenSpec.upto fnExactValidFeetSpec)

end Rows
end Go.Proofs.Ytcpclgoclconcaa
