/-
  No cell of these rows narrows 'for every input' (looked for: loops, veiled, ifaces, maps, wideKeys, modest, calm, conditions, laid).
  DERIVED. THE GIVEN ROWS OF THIS SEAT. 5 by the template 'for every input the law returns true; each argument reads behind the call as it read before'; 0 by the template 'total and deterministic' (their statements: YtbdphbjpcecfaaaTotals.lean).
  GIVEN WITH THE SEED: the statements are not yours to turn. If you find one false, say at which input.
  Laid BY PROGRAM, IN A SANDBOX (cutbox-rows.mjs): the forced cells as the released guide's own fill.sh prints them over the translation 332a01bcc998f4b9… (all of the seat's roots in one cut). By AI agents, Wed Nov 11 2026. No macro, syntax, notation, axiom, sorry.
-/
import Derived.Test.YtbdphbjpcecfaaaChecked
import GoSem.Claim
import GoSem.ClaimJoined
import GoSem.ClaimMapViews
import Derived.JoinedTies
import Derived.KernelRfl
namespace Go.Proofs.Ytbdphbjpcecfaaa
/- THE CELL 'sum', in the pinned program and in every row, IS THE sha256 OF THE DUMP (.gsa) THAT YtbdphbjpcecfaaaProg.lean LOADS. Nothing in Lean hashes anything: it is a label: what it is worth is what the hold of that sum in a sandbox is worth. -/
noncomputable def Try.pinned : Pinned := { name := "ytbdphbjpcecfaaa", sum := "332a01bcc998f4b90887af6dc6825385e885fec9b0c1176d397283dce3fc0fb6", checked := Try.checked }
namespace Rows
def none {H : Type} : Left H := { results := [], args := [] }

/-- 'laws.FnExactAddLast': WHATEVER THE INPUT: true; the input reads as it did. -/
def fnExactAddLastSpec : ChangeSpec := { name := "fnExactAddLast", fn := fun _ => fun
  | [d1, d2] => { results := [.lit (.bool true)], args := [d1, d2] }
  | _ => none }
def fnExactAddLastRow : OpenClaim := { program := "ytbdphbjpcecfaaa", sum := "332a01bcc998f4b90887af6dc6825385e885fec9b0c1176d397283dce3fc0fb6", func := "loop.example/g01043/laws.FnExactAddLast", spec := "fnExactAddLast", unfollowed := true, recurses := true, apart := false }
def FnExactAddLastSaid : Prop := fnExactAddLastRow.holds Try.pinned (OpenSpec.ofChange fnExactAddLastSpec)

/-- ITS FALSE NEIGHBOUR: 'it returns false'. Refute it at one input. -/
def fnExactAddLastWrong : ChangeSpec := { name := "fnExactAddLast", fn := fun _ => fun
  | [d1, d2] => { results := [.lit (.bool false)], args := [d1, d2] }
  | _ => none }
def FnExactAddLastWrongFalsely : Prop := fnExactAddLastRow.holds Try.pinned (OpenSpec.ofChange fnExactAddLastWrong)

/-- 'laws.FnExactAllowedLasts': WHATEVER THE INPUT: true; the input reads as it did. -/
def fnExactAllowedLastsSpec : ChangeSpec := { name := "fnExactAllowedLasts", fn := fun _ => fun
  | [d1, d2, d3] => { results := [.lit (.bool true)], args := [d1, d2, d3] }
  | _ => none }
def fnExactAllowedLastsRow : OpenClaim := { program := "ytbdphbjpcecfaaa", sum := "332a01bcc998f4b90887af6dc6825385e885fec9b0c1176d397283dce3fc0fb6", func := "loop.example/g01043/laws.FnExactAllowedLasts", spec := "fnExactAllowedLasts", unfollowed := true, recurses := true, apart := false }
def FnExactAllowedLastsSaid : Prop := fnExactAllowedLastsRow.holds Try.pinned (OpenSpec.ofChange fnExactAllowedLastsSpec)

/-- ITS FALSE NEIGHBOUR: 'it returns false'. Refute it at one input. -/
def fnExactAllowedLastsWrong : ChangeSpec := { name := "fnExactAllowedLasts", fn := fun _ => fun
  | [d1, d2, d3] => { results := [.lit (.bool false)], args := [d1, d2, d3] }
  | _ => none }
def FnExactAllowedLastsWrongFalsely : Prop := fnExactAllowedLastsRow.holds Try.pinned (OpenSpec.ofChange fnExactAllowedLastsWrong)

/-- 'laws.FnExactBestLast': WHATEVER THE INPUT: true; the input reads as it did. -/
def fnExactBestLastSpec : ChangeSpec := { name := "fnExactBestLast", fn := fun _ => fun
  | [d1, d2, d3] => { results := [.lit (.bool true)], args := [d1, d2, d3] }
  | _ => none }
def fnExactBestLastRow : OpenClaim := { program := "ytbdphbjpcecfaaa", sum := "332a01bcc998f4b90887af6dc6825385e885fec9b0c1176d397283dce3fc0fb6", func := "loop.example/g01043/laws.FnExactBestLast", spec := "fnExactBestLast", inPlace := ["internal/reflectlite.ValueOf", "internal/reflectlite.Swapper", "(internal/reflectlite.Value).Len"], unfollowed := true, recurses := true, apart := false }
def FnExactBestLastSaid : Prop := fnExactBestLastRow.holds Try.pinned (OpenSpec.ofChange fnExactBestLastSpec)

/-- ITS FALSE NEIGHBOUR: 'it returns false'. Refute it at one input. -/
def fnExactBestLastWrong : ChangeSpec := { name := "fnExactBestLast", fn := fun _ => fun
  | [d1, d2, d3] => { results := [.lit (.bool false)], args := [d1, d2, d3] }
  | _ => none }
def FnExactBestLastWrongFalsely : Prop := fnExactBestLastRow.holds Try.pinned (OpenSpec.ofChange fnExactBestLastWrong)

/-- 'laws.FnExactRankLasts': WHATEVER THE INPUT: true; the input reads as it did. -/
def fnExactRankLastsSpec : ChangeSpec := { name := "fnExactRankLasts", fn := fun _ => fun
  | [d1, d2, d3] => { results := [.lit (.bool true)], args := [d1, d2, d3] }
  | _ => none }
def fnExactRankLastsRow : OpenClaim := { program := "ytbdphbjpcecfaaa", sum := "332a01bcc998f4b90887af6dc6825385e885fec9b0c1176d397283dce3fc0fb6", func := "loop.example/g01043/laws.FnExactRankLasts", spec := "fnExactRankLasts", inPlace := ["internal/reflectlite.ValueOf", "internal/reflectlite.Swapper", "(internal/reflectlite.Value).Len"], unfollowed := true, recurses := true, apart := false }
def FnExactRankLastsSaid : Prop := fnExactRankLastsRow.holds Try.pinned (OpenSpec.ofChange fnExactRankLastsSpec)

/-- ITS FALSE NEIGHBOUR: 'it returns false'. Refute it at one input. -/
def fnExactRankLastsWrong : ChangeSpec := { name := "fnExactRankLasts", fn := fun _ => fun
  | [d1, d2, d3] => { results := [.lit (.bool false)], args := [d1, d2, d3] }
  | _ => none }
def FnExactRankLastsWrongFalsely : Prop := fnExactRankLastsRow.holds Try.pinned (OpenSpec.ofChange fnExactRankLastsWrong)

/-- 'laws.FnExactPairLast': WHATEVER THE INPUT: true; the input reads as it did. -/
def fnExactPairLastSpec : ChangeSpec := { name := "fnExactPairLast", fn := fun _ => fun
  | [d1, d2, d3, d4] => { results := [.lit (.bool true)], args := [d1, d2, d3, d4] }
  | _ => none }
def fnExactPairLastRow : OpenClaim := { program := "ytbdphbjpcecfaaa", sum := "332a01bcc998f4b90887af6dc6825385e885fec9b0c1176d397283dce3fc0fb6", func := "loop.example/g01043/laws.FnExactPairLast", spec := "fnExactPairLast", inPlace := ["internal/reflectlite.ValueOf", "internal/reflectlite.Swapper", "(internal/reflectlite.Value).Len"], unfollowed := true, recurses := true, apart := false }
def FnExactPairLastSaid : Prop := fnExactPairLastRow.holds Try.pinned (OpenSpec.ofChange fnExactPairLastSpec)

/-- ITS FALSE NEIGHBOUR: 'it returns false'. Refute it at one input. -/
def fnExactPairLastWrong : ChangeSpec := { name := "fnExactPairLast", fn := fun _ => fun
  | [d1, d2, d3, d4] => { results := [.lit (.bool false)], args := [d1, d2, d3, d4] }
  | _ => none }
def FnExactPairLastWrongFalsely : Prop := fnExactPairLastRow.holds Try.pinned (OpenSpec.ofChange fnExactPairLastWrong)

/- THE SECOND FORM. 'bulk': how many values and letters a reading holds, each counted each time it is reached (what is shared counts as often as it is met; a slice's spare places count too). A statement '..UptoSaid' is the law's where the arguments, and the package variables that the reading takes, are together of bulk at most 1048576: NARROWER than '..Said'. Prove '..Said' where nothing that the law and all that it calls make is longer than what came in: it says more and counts as full. Else prove '..UptoSaid'. A law counts once. -/
mutual
def uptoBulk {H : Type} : DataW H → Nat
  | .lit (.string bytes) => bytes.length + 1
  | .lit _ => 1
  | .nil => 1
  | .ptr d => uptoBulk d + 1
  | .slice elems spare => uptoBulkAll elems + uptoBulkAll spare + 1
  | .agg parts => uptoBulkAll parts + 1
  | .iface _ d => uptoBulk d + 1
  | .map entries => uptoBulkEntries entries + 1
  | .held _ => 1
def uptoBulkAll {H : Type} : List (DataW H) → Nat
  | [] => 0
  | d :: r => uptoBulk d + uptoBulkAll r
def uptoBulkEntries {H : Type} : List (Lit × DataW H) → Nat
  | [] => 0
  | x :: r => uptoBulkEntry x + uptoBulkEntries r
def uptoBulkEntry {H : Type} : Lit × DataW H → Nat
  | (.string bytes, d) => bytes.length + uptoBulk d + 1
  | (_, d) => uptoBulk d + 1
 end
def uptoSmall : (H : Type) → List (DataW H) → Bool := fun _ ds => decide (uptoBulkAll ds ≤ 1048576)
def OpenSpec.upto (s : _root_.Go.ChangeSpec) : _root_.Go.OpenSpec := { _root_.Go.OpenSpec.ofChange s with cond := some uptoSmall }

/-- 'laws.FnExactAddLast', WHERE WHAT IT READS IS OF BULK AT MOST 1048576: true; the input reads as it did. -/
def fnExactAddLastUptoRow : OpenClaim := { program := "ytbdphbjpcecfaaa", sum := "332a01bcc998f4b90887af6dc6825385e885fec9b0c1176d397283dce3fc0fb6", func := "loop.example/g01043/laws.FnExactAddLast", spec := "fnExactAddLast", unfollowed := true, recurses := true, apart := false, narrowed := true }
def FnExactAddLastUptoSaid : Prop := fnExactAddLastUptoRow.holds Try.pinned (OpenSpec.upto fnExactAddLastSpec)

/-- 'laws.FnExactAllowedLasts', WHERE WHAT IT READS IS OF BULK AT MOST 1048576: true; the input reads as it did. -/
def fnExactAllowedLastsUptoRow : OpenClaim := { program := "ytbdphbjpcecfaaa", sum := "332a01bcc998f4b90887af6dc6825385e885fec9b0c1176d397283dce3fc0fb6", func := "loop.example/g01043/laws.FnExactAllowedLasts", spec := "fnExactAllowedLasts", unfollowed := true, recurses := true, apart := false, narrowed := true }
def FnExactAllowedLastsUptoSaid : Prop := fnExactAllowedLastsUptoRow.holds Try.pinned (OpenSpec.upto fnExactAllowedLastsSpec)

/-- 'laws.FnExactBestLast', WHERE WHAT IT READS IS OF BULK AT MOST 1048576: true; the input reads as it did. -/
def fnExactBestLastUptoRow : OpenClaim := { program := "ytbdphbjpcecfaaa", sum := "332a01bcc998f4b90887af6dc6825385e885fec9b0c1176d397283dce3fc0fb6", func := "loop.example/g01043/laws.FnExactBestLast", spec := "fnExactBestLast", inPlace := ["internal/reflectlite.ValueOf", "internal/reflectlite.Swapper", "(internal/reflectlite.Value).Len"], unfollowed := true, recurses := true, apart := false, narrowed := true }
def FnExactBestLastUptoSaid : Prop := fnExactBestLastUptoRow.holds Try.pinned (OpenSpec.upto fnExactBestLastSpec)

/-- 'laws.FnExactRankLasts', WHERE WHAT IT READS IS OF BULK AT MOST 1048576: true; the input reads as it did. -/
def fnExactRankLastsUptoRow : OpenClaim := { program := "ytbdphbjpcecfaaa", sum := "332a01bcc998f4b90887af6dc6825385e885fec9b0c1176d397283dce3fc0fb6", func := "loop.example/g01043/laws.FnExactRankLasts", spec := "fnExactRankLasts", inPlace := ["internal/reflectlite.ValueOf", "internal/reflectlite.Swapper", "(internal/reflectlite.Value).Len"], unfollowed := true, recurses := true, apart := false, narrowed := true }
def FnExactRankLastsUptoSaid : Prop := fnExactRankLastsUptoRow.holds Try.pinned (OpenSpec.upto fnExactRankLastsSpec)

/-- 'laws.FnExactPairLast', WHERE WHAT IT READS IS OF BULK AT MOST 1048576: true; the input reads as it did. -/
def fnExactPairLastUptoRow : OpenClaim := { program := "ytbdphbjpcecfaaa", sum := "332a01bcc998f4b90887af6dc6825385e885fec9b0c1176d397283dce3fc0fb6", func := "loop.example/g01043/laws.FnExactPairLast", spec := "fnExactPairLast", inPlace := ["internal/reflectlite.ValueOf", "internal/reflectlite.Swapper", "(internal/reflectlite.Value).Len"], unfollowed := true, recurses := true, apart := false, narrowed := true }
def FnExactPairLastUptoSaid : Prop := fnExactPairLastUptoRow.holds Try.pinned (OpenSpec.upto fnExactPairLastSpec)

end Rows
end Go.Proofs.Ytbdphbjpcecfaaa
