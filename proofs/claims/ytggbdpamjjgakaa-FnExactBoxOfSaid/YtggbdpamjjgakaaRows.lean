/-
  No cell of these rows narrows 'for every input' (looked for: loops, veiled, ifaces, maps, wideKeys, modest, calm, conditions, laid).
  DERIVED. THE GIVEN ROWS OF THIS SEAT. 11 by the template 'for every input the law returns true; each argument reads behind the call as it read before'; 0 by the template 'total and deterministic' (their statements: YtggbdpamjjgakaaTotals.lean).
  GIVEN WITH THE SEED: the statements are not yours to turn. If you find one false, say at which input.
  Laid BY PROGRAM, IN A SANDBOX (cutbox-rows.mjs): the forced cells as the released guide's own fill.sh prints them over the translation efc3ad56ef527c8d… (all of the seat's roots in one cut). By AI agents, Wed Nov 11 2026. No macro, syntax, notation, axiom, sorry.
-/
import Derived.Test.YtggbdpamjjgakaaChecked
import GoSem.Claim
import GoSem.ClaimJoined
import GoSem.ClaimMapViews
import Derived.JoinedTies
import Derived.KernelRfl
namespace Go.Proofs.Ytggbdpamjjgakaa
/- THE CELL 'sum', in the pinned program and in every row, IS THE sha256 OF THE DUMP (.gsa) THAT YtggbdpamjjgakaaProg.lean LOADS. Nothing in Lean hashes anything: it is a label: what it is worth is what the hold of that sum in a sandbox is worth. -/
noncomputable def Try.pinned : Pinned := { name := "ytggbdpamjjgakaa", sum := "efc3ad56ef527c8d450b7975ecad32e864f57cdfa452f060447c62ff724a4e1c", checked := Try.checked }
namespace Rows
def none {H : Type} : Left H := { results := [], args := [] }

/-- 'laws.FnExactValidOutline': WHATEVER THE INPUT: true; the input reads as it did. -/
def fnExactValidOutlineSpec : ChangeSpec := { name := "fnExactValidOutline", fn := fun _ => fun
  | [d] => { results := [.lit (.bool true)], args := [d] }
  | _ => none }
def fnExactValidOutlineRow : OpenClaim := { program := "ytggbdpamjjgakaa", sum := "efc3ad56ef527c8d450b7975ecad32e864f57cdfa452f060447c62ff724a4e1c", func := "loop.example/g01043/laws.FnExactValidOutline", spec := "fnExactValidOutline", unfollowed := true, recurses := true, apart := false }
def FnExactValidOutlineSaid : Prop := fnExactValidOutlineRow.holds Try.pinned (OpenSpec.ofChange fnExactValidOutlineSpec)

/-- ITS FALSE NEIGHBOUR: 'it returns false'. Refute it at one input. -/
def fnExactValidOutlineWrong : ChangeSpec := { name := "fnExactValidOutline", fn := fun _ => fun
  | [d] => { results := [.lit (.bool false)], args := [d] }
  | _ => none }
def FnExactValidOutlineWrongFalsely : Prop := fnExactValidOutlineRow.holds Try.pinned (OpenSpec.ofChange fnExactValidOutlineWrong)

/-- 'laws.FnExactSameOutline': WHATEVER THE INPUT: true; the input reads as it did. -/
def fnExactSameOutlineSpec : ChangeSpec := { name := "fnExactSameOutline", fn := fun _ => fun
  | [d1, d2] => { results := [.lit (.bool true)], args := [d1, d2] }
  | _ => none }
def fnExactSameOutlineRow : OpenClaim := { program := "ytggbdpamjjgakaa", sum := "efc3ad56ef527c8d450b7975ecad32e864f57cdfa452f060447c62ff724a4e1c", func := "loop.example/g01043/laws.FnExactSameOutline", spec := "fnExactSameOutline", apart := false }
def FnExactSameOutlineSaid : Prop := fnExactSameOutlineRow.holds Try.pinned (OpenSpec.ofChange fnExactSameOutlineSpec)

/-- ITS FALSE NEIGHBOUR: 'it returns false'. Refute it at one input. -/
def fnExactSameOutlineWrong : ChangeSpec := { name := "fnExactSameOutline", fn := fun _ => fun
  | [d1, d2] => { results := [.lit (.bool false)], args := [d1, d2] }
  | _ => none }
def FnExactSameOutlineWrongFalsely : Prop := fnExactSameOutlineRow.holds Try.pinned (OpenSpec.ofChange fnExactSameOutlineWrong)

/-- 'laws.FnExactTwiceArea': WHATEVER THE INPUT: true; the input reads as it did. -/
def fnExactTwiceAreaSpec : ChangeSpec := { name := "fnExactTwiceArea", fn := fun _ => fun
  | [d] => { results := [.lit (.bool true)], args := [d] }
  | _ => none }
def fnExactTwiceAreaRow : OpenClaim := { program := "ytggbdpamjjgakaa", sum := "efc3ad56ef527c8d450b7975ecad32e864f57cdfa452f060447c62ff724a4e1c", func := "loop.example/g01043/laws.FnExactTwiceArea", spec := "fnExactTwiceArea", unfollowed := true, recurses := true, apart := false }
def FnExactTwiceAreaSaid : Prop := fnExactTwiceAreaRow.holds Try.pinned (OpenSpec.ofChange fnExactTwiceAreaSpec)

/-- ITS FALSE NEIGHBOUR: 'it returns false'. Refute it at one input. -/
def fnExactTwiceAreaWrong : ChangeSpec := { name := "fnExactTwiceArea", fn := fun _ => fun
  | [d] => { results := [.lit (.bool false)], args := [d] }
  | _ => none }
def FnExactTwiceAreaWrongFalsely : Prop := fnExactTwiceAreaRow.holds Try.pinned (OpenSpec.ofChange fnExactTwiceAreaWrong)

/-- 'laws.FnExactIsLeftHanded': WHATEVER THE INPUT: true; the input reads as it did. -/
def fnExactIsLeftHandedSpec : ChangeSpec := { name := "fnExactIsLeftHanded", fn := fun _ => fun
  | [d] => { results := [.lit (.bool true)], args := [d] }
  | _ => none }
def fnExactIsLeftHandedRow : OpenClaim := { program := "ytggbdpamjjgakaa", sum := "efc3ad56ef527c8d450b7975ecad32e864f57cdfa452f060447c62ff724a4e1c", func := "loop.example/g01043/laws.FnExactIsLeftHanded", spec := "fnExactIsLeftHanded", unfollowed := true, recurses := true, apart := false }
def FnExactIsLeftHandedSaid : Prop := fnExactIsLeftHandedRow.holds Try.pinned (OpenSpec.ofChange fnExactIsLeftHandedSpec)

/-- ITS FALSE NEIGHBOUR: 'it returns false'. Refute it at one input. -/
def fnExactIsLeftHandedWrong : ChangeSpec := { name := "fnExactIsLeftHanded", fn := fun _ => fun
  | [d] => { results := [.lit (.bool false)], args := [d] }
  | _ => none }
def FnExactIsLeftHandedWrongFalsely : Prop := fnExactIsLeftHandedRow.holds Try.pinned (OpenSpec.ofChange fnExactIsLeftHandedWrong)

/-- 'laws.FnExactPlaceOfSpot': WHATEVER THE INPUT: true; the input reads as it did. -/
def fnExactPlaceOfSpotSpec : ChangeSpec := { name := "fnExactPlaceOfSpot", fn := fun _ => fun
  | [d1, d2] => { results := [.lit (.bool true)], args := [d1, d2] }
  | _ => none }
def fnExactPlaceOfSpotRow : OpenClaim := { program := "ytggbdpamjjgakaa", sum := "efc3ad56ef527c8d450b7975ecad32e864f57cdfa452f060447c62ff724a4e1c", func := "loop.example/g01043/laws.FnExactPlaceOfSpot", spec := "fnExactPlaceOfSpot", unfollowed := true, recurses := true, apart := false }
def FnExactPlaceOfSpotSaid : Prop := fnExactPlaceOfSpotRow.holds Try.pinned (OpenSpec.ofChange fnExactPlaceOfSpotSpec)

/-- ITS FALSE NEIGHBOUR: 'it returns false'. Refute it at one input. -/
def fnExactPlaceOfSpotWrong : ChangeSpec := { name := "fnExactPlaceOfSpot", fn := fun _ => fun
  | [d1, d2] => { results := [.lit (.bool false)], args := [d1, d2] }
  | _ => none }
def FnExactPlaceOfSpotWrongFalsely : Prop := fnExactPlaceOfSpotRow.holds Try.pinned (OpenSpec.ofChange fnExactPlaceOfSpotWrong)

/-- 'laws.FnExactBoxOf': WHATEVER THE INPUT: true; the input reads as it did. -/
def fnExactBoxOfSpec : ChangeSpec := { name := "fnExactBoxOf", fn := fun _ => fun
  | [d] => { results := [.lit (.bool true)], args := [d] }
  | _ => none }
def fnExactBoxOfRow : OpenClaim := { program := "ytggbdpamjjgakaa", sum := "efc3ad56ef527c8d450b7975ecad32e864f57cdfa452f060447c62ff724a4e1c", func := "loop.example/g01043/laws.FnExactBoxOf", spec := "fnExactBoxOf", unfollowed := true, recurses := true, apart := false }
def FnExactBoxOfSaid : Prop := fnExactBoxOfRow.holds Try.pinned (OpenSpec.ofChange fnExactBoxOfSpec)

/-- ITS FALSE NEIGHBOUR: 'it returns false'. Refute it at one input. -/
def fnExactBoxOfWrong : ChangeSpec := { name := "fnExactBoxOf", fn := fun _ => fun
  | [d] => { results := [.lit (.bool false)], args := [d] }
  | _ => none }
def FnExactBoxOfWrongFalsely : Prop := fnExactBoxOfRow.holds Try.pinned (OpenSpec.ofChange fnExactBoxOfWrong)

/-- 'laws.FnExactHullOf': WHATEVER THE INPUT: true; the input reads as it did. -/
def fnExactHullOfSpec : ChangeSpec := { name := "fnExactHullOf", fn := fun _ => fun
  | [d] => { results := [.lit (.bool true)], args := [d] }
  | _ => none }
def fnExactHullOfRow : OpenClaim := { program := "ytggbdpamjjgakaa", sum := "efc3ad56ef527c8d450b7975ecad32e864f57cdfa452f060447c62ff724a4e1c", func := "loop.example/g01043/laws.FnExactHullOf", spec := "fnExactHullOf", unfollowed := true, recurses := true, apart := false }
def FnExactHullOfSaid : Prop := fnExactHullOfRow.holds Try.pinned (OpenSpec.ofChange fnExactHullOfSpec)

/-- ITS FALSE NEIGHBOUR: 'it returns false'. Refute it at one input. -/
def fnExactHullOfWrong : ChangeSpec := { name := "fnExactHullOf", fn := fun _ => fun
  | [d] => { results := [.lit (.bool false)], args := [d] }
  | _ => none }
def FnExactHullOfWrongFalsely : Prop := fnExactHullOfRow.holds Try.pinned (OpenSpec.ofChange fnExactHullOfWrong)

/-- 'laws.FnExactIsHollow': WHATEVER THE INPUT: true; the input reads as it did. -/
def fnExactIsHollowSpec : ChangeSpec := { name := "fnExactIsHollow", fn := fun _ => fun
  | [d] => { results := [.lit (.bool true)], args := [d] }
  | _ => none }
def fnExactIsHollowRow : OpenClaim := { program := "ytggbdpamjjgakaa", sum := "efc3ad56ef527c8d450b7975ecad32e864f57cdfa452f060447c62ff724a4e1c", func := "loop.example/g01043/laws.FnExactIsHollow", spec := "fnExactIsHollow", unfollowed := true, recurses := true, apart := false }
def FnExactIsHollowSaid : Prop := fnExactIsHollowRow.holds Try.pinned (OpenSpec.ofChange fnExactIsHollowSpec)

/-- ITS FALSE NEIGHBOUR: 'it returns false'. Refute it at one input. -/
def fnExactIsHollowWrong : ChangeSpec := { name := "fnExactIsHollow", fn := fun _ => fun
  | [d] => { results := [.lit (.bool false)], args := [d] }
  | _ => none }
def FnExactIsHollowWrongFalsely : Prop := fnExactIsHollowRow.holds Try.pinned (OpenSpec.ofChange fnExactIsHollowWrong)

/-- 'laws.FnExactMirrorOutline': WHATEVER THE INPUT: true; the input reads as it did. -/
def fnExactMirrorOutlineSpec : ChangeSpec := { name := "fnExactMirrorOutline", fn := fun _ => fun
  | [d] => { results := [.lit (.bool true)], args := [d] }
  | _ => none }
def fnExactMirrorOutlineRow : OpenClaim := { program := "ytggbdpamjjgakaa", sum := "efc3ad56ef527c8d450b7975ecad32e864f57cdfa452f060447c62ff724a4e1c", func := "loop.example/g01043/laws.FnExactMirrorOutline", spec := "fnExactMirrorOutline", unfollowed := true, recurses := true, apart := false }
def FnExactMirrorOutlineSaid : Prop := fnExactMirrorOutlineRow.holds Try.pinned (OpenSpec.ofChange fnExactMirrorOutlineSpec)

/-- ITS FALSE NEIGHBOUR: 'it returns false'. Refute it at one input. -/
def fnExactMirrorOutlineWrong : ChangeSpec := { name := "fnExactMirrorOutline", fn := fun _ => fun
  | [d] => { results := [.lit (.bool false)], args := [d] }
  | _ => none }
def FnExactMirrorOutlineWrongFalsely : Prop := fnExactMirrorOutlineRow.holds Try.pinned (OpenSpec.ofChange fnExactMirrorOutlineWrong)

/-- 'laws.FnExactTurnOutline': WHATEVER THE INPUT: true; the input reads as it did. -/
def fnExactTurnOutlineSpec : ChangeSpec := { name := "fnExactTurnOutline", fn := fun _ => fun
  | [d1, d2] => { results := [.lit (.bool true)], args := [d1, d2] }
  | _ => none }
def fnExactTurnOutlineRow : OpenClaim := { program := "ytggbdpamjjgakaa", sum := "efc3ad56ef527c8d450b7975ecad32e864f57cdfa452f060447c62ff724a4e1c", func := "loop.example/g01043/laws.FnExactTurnOutline", spec := "fnExactTurnOutline", unfollowed := true, recurses := true, apart := false }
def FnExactTurnOutlineSaid : Prop := fnExactTurnOutlineRow.holds Try.pinned (OpenSpec.ofChange fnExactTurnOutlineSpec)

/-- ITS FALSE NEIGHBOUR: 'it returns false'. Refute it at one input. -/
def fnExactTurnOutlineWrong : ChangeSpec := { name := "fnExactTurnOutline", fn := fun _ => fun
  | [d1, d2] => { results := [.lit (.bool false)], args := [d1, d2] }
  | _ => none }
def FnExactTurnOutlineWrongFalsely : Prop := fnExactTurnOutlineRow.holds Try.pinned (OpenSpec.ofChange fnExactTurnOutlineWrong)

/-- 'laws.FnExactSpotsInside': WHATEVER THE INPUT: true; the input reads as it did. -/
def fnExactSpotsInsideSpec : ChangeSpec := { name := "fnExactSpotsInside", fn := fun _ => fun
  | [d] => { results := [.lit (.bool true)], args := [d] }
  | _ => none }
def fnExactSpotsInsideRow : OpenClaim := { program := "ytggbdpamjjgakaa", sum := "efc3ad56ef527c8d450b7975ecad32e864f57cdfa452f060447c62ff724a4e1c", func := "loop.example/g01043/laws.FnExactSpotsInside", spec := "fnExactSpotsInside", unfollowed := true, recurses := true, apart := false }
def FnExactSpotsInsideSaid : Prop := fnExactSpotsInsideRow.holds Try.pinned (OpenSpec.ofChange fnExactSpotsInsideSpec)

/-- ITS FALSE NEIGHBOUR: 'it returns false'. Refute it at one input. -/
def fnExactSpotsInsideWrong : ChangeSpec := { name := "fnExactSpotsInside", fn := fun _ => fun
  | [d] => { results := [.lit (.bool false)], args := [d] }
  | _ => none }
def FnExactSpotsInsideWrongFalsely : Prop := fnExactSpotsInsideRow.holds Try.pinned (OpenSpec.ofChange fnExactSpotsInsideWrong)

/- THE SECOND FORM. 'bulk': how many values and letters a reading holds, each counted each time it is reached (what is shared counts as often as it is met; a slice's spare places count too). A statement '..UptoSaid' is the law's where the arguments, and the package variables that the reading takes, are together of bulk at most 1048576: NARROWER than '..Said'. Prove '..Said' where nothing that the law and all that it calls make is longer than what came in: it says more and counts as full. Else prove '..UptoSaid'. A law counts once. -/
mutual
def uptoBulk {H : Type} : DataW H → Nat
  | .lit (.string bytes) => bytes.length + 1
  | .lit _ => 1
  | .nil => 1
  | .ptr d => uptoBulk d + 1
  | .slice elems spare => uptoBulkAll elems + uptoBulkAll spare + 1
  | .agg parts => uptoBulkAll parts + 1
  | .iface _ d => uptoBulk d + 1
  | .map entries => uptoBulkEntries entries + 1
  | .held _ => 1
def uptoBulkAll {H : Type} : List (DataW H) → Nat
  | [] => 0
  | d :: r => uptoBulk d + uptoBulkAll r
def uptoBulkEntries {H : Type} : List (Lit × DataW H) → Nat
  | [] => 0
  | x :: r => uptoBulkEntry x + uptoBulkEntries r
def uptoBulkEntry {H : Type} : Lit × DataW H → Nat
  | (.string bytes, d) => bytes.length + uptoBulk d + 1
  | (_, d) => uptoBulk d + 1
 end
def uptoSmall : (H : Type) → List (DataW H) → Bool := fun _ ds => decide (uptoBulkAll ds ≤ 1048576)
def OpenSpec.upto (s : _root_.Go.ChangeSpec) : _root_.Go.OpenSpec := { _root_.Go.OpenSpec.ofChange s with cond := some uptoSmall }

/-- 'laws.FnExactValidOutline', WHERE WHAT IT READS IS OF BULK AT MOST 1048576: true; the input reads as it did. -/
def fnExactValidOutlineUptoRow : OpenClaim := { program := "ytggbdpamjjgakaa", sum := "efc3ad56ef527c8d450b7975ecad32e864f57cdfa452f060447c62ff724a4e1c", func := "loop.example/g01043/laws.FnExactValidOutline", spec := "fnExactValidOutline", unfollowed := true, recurses := true, apart := false, narrowed := true }
def FnExactValidOutlineUptoSaid : Prop := fnExactValidOutlineUptoRow.holds Try.pinned (OpenSpec.upto fnExactValidOutlineSpec)

/-- 'laws.FnExactSameOutline', WHERE WHAT IT READS IS OF BULK AT MOST 1048576: true; the input reads as it did. -/
def fnExactSameOutlineUptoRow : OpenClaim := { program := "ytggbdpamjjgakaa", sum := "efc3ad56ef527c8d450b7975ecad32e864f57cdfa452f060447c62ff724a4e1c", func := "loop.example/g01043/laws.FnExactSameOutline", spec := "fnExactSameOutline", apart := false, narrowed := true }
def FnExactSameOutlineUptoSaid : Prop := fnExactSameOutlineUptoRow.holds Try.pinned (OpenSpec.upto fnExactSameOutlineSpec)

/-- 'laws.FnExactTwiceArea', WHERE WHAT IT READS IS OF BULK AT MOST 1048576: true; the input reads as it did. -/
def fnExactTwiceAreaUptoRow : OpenClaim := { program := "ytggbdpamjjgakaa", sum := "efc3ad56ef527c8d450b7975ecad32e864f57cdfa452f060447c62ff724a4e1c", func := "loop.example/g01043/laws.FnExactTwiceArea", spec := "fnExactTwiceArea", unfollowed := true, recurses := true, apart := false, narrowed := true }
def FnExactTwiceAreaUptoSaid : Prop := fnExactTwiceAreaUptoRow.holds Try.pinned (OpenSpec.upto fnExactTwiceAreaSpec)

/-- 'laws.FnExactIsLeftHanded', WHERE WHAT IT READS IS OF BULK AT MOST 1048576: true; the input reads as it did. -/
def fnExactIsLeftHandedUptoRow : OpenClaim := { program := "ytggbdpamjjgakaa", sum := "efc3ad56ef527c8d450b7975ecad32e864f57cdfa452f060447c62ff724a4e1c", func := "loop.example/g01043/laws.FnExactIsLeftHanded", spec := "fnExactIsLeftHanded", unfollowed := true, recurses := true, apart := false, narrowed := true }
def FnExactIsLeftHandedUptoSaid : Prop := fnExactIsLeftHandedUptoRow.holds Try.pinned (OpenSpec.upto fnExactIsLeftHandedSpec)

/-- 'laws.FnExactPlaceOfSpot', WHERE WHAT IT READS IS OF BULK AT MOST 1048576: true; the input reads as it did. -/
def fnExactPlaceOfSpotUptoRow : OpenClaim := { program := "ytggbdpamjjgakaa", sum := "efc3ad56ef527c8d450b7975ecad32e864f57cdfa452f060447c62ff724a4e1c", func := "loop.example/g01043/laws.FnExactPlaceOfSpot", spec := "fnExactPlaceOfSpot", unfollowed := true, recurses := true, apart := false, narrowed := true }
def FnExactPlaceOfSpotUptoSaid : Prop := fnExactPlaceOfSpotUptoRow.holds Try.pinned (OpenSpec.upto fnExactPlaceOfSpotSpec)

/-- 'laws.FnExactBoxOf', WHERE WHAT IT READS IS OF BULK AT MOST 1048576: true; the input reads as it did. -/
def fnExactBoxOfUptoRow : OpenClaim := { program := "ytggbdpamjjgakaa", sum := "efc3ad56ef527c8d450b7975ecad32e864f57cdfa452f060447c62ff724a4e1c", func := "loop.example/g01043/laws.FnExactBoxOf", spec := "fnExactBoxOf", unfollowed := true, recurses := true, apart := false, narrowed := true }
def FnExactBoxOfUptoSaid : Prop := fnExactBoxOfUptoRow.holds Try.pinned (OpenSpec.upto fnExactBoxOfSpec)

/-- 'laws.FnExactHullOf', WHERE WHAT IT READS IS OF BULK AT MOST 1048576: true; the input reads as it did. -/
def fnExactHullOfUptoRow : OpenClaim := { program := "ytggbdpamjjgakaa", sum := "efc3ad56ef527c8d450b7975ecad32e864f57cdfa452f060447c62ff724a4e1c", func := "loop.example/g01043/laws.FnExactHullOf", spec := "fnExactHullOf", unfollowed := true, recurses := true, apart := false, narrowed := true }
def FnExactHullOfUptoSaid : Prop := fnExactHullOfUptoRow.holds Try.pinned (OpenSpec.upto fnExactHullOfSpec)

/-- 'laws.FnExactIsHollow', WHERE WHAT IT READS IS OF BULK AT MOST 1048576: true; the input reads as it did. -/
def fnExactIsHollowUptoRow : OpenClaim := { program := "ytggbdpamjjgakaa", sum := "efc3ad56ef527c8d450b7975ecad32e864f57cdfa452f060447c62ff724a4e1c", func := "loop.example/g01043/laws.FnExactIsHollow", spec := "fnExactIsHollow", unfollowed := true, recurses := true, apart := false, narrowed := true }
def FnExactIsHollowUptoSaid : Prop := fnExactIsHollowUptoRow.holds Try.pinned (OpenSpec.upto fnExactIsHollowSpec)

/-- 'laws.FnExactMirrorOutline', WHERE WHAT IT READS IS OF BULK AT MOST 1048576: true; the input reads as it did. -/
def fnExactMirrorOutlineUptoRow : OpenClaim := { program := "ytggbdpamjjgakaa", sum := "efc3ad56ef527c8d450b7975ecad32e864f57cdfa452f060447c62ff724a4e1c", func := "loop.example/g01043/laws.FnExactMirrorOutline", spec := "fnExactMirrorOutline", unfollowed := true, recurses := true, apart := false, narrowed := true }
def FnExactMirrorOutlineUptoSaid : Prop := fnExactMirrorOutlineUptoRow.holds Try.pinned (OpenSpec.upto fnExactMirrorOutlineSpec)

/-- 'laws.FnExactTurnOutline', WHERE WHAT IT READS IS OF BULK AT MOST 1048576: true; the input reads as it did. -/
def fnExactTurnOutlineUptoRow : OpenClaim := { program := "ytggbdpamjjgakaa", sum := "efc3ad56ef527c8d450b7975ecad32e864f57cdfa452f060447c62ff724a4e1c", func := "loop.example/g01043/laws.FnExactTurnOutline", spec := "fnExactTurnOutline", unfollowed := true, recurses := true, apart := false, narrowed := true }
def FnExactTurnOutlineUptoSaid : Prop := fnExactTurnOutlineUptoRow.holds Try.pinned (OpenSpec.upto fnExactTurnOutlineSpec)

/-- 'laws.FnExactSpotsInside', WHERE WHAT IT READS IS OF BULK AT MOST 1048576: true; the input reads as it did. -/
def fnExactSpotsInsideUptoRow : OpenClaim := { program := "ytggbdpamjjgakaa", sum := "efc3ad56ef527c8d450b7975ecad32e864f57cdfa452f060447c62ff724a4e1c", func := "loop.example/g01043/laws.FnExactSpotsInside", spec := "fnExactSpotsInside", unfollowed := true, recurses := true, apart := false, narrowed := true }
def FnExactSpotsInsideUptoSaid : Prop := fnExactSpotsInsideUptoRow.holds Try.pinned (OpenSpec.upto fnExactSpotsInsideSpec)

end Rows
end Go.Proofs.Ytggbdpamjjgakaa
