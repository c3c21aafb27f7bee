/-
  NARROWER THAN 'FOR EVERY INPUT', by the rows' own cells (each row's printed sentence says how): FnExactValidStrips: ifaces, laid · FnExactCutLengths: ifaces, laid · FnExactRoundStrips: ifaces, laid · FnExactAddAllow: ifaces, laid · FnExactAllowArea: ifaces, laid · FnExactNotchesOf: ifaces, laid · FnExactNotchFault: ifaces, laid · FnExactEaseOf: ifaces, laid · FnExactFoldLength: ifaces, laid · FnExactStripText: ifaces, laid · FnExactReadStrip: ifaces, laid.
  DERIVED. THE GIVEN ROWS OF THIS SEAT. 11 by the template 'for every input the law returns true; each argument reads behind the call as it read before'; 0 by the template 'total and deterministic' (their statements: YtpmmfalpcooenaaDoorTotals.lean).
  GIVEN WITH THE SEED: the statements are not yours to turn. If you find one false, say at which input.
  Laid BY PROGRAM, IN A SANDBOX (cutbox-rows.mjs): the forced cells as the released guide's own fill.sh prints them over the translation 7b50753281a61aa6… (all of the seat's roots in one cut). By AI agents, Wed Nov 11 2026. No macro, syntax, notation, axiom, sorry.
-/
import Derived.Test.YtpmmfalpcooenaaDoorChecked
import GoSem.Claim
import GoSem.ClaimJoined
import GoSem.ClaimMapViews
import Derived.JoinedTies
import Derived.KernelRfl
namespace Go.Proofs.YtpmmfalpcooenaaDoor
/- THE CELL 'sum', in the pinned program and in every row, IS THE sha256 OF THE DUMP (.gsa) THAT YtpmmfalpcooenaaDoorProg.lean LOADS. Nothing in Lean hashes anything: it is a label: what it is worth is what the hold of that sum in a sandbox is worth. -/
noncomputable def Tryd.pinned : Pinned := { name := "ytpmmfalpcooenaadoor", sum := "7b50753281a61aa615eb9e94d72a70a695fa59e138799aceae86bd23961cdfed", checked := Tryd.checked }
namespace Rows
def none {H : Type} : Left H := { results := [], args := [] }

/- WHAT THE LISTED PACKAGE-LEVEL VARIABLES READ AS WHEN THE CALL BEGINS. Each datum BY PROGRAM (the guide's laid-datum.mjs) off the statement by which the dump's own 'gosem.cut.vars' lays the variable. In a bare row this is a premise. The card (YtpmmfalpcooenaaDoorCards.lean) ties it to the program's text. -/
def laid_loop_example_g01043_impl_errCount {H : Type} : DataW H := .iface "*errors.errorString" (.ptr (.agg [.lit (.string [116, 111, 111, 32, 102, 101, 119, 32, 111, 114, 32, 116, 111, 111, 32, 109, 97, 110, 121])]))
def laid_loop_example_g01043_impl_errOutside {H : Type} : DataW H := .iface "*errors.errorString" (.ptr (.agg [.lit (.string [97, 32, 110, 117, 109, 98, 101, 114, 32, 105, 115, 32, 111, 117, 116, 32, 111, 102, 32, 105, 116, 115, 32, 114, 97, 110, 103, 101])]))
def laid_errors_errorType {H : Type} : DataW H := .iface "internal/reflectlite.rtype" (.agg [.ptr (.lit (.string [101, 114, 114, 111, 114]))])
def laid_loop_example_g01043_impl_errOrder {H : Type} : DataW H := .iface "*errors.errorString" (.ptr (.agg [.lit (.string [116, 104, 101, 32, 110, 117, 109, 98, 101, 114, 115, 32, 100, 111, 32, 110, 111, 116, 32, 105, 110, 99, 114, 101, 97, 115, 101])]))
def laid_math_bits_deBruijn32tab {H : Type} : DataW H := .agg [.lit (.int .u8 0), .lit (.int .u8 1), .lit (.int .u8 28), .lit (.int .u8 2), .lit (.int .u8 29), .lit (.int .u8 14), .lit (.int .u8 24), .lit (.int .u8 3), .lit (.int .u8 30), .lit (.int .u8 22), .lit (.int .u8 20), .lit (.int .u8 15), .lit (.int .u8 25), .lit (.int .u8 17), .lit (.int .u8 4), .lit (.int .u8 8), .lit (.int .u8 31), .lit (.int .u8 27), .lit (.int .u8 13), .lit (.int .u8 23), .lit (.int .u8 21), .lit (.int .u8 19), .lit (.int .u8 16), .lit (.int .u8 7), .lit (.int .u8 26), .lit (.int .u8 12), .lit (.int .u8 18), .lit (.int .u8 6), .lit (.int .u8 11), .lit (.int .u8 5), .lit (.int .u8 10), .lit (.int .u8 9)]
def laid_math_bits_deBruijn64tab {H : Type} : DataW H := .agg [.lit (.int .u8 0), .lit (.int .u8 1), .lit (.int .u8 56), .lit (.int .u8 2), .lit (.int .u8 57), .lit (.int .u8 49), .lit (.int .u8 28), .lit (.int .u8 3), .lit (.int .u8 61), .lit (.int .u8 58), .lit (.int .u8 42), .lit (.int .u8 50), .lit (.int .u8 38), .lit (.int .u8 29), .lit (.int .u8 17), .lit (.int .u8 4), .lit (.int .u8 62), .lit (.int .u8 47), .lit (.int .u8 59), .lit (.int .u8 36), .lit (.int .u8 45), .lit (.int .u8 43), .lit (.int .u8 51), .lit (.int .u8 22), .lit (.int .u8 53), .lit (.int .u8 39), .lit (.int .u8 33), .lit (.int .u8 30), .lit (.int .u8 24), .lit (.int .u8 18), .lit (.int .u8 12), .lit (.int .u8 5), .lit (.int .u8 63), .lit (.int .u8 55), .lit (.int .u8 48), .lit (.int .u8 27), .lit (.int .u8 60), .lit (.int .u8 41), .lit (.int .u8 37), .lit (.int .u8 16), .lit (.int .u8 46), .lit (.int .u8 35), .lit (.int .u8 44), .lit (.int .u8 21), .lit (.int .u8 52), .lit (.int .u8 32), .lit (.int .u8 23), .lit (.int .u8 11), .lit (.int .u8 54), .lit (.int .u8 26), .lit (.int .u8 40), .lit (.int .u8 15), .lit (.int .u8 34), .lit (.int .u8 20), .lit (.int .u8 31), .lit (.int .u8 10), .lit (.int .u8 25), .lit (.int .u8 14), .lit (.int .u8 19), .lit (.int .u8 9), .lit (.int .u8 13), .lit (.int .u8 8), .lit (.int .u8 7), .lit (.int .u8 6)]
def laid_internal_strconv_uint64pow10 {H : Type} : DataW H := .agg [.lit (.int .u64 1), .lit (.int .u64 10), .lit (.int .u64 100), .lit (.int .u64 1000), .lit (.int .u64 10000), .lit (.int .u64 100000), .lit (.int .u64 1000000), .lit (.int .u64 10000000), .lit (.int .u64 100000000), .lit (.int .u64 1000000000), .lit (.int .u64 10000000000), .lit (.int .u64 100000000000), .lit (.int .u64 1000000000000), .lit (.int .u64 10000000000000), .lit (.int .u64 100000000000000), .lit (.int .u64 1000000000000000), .lit (.int .u64 10000000000000000), .lit (.int .u64 100000000000000000), .lit (.int .u64 1000000000000000000), .lit (.int .u64 10000000000000000000)]
def laid_loop_example_g01043_impl_stripMarks {H : Type} : DataW H := .agg [.lit (.string [43]), .lit (.string [40]), .lit (.string [44]), .lit (.string [41])]
def laid_strconv_ErrRange {H : Type} : DataW H := .iface "*errors.errorString" (.ptr (.agg [.lit (.string [118, 97, 108, 117, 101, 32, 111, 117, 116, 32, 111, 102, 32, 114, 97, 110, 103, 101])]))
def laid_strconv_ErrSyntax {H : Type} : DataW H := .iface "*errors.errorString" (.ptr (.agg [.lit (.string [105, 110, 118, 97, 108, 105, 100, 32, 115, 121, 110, 116, 97, 120])]))

/-- 'laws.FnExactValidStrips': WHATEVER THE INPUT: true; the input reads as it did. -/
def fnExactValidStripsSpec : ChangeSpec := { name := "fnExactValidStrips", vars := ["loop.example/g01043/impl.errCount", "loop.example/g01043/impl.errOutside"], fn := fun _ => fun
  | [d, g1, g2] => { results := [.lit (.bool true)], args := [d], vars := [g1, g2] }
  | _ => none }
def fnExactValidStripsRow : OpenClaim := { program := "ytpmmfalpcooenaadoor", sum := "7b50753281a61aa615eb9e94d72a70a695fa59e138799aceae86bd23961cdfed", func := "loop.example/g01043/laws.FnExactValidStrips", spec := "fnExactValidStrips", named := ["loop.example/g01043/impl.errCount", "loop.example/g01043/impl.errOutside"], ifaces := true, apart := false, laid := [("loop.example/g01043/impl.errCount", laid_loop_example_g01043_impl_errCount), ("loop.example/g01043/impl.errOutside", laid_loop_example_g01043_impl_errOutside)] }
def FnExactValidStripsSaid : Prop := fnExactValidStripsRow.holds Tryd.pinned (OpenSpec.ofChange fnExactValidStripsSpec)

/-- ITS FALSE NEIGHBOUR: 'it returns false'. Refute it at one input. -/
def fnExactValidStripsWrong : ChangeSpec := { name := "fnExactValidStrips", vars := ["loop.example/g01043/impl.errCount", "loop.example/g01043/impl.errOutside"], fn := fun _ => fun
  | [d, g1, g2] => { results := [.lit (.bool false)], args := [d], vars := [g1, g2] }
  | _ => none }
def FnExactValidStripsWrongFalsely : Prop := fnExactValidStripsRow.holds Tryd.pinned (OpenSpec.ofChange fnExactValidStripsWrong)

/-- 'laws.FnExactCutLengths': WHATEVER THE INPUT: true; the input reads as it did. -/
def fnExactCutLengthsSpec : ChangeSpec := { name := "fnExactCutLengths", vars := ["loop.example/g01043/impl.errCount", "loop.example/g01043/impl.errOutside"], fn := fun _ => fun
  | [d, g1, g2] => { results := [.lit (.bool true)], args := [d], vars := [g1, g2] }
  | _ => none }
def fnExactCutLengthsRow : OpenClaim := { program := "ytpmmfalpcooenaadoor", sum := "7b50753281a61aa615eb9e94d72a70a695fa59e138799aceae86bd23961cdfed", func := "loop.example/g01043/laws.FnExactCutLengths", spec := "fnExactCutLengths", inPlace := ["internal/reflectlite.ValueOf", "(internal/reflectlite.Value).Type", "(internal/reflectlite.Value).IsNil", "internal/reflectlite.TypeOf", "(internal/reflectlite.Value).Elem", "(internal/reflectlite.Value).Set"], unfollowed := true, recurses := true, named := ["loop.example/g01043/impl.errCount", "loop.example/g01043/impl.errOutside", "errors.errorType"], ifaces := true, apart := false, laid := [("errors.errorType", laid_errors_errorType), ("loop.example/g01043/impl.errCount", laid_loop_example_g01043_impl_errCount), ("loop.example/g01043/impl.errOutside", laid_loop_example_g01043_impl_errOutside)] }
def FnExactCutLengthsSaid : Prop := fnExactCutLengthsRow.holds Tryd.pinned (OpenSpec.ofChange fnExactCutLengthsSpec)

/-- ITS FALSE NEIGHBOUR: 'it returns false'. Refute it at one input. -/
def fnExactCutLengthsWrong : ChangeSpec := { name := "fnExactCutLengths", vars := ["loop.example/g01043/impl.errCount", "loop.example/g01043/impl.errOutside"], fn := fun _ => fun
  | [d, g1, g2] => { results := [.lit (.bool false)], args := [d], vars := [g1, g2] }
  | _ => none }
def FnExactCutLengthsWrongFalsely : Prop := fnExactCutLengthsRow.holds Tryd.pinned (OpenSpec.ofChange fnExactCutLengthsWrong)

/-- 'laws.FnExactRoundStrips': WHATEVER THE INPUT: true; the input reads as it did. -/
def fnExactRoundStripsSpec : ChangeSpec := { name := "fnExactRoundStrips", vars := ["loop.example/g01043/impl.errCount", "loop.example/g01043/impl.errOutside"], fn := fun _ => fun
  | [d, g1, g2] => { results := [.lit (.bool true)], args := [d], vars := [g1, g2] }
  | _ => none }
def fnExactRoundStripsRow : OpenClaim := { program := "ytpmmfalpcooenaadoor", sum := "7b50753281a61aa615eb9e94d72a70a695fa59e138799aceae86bd23961cdfed", func := "loop.example/g01043/laws.FnExactRoundStrips", spec := "fnExactRoundStrips", inPlace := ["internal/reflectlite.ValueOf", "(internal/reflectlite.Value).Type", "(internal/reflectlite.Value).IsNil", "internal/reflectlite.TypeOf", "(internal/reflectlite.Value).Elem", "(internal/reflectlite.Value).Set"], unfollowed := true, recurses := true, named := ["loop.example/g01043/impl.errCount", "loop.example/g01043/impl.errOutside", "errors.errorType"], ifaces := true, apart := false, laid := [("errors.errorType", laid_errors_errorType), ("loop.example/g01043/impl.errCount", laid_loop_example_g01043_impl_errCount), ("loop.example/g01043/impl.errOutside", laid_loop_example_g01043_impl_errOutside)] }
def FnExactRoundStripsSaid : Prop := fnExactRoundStripsRow.holds Tryd.pinned (OpenSpec.ofChange fnExactRoundStripsSpec)

/-- ITS FALSE NEIGHBOUR: 'it returns false'. Refute it at one input. -/
def fnExactRoundStripsWrong : ChangeSpec := { name := "fnExactRoundStrips", vars := ["loop.example/g01043/impl.errCount", "loop.example/g01043/impl.errOutside"], fn := fun _ => fun
  | [d, g1, g2] => { results := [.lit (.bool false)], args := [d], vars := [g1, g2] }
  | _ => none }
def FnExactRoundStripsWrongFalsely : Prop := fnExactRoundStripsRow.holds Tryd.pinned (OpenSpec.ofChange fnExactRoundStripsWrong)

/-- 'laws.FnExactAddAllow': WHATEVER THE INPUT: true; the input reads as it did. -/
def fnExactAddAllowSpec : ChangeSpec := { name := "fnExactAddAllow", vars := ["loop.example/g01043/impl.errCount", "loop.example/g01043/impl.errOutside"], fn := fun _ => fun
  | [d1, d2, d3, g1, g2] => { results := [.lit (.bool true)], args := [d1, d2, d3], vars := [g1, g2] }
  | _ => none }
def fnExactAddAllowRow : OpenClaim := { program := "ytpmmfalpcooenaadoor", sum := "7b50753281a61aa615eb9e94d72a70a695fa59e138799aceae86bd23961cdfed", func := "loop.example/g01043/laws.FnExactAddAllow", spec := "fnExactAddAllow", inPlace := ["internal/reflectlite.ValueOf", "(internal/reflectlite.Value).Type", "(internal/reflectlite.Value).IsNil", "internal/reflectlite.TypeOf", "(internal/reflectlite.Value).Elem", "(internal/reflectlite.Value).Set"], unfollowed := true, recurses := true, named := ["loop.example/g01043/impl.errCount", "loop.example/g01043/impl.errOutside", "errors.errorType"], ifaces := true, apart := false, laid := [("errors.errorType", laid_errors_errorType), ("loop.example/g01043/impl.errCount", laid_loop_example_g01043_impl_errCount), ("loop.example/g01043/impl.errOutside", laid_loop_example_g01043_impl_errOutside)] }
def FnExactAddAllowSaid : Prop := fnExactAddAllowRow.holds Tryd.pinned (OpenSpec.ofChange fnExactAddAllowSpec)

/-- ITS FALSE NEIGHBOUR: 'it returns false'. Refute it at one input. -/
def fnExactAddAllowWrong : ChangeSpec := { name := "fnExactAddAllow", vars := ["loop.example/g01043/impl.errCount", "loop.example/g01043/impl.errOutside"], fn := fun _ => fun
  | [d1, d2, d3, g1, g2] => { results := [.lit (.bool false)], args := [d1, d2, d3], vars := [g1, g2] }
  | _ => none }
def FnExactAddAllowWrongFalsely : Prop := fnExactAddAllowRow.holds Tryd.pinned (OpenSpec.ofChange fnExactAddAllowWrong)

/-- 'laws.FnExactAllowArea': WHATEVER THE INPUT: true; the input reads as it did. -/
def fnExactAllowAreaSpec : ChangeSpec := { name := "fnExactAllowArea", vars := ["loop.example/g01043/impl.errCount", "loop.example/g01043/impl.errOutside"], fn := fun _ => fun
  | [d, g1, g2] => { results := [.lit (.bool true)], args := [d], vars := [g1, g2] }
  | _ => none }
def fnExactAllowAreaRow : OpenClaim := { program := "ytpmmfalpcooenaadoor", sum := "7b50753281a61aa615eb9e94d72a70a695fa59e138799aceae86bd23961cdfed", func := "loop.example/g01043/laws.FnExactAllowArea", spec := "fnExactAllowArea", inPlace := ["internal/reflectlite.ValueOf", "(internal/reflectlite.Value).Type", "(internal/reflectlite.Value).IsNil", "internal/reflectlite.TypeOf", "(internal/reflectlite.Value).Elem", "(internal/reflectlite.Value).Set"], unfollowed := true, recurses := true, named := ["loop.example/g01043/impl.errCount", "loop.example/g01043/impl.errOutside", "errors.errorType"], ifaces := true, apart := false, laid := [("errors.errorType", laid_errors_errorType), ("loop.example/g01043/impl.errCount", laid_loop_example_g01043_impl_errCount), ("loop.example/g01043/impl.errOutside", laid_loop_example_g01043_impl_errOutside)] }
def FnExactAllowAreaSaid : Prop := fnExactAllowAreaRow.holds Tryd.pinned (OpenSpec.ofChange fnExactAllowAreaSpec)

/-- ITS FALSE NEIGHBOUR: 'it returns false'. Refute it at one input. -/
def fnExactAllowAreaWrong : ChangeSpec := { name := "fnExactAllowArea", vars := ["loop.example/g01043/impl.errCount", "loop.example/g01043/impl.errOutside"], fn := fun _ => fun
  | [d, g1, g2] => { results := [.lit (.bool false)], args := [d], vars := [g1, g2] }
  | _ => none }
def FnExactAllowAreaWrongFalsely : Prop := fnExactAllowAreaRow.holds Tryd.pinned (OpenSpec.ofChange fnExactAllowAreaWrong)

/-- 'laws.FnExactNotchesOf': WHATEVER THE INPUT: true; the input reads as it did. -/
def fnExactNotchesOfSpec : ChangeSpec := { name := "fnExactNotchesOf", vars := ["loop.example/g01043/impl.errOutside", "loop.example/g01043/impl.errCount", "loop.example/g01043/impl.errOrder"], fn := fun _ => fun
  | [d1, d2, g1, g2, g3] => { results := [.lit (.bool true)], args := [d1, d2], vars := [g1, g2, g3] }
  | _ => none }
def fnExactNotchesOfRow : OpenClaim := { program := "ytpmmfalpcooenaadoor", sum := "7b50753281a61aa615eb9e94d72a70a695fa59e138799aceae86bd23961cdfed", func := "loop.example/g01043/laws.FnExactNotchesOf", spec := "fnExactNotchesOf", inPlace := ["internal/reflectlite.ValueOf", "(internal/reflectlite.Value).Type", "(internal/reflectlite.Value).IsNil", "internal/reflectlite.TypeOf", "(internal/reflectlite.Value).Elem", "(internal/reflectlite.Value).Set"], unfollowed := true, recurses := true, named := ["loop.example/g01043/impl.errOutside", "loop.example/g01043/impl.errCount", "loop.example/g01043/impl.errOrder", "errors.errorType"], ifaces := true, apart := false, laid := [("errors.errorType", laid_errors_errorType), ("loop.example/g01043/impl.errCount", laid_loop_example_g01043_impl_errCount), ("loop.example/g01043/impl.errOutside", laid_loop_example_g01043_impl_errOutside), ("loop.example/g01043/impl.errOrder", laid_loop_example_g01043_impl_errOrder)] }
def FnExactNotchesOfSaid : Prop := fnExactNotchesOfRow.holds Tryd.pinned (OpenSpec.ofChange fnExactNotchesOfSpec)

/-- ITS FALSE NEIGHBOUR: 'it returns false'. Refute it at one input. -/
def fnExactNotchesOfWrong : ChangeSpec := { name := "fnExactNotchesOf", vars := ["loop.example/g01043/impl.errOutside", "loop.example/g01043/impl.errCount", "loop.example/g01043/impl.errOrder"], fn := fun _ => fun
  | [d1, d2, g1, g2, g3] => { results := [.lit (.bool false)], args := [d1, d2], vars := [g1, g2, g3] }
  | _ => none }
def FnExactNotchesOfWrongFalsely : Prop := fnExactNotchesOfRow.holds Tryd.pinned (OpenSpec.ofChange fnExactNotchesOfWrong)

/-- 'laws.FnExactNotchFault': WHATEVER THE INPUT: true; the input reads as it did. -/
def fnExactNotchFaultSpec : ChangeSpec := { name := "fnExactNotchFault", vars := ["loop.example/g01043/impl.errOutside", "loop.example/g01043/impl.errCount", "loop.example/g01043/impl.errOrder"], fn := fun _ => fun
  | [d1, d2, d3, d4, d5, g1, g2, g3] => { results := [.lit (.bool true)], args := [d1, d2, d3, d4, d5], vars := [g1, g2, g3] }
  | _ => none }
def fnExactNotchFaultRow : OpenClaim := { program := "ytpmmfalpcooenaadoor", sum := "7b50753281a61aa615eb9e94d72a70a695fa59e138799aceae86bd23961cdfed", func := "loop.example/g01043/laws.FnExactNotchFault", spec := "fnExactNotchFault", inPlace := ["internal/reflectlite.ValueOf", "(internal/reflectlite.Value).Type", "(internal/reflectlite.Value).IsNil", "internal/reflectlite.TypeOf", "(internal/reflectlite.Value).Elem", "(internal/reflectlite.Value).Set"], unfollowed := true, recurses := true, named := ["loop.example/g01043/impl.errOutside", "loop.example/g01043/impl.errCount", "loop.example/g01043/impl.errOrder", "errors.errorType"], ifaces := true, apart := false, laid := [("errors.errorType", laid_errors_errorType), ("loop.example/g01043/impl.errCount", laid_loop_example_g01043_impl_errCount), ("loop.example/g01043/impl.errOutside", laid_loop_example_g01043_impl_errOutside), ("loop.example/g01043/impl.errOrder", laid_loop_example_g01043_impl_errOrder)] }
def FnExactNotchFaultSaid : Prop := fnExactNotchFaultRow.holds Tryd.pinned (OpenSpec.ofChange fnExactNotchFaultSpec)

/-- ITS FALSE NEIGHBOUR: 'it returns false'. Refute it at one input. -/
def fnExactNotchFaultWrong : ChangeSpec := { name := "fnExactNotchFault", vars := ["loop.example/g01043/impl.errOutside", "loop.example/g01043/impl.errCount", "loop.example/g01043/impl.errOrder"], fn := fun _ => fun
  | [d1, d2, d3, d4, d5, g1, g2, g3] => { results := [.lit (.bool false)], args := [d1, d2, d3, d4, d5], vars := [g1, g2, g3] }
  | _ => none }
def FnExactNotchFaultWrongFalsely : Prop := fnExactNotchFaultRow.holds Tryd.pinned (OpenSpec.ofChange fnExactNotchFaultWrong)

/-- 'laws.FnExactEaseOf': WHATEVER THE INPUT: true; the input reads as it did. -/
def fnExactEaseOfSpec : ChangeSpec := { name := "fnExactEaseOf", vars := ["loop.example/g01043/impl.errOutside", "loop.example/g01043/impl.errCount", "loop.example/g01043/impl.errOrder"], fn := fun _ => fun
  | [d1, d2, d3, g1, g2, g3] => { results := [.lit (.bool true)], args := [d1, d2, d3], vars := [g1, g2, g3] }
  | _ => none }
def fnExactEaseOfRow : OpenClaim := { program := "ytpmmfalpcooenaadoor", sum := "7b50753281a61aa615eb9e94d72a70a695fa59e138799aceae86bd23961cdfed", func := "loop.example/g01043/laws.FnExactEaseOf", spec := "fnExactEaseOf", inPlace := ["internal/reflectlite.ValueOf", "(internal/reflectlite.Value).Type", "(internal/reflectlite.Value).IsNil", "internal/reflectlite.TypeOf", "(internal/reflectlite.Value).Elem", "(internal/reflectlite.Value).Set"], unfollowed := true, recurses := true, named := ["loop.example/g01043/impl.errOutside", "loop.example/g01043/impl.errCount", "loop.example/g01043/impl.errOrder", "errors.errorType"], ifaces := true, apart := false, laid := [("errors.errorType", laid_errors_errorType), ("loop.example/g01043/impl.errCount", laid_loop_example_g01043_impl_errCount), ("loop.example/g01043/impl.errOutside", laid_loop_example_g01043_impl_errOutside), ("loop.example/g01043/impl.errOrder", laid_loop_example_g01043_impl_errOrder)] }
def FnExactEaseOfSaid : Prop := fnExactEaseOfRow.holds Tryd.pinned (OpenSpec.ofChange fnExactEaseOfSpec)

/-- ITS FALSE NEIGHBOUR: 'it returns false'. Refute it at one input. -/
def fnExactEaseOfWrong : ChangeSpec := { name := "fnExactEaseOf", vars := ["loop.example/g01043/impl.errOutside", "loop.example/g01043/impl.errCount", "loop.example/g01043/impl.errOrder"], fn := fun _ => fun
  | [d1, d2, d3, g1, g2, g3] => { results := [.lit (.bool false)], args := [d1, d2, d3], vars := [g1, g2, g3] }
  | _ => none }
def FnExactEaseOfWrongFalsely : Prop := fnExactEaseOfRow.holds Tryd.pinned (OpenSpec.ofChange fnExactEaseOfWrong)

/-- 'laws.FnExactFoldLength': WHATEVER THE INPUT: true; the input reads as it did. -/
def fnExactFoldLengthSpec : ChangeSpec := { name := "fnExactFoldLength", vars := ["loop.example/g01043/impl.errCount", "loop.example/g01043/impl.errOutside"], fn := fun _ => fun
  | [d1, d2, d3, g1, g2] => { results := [.lit (.bool true)], args := [d1, d2, d3], vars := [g1, g2] }
  | _ => none }
def fnExactFoldLengthRow : OpenClaim := { program := "ytpmmfalpcooenaadoor", sum := "7b50753281a61aa615eb9e94d72a70a695fa59e138799aceae86bd23961cdfed", func := "loop.example/g01043/laws.FnExactFoldLength", spec := "fnExactFoldLength", inPlace := ["internal/reflectlite.ValueOf", "(internal/reflectlite.Value).Type", "(internal/reflectlite.Value).IsNil", "internal/reflectlite.TypeOf", "(internal/reflectlite.Value).Elem", "(internal/reflectlite.Value).Set"], unfollowed := true, recurses := true, named := ["loop.example/g01043/impl.errCount", "loop.example/g01043/impl.errOutside", "errors.errorType"], ifaces := true, apart := false, laid := [("errors.errorType", laid_errors_errorType), ("loop.example/g01043/impl.errCount", laid_loop_example_g01043_impl_errCount), ("loop.example/g01043/impl.errOutside", laid_loop_example_g01043_impl_errOutside)] }
def FnExactFoldLengthSaid : Prop := fnExactFoldLengthRow.holds Tryd.pinned (OpenSpec.ofChange fnExactFoldLengthSpec)

/-- ITS FALSE NEIGHBOUR: 'it returns false'. Refute it at one input. -/
def fnExactFoldLengthWrong : ChangeSpec := { name := "fnExactFoldLength", vars := ["loop.example/g01043/impl.errCount", "loop.example/g01043/impl.errOutside"], fn := fun _ => fun
  | [d1, d2, d3, g1, g2] => { results := [.lit (.bool false)], args := [d1, d2, d3], vars := [g1, g2] }
  | _ => none }
def FnExactFoldLengthWrongFalsely : Prop := fnExactFoldLengthRow.holds Tryd.pinned (OpenSpec.ofChange fnExactFoldLengthWrong)

/-- 'laws.FnExactStripText': WHATEVER THE INPUT: true; the input reads as it did. -/
def fnExactStripTextSpec : ChangeSpec := { name := "fnExactStripText", vars := ["loop.example/g01043/impl.stripMarks", "loop.example/g01043/impl.errOutside"], fn := fun _ => fun
  | [d, g1, g2] => { results := [.lit (.bool true)], args := [d], vars := [g1, g2] }
  | _ => none }
def fnExactStripTextRow : OpenClaim := { program := "ytpmmfalpcooenaadoor", sum := "7b50753281a61aa615eb9e94d72a70a695fa59e138799aceae86bd23961cdfed", func := "loop.example/g01043/laws.FnExactStripText", spec := "fnExactStripText", inPlace := ["internal/abi.NoEscape"], named := ["loop.example/g01043/impl.stripMarks", "loop.example/g01043/impl.errOutside", "internal/strconv.uint64pow10", "math/bits.deBruijn32tab", "math/bits.deBruijn64tab"], ifaces := true, apart := false, laid := [("math/bits.deBruijn32tab", laid_math_bits_deBruijn32tab), ("math/bits.deBruijn64tab", laid_math_bits_deBruijn64tab), ("internal/strconv.uint64pow10", laid_internal_strconv_uint64pow10), ("loop.example/g01043/impl.stripMarks", laid_loop_example_g01043_impl_stripMarks), ("loop.example/g01043/impl.errOutside", laid_loop_example_g01043_impl_errOutside)] }
def FnExactStripTextSaid : Prop := fnExactStripTextRow.holds Tryd.pinned (OpenSpec.ofChange fnExactStripTextSpec)

/-- ITS FALSE NEIGHBOUR: 'it returns false'. Refute it at one input. -/
def fnExactStripTextWrong : ChangeSpec := { name := "fnExactStripText", vars := ["loop.example/g01043/impl.stripMarks", "loop.example/g01043/impl.errOutside"], fn := fun _ => fun
  | [d, g1, g2] => { results := [.lit (.bool false)], args := [d], vars := [g1, g2] }
  | _ => none }
def FnExactStripTextWrongFalsely : Prop := fnExactStripTextRow.holds Tryd.pinned (OpenSpec.ofChange fnExactStripTextWrong)

/-- 'laws.FnExactReadStrip': WHATEVER THE INPUT: true; the input reads as it did. -/
def fnExactReadStripSpec : ChangeSpec := { name := "fnExactReadStrip", vars := ["loop.example/g01043/impl.stripMarks", "loop.example/g01043/impl.errOutside"], fn := fun _ => fun
  | [d, g1, g2] => { results := [.lit (.bool true)], args := [d], vars := [g1, g2] }
  | _ => none }
def fnExactReadStripRow : OpenClaim := { program := "ytpmmfalpcooenaadoor", sum := "7b50753281a61aa615eb9e94d72a70a695fa59e138799aceae86bd23961cdfed", func := "loop.example/g01043/laws.FnExactReadStrip", spec := "fnExactReadStrip", inPlace := ["internal/bytealg.IndexByteString", "internal/bytealg.IndexString"], named := ["loop.example/g01043/impl.stripMarks", "internal/bytealg.MaxLen", "strconv.ErrSyntax", "strconv.ErrRange", "internal/strconv.uint64pow10", "math/bits.deBruijn32tab", "math/bits.deBruijn64tab", "loop.example/g01043/impl.errOutside"], ifaces := true, apart := false, laid := [("math/bits.deBruijn32tab", laid_math_bits_deBruijn32tab), ("math/bits.deBruijn64tab", laid_math_bits_deBruijn64tab), ("internal/strconv.uint64pow10", laid_internal_strconv_uint64pow10), ("strconv.ErrRange", laid_strconv_ErrRange), ("strconv.ErrSyntax", laid_strconv_ErrSyntax), ("loop.example/g01043/impl.stripMarks", laid_loop_example_g01043_impl_stripMarks), ("loop.example/g01043/impl.errOutside", laid_loop_example_g01043_impl_errOutside)] }
def FnExactReadStripSaid : Prop := fnExactReadStripRow.holds Tryd.pinned (OpenSpec.ofChange fnExactReadStripSpec)

/-- ITS FALSE NEIGHBOUR: 'it returns false'. Refute it at one input. -/
def fnExactReadStripWrong : ChangeSpec := { name := "fnExactReadStrip", vars := ["loop.example/g01043/impl.stripMarks", "loop.example/g01043/impl.errOutside"], fn := fun _ => fun
  | [d, g1, g2] => { results := [.lit (.bool false)], args := [d], vars := [g1, g2] }
  | _ => none }
def FnExactReadStripWrongFalsely : Prop := fnExactReadStripRow.holds Tryd.pinned (OpenSpec.ofChange fnExactReadStripWrong)

/- THE SECOND FORM. 'bulk': how many values and letters a reading holds, each counted each time it is reached (what is shared counts as often as it is met; a slice's spare places count too). A statement '..UptoSaid' is the law's where the arguments, and the package variables that the reading takes, are together of bulk at most 1048576: NARROWER than '..Said'. Prove '..Said' where nothing that the law and all that it calls make is longer than what came in: it says more and counts as full. Else prove '..UptoSaid'. A law counts once. -/
mutual
def uptoBulk {H : Type} : DataW H → Nat
  | .lit (.string bytes) => bytes.length + 1
  | .lit _ => 1
  | .nil => 1
  | .ptr d => uptoBulk d + 1
  | .slice elems spare => uptoBulkAll elems + uptoBulkAll spare + 1
  | .agg parts => uptoBulkAll parts + 1
  | .iface _ d => uptoBulk d + 1
  | .map entries => uptoBulkEntries entries + 1
  | .held _ => 1
def uptoBulkAll {H : Type} : List (DataW H) → Nat
  | [] => 0
  | d :: r => uptoBulk d + uptoBulkAll r
def uptoBulkEntries {H : Type} : List (Lit × DataW H) → Nat
  | [] => 0
  | x :: r => uptoBulkEntry x + uptoBulkEntries r
def uptoBulkEntry {H : Type} : Lit × DataW H → Nat
  | (.string bytes, d) => bytes.length + uptoBulk d + 1
  | (_, d) => uptoBulk d + 1
 end
def uptoSmall : (H : Type) → List (DataW H) → Bool := fun _ ds => decide (uptoBulkAll ds ≤ 1048576)
def OpenSpec.upto (s : _root_.Go.ChangeSpec) : _root_.Go.OpenSpec := { _root_.Go.OpenSpec.ofChange s with cond := some uptoSmall }

/-- 'laws.FnExactValidStrips', WHERE WHAT IT READS IS OF BULK AT MOST 1048576: true; the input reads as it did. -/
def fnExactValidStripsUptoRow : OpenClaim := { program := "ytpmmfalpcooenaadoor", sum := "7b50753281a61aa615eb9e94d72a70a695fa59e138799aceae86bd23961cdfed", func := "loop.example/g01043/laws.FnExactValidStrips", spec := "fnExactValidStrips", named := ["loop.example/g01043/impl.errCount", "loop.example/g01043/impl.errOutside"], ifaces := true, apart := false, laid := [("loop.example/g01043/impl.errCount", laid_loop_example_g01043_impl_errCount), ("loop.example/g01043/impl.errOutside", laid_loop_example_g01043_impl_errOutside)], narrowed := true }
def FnExactValidStripsUptoSaid : Prop := fnExactValidStripsUptoRow.holds Tryd.pinned (OpenSpec.upto fnExactValidStripsSpec)

/-- 'laws.FnExactCutLengths', WHERE WHAT IT READS IS OF BULK AT MOST 1048576: true; the input reads as it did. -/
def fnExactCutLengthsUptoRow : OpenClaim := { program := "ytpmmfalpcooenaadoor", sum := "7b50753281a61aa615eb9e94d72a70a695fa59e138799aceae86bd23961cdfed", func := "loop.example/g01043/laws.FnExactCutLengths", spec := "fnExactCutLengths", inPlace := ["internal/reflectlite.ValueOf", "(internal/reflectlite.Value).Type", "(internal/reflectlite.Value).IsNil", "internal/reflectlite.TypeOf", "(internal/reflectlite.Value).Elem", "(internal/reflectlite.Value).Set"], unfollowed := true, recurses := true, named := ["loop.example/g01043/impl.errCount", "loop.example/g01043/impl.errOutside", "errors.errorType"], ifaces := true, apart := false, laid := [("errors.errorType", laid_errors_errorType), ("loop.example/g01043/impl.errCount", laid_loop_example_g01043_impl_errCount), ("loop.example/g01043/impl.errOutside", laid_loop_example_g01043_impl_errOutside)], narrowed := true }
def FnExactCutLengthsUptoSaid : Prop := fnExactCutLengthsUptoRow.holds Tryd.pinned (OpenSpec.upto fnExactCutLengthsSpec)

/-- 'laws.FnExactRoundStrips', WHERE WHAT IT READS IS OF BULK AT MOST 1048576: true; the input reads as it did. -/
def fnExactRoundStripsUptoRow : OpenClaim := { program := "ytpmmfalpcooenaadoor", sum := "7b50753281a61aa615eb9e94d72a70a695fa59e138799aceae86bd23961cdfed", func := "loop.example/g01043/laws.FnExactRoundStrips", spec := "fnExactRoundStrips", inPlace := ["internal/reflectlite.ValueOf", "(internal/reflectlite.Value).Type", "(internal/reflectlite.Value).IsNil", "internal/reflectlite.TypeOf", "(internal/reflectlite.Value).Elem", "(internal/reflectlite.Value).Set"], unfollowed := true, recurses := true, named := ["loop.example/g01043/impl.errCount", "loop.example/g01043/impl.errOutside", "errors.errorType"], ifaces := true, apart := false, laid := [("errors.errorType", laid_errors_errorType), ("loop.example/g01043/impl.errCount", laid_loop_example_g01043_impl_errCount), ("loop.example/g01043/impl.errOutside", laid_loop_example_g01043_impl_errOutside)], narrowed := true }
def FnExactRoundStripsUptoSaid : Prop := fnExactRoundStripsUptoRow.holds Tryd.pinned (OpenSpec.upto fnExactRoundStripsSpec)

/-- 'laws.FnExactAddAllow', WHERE WHAT IT READS IS OF BULK AT MOST 1048576: true; the input reads as it did. -/
def fnExactAddAllowUptoRow : OpenClaim := { program := "ytpmmfalpcooenaadoor", sum := "7b50753281a61aa615eb9e94d72a70a695fa59e138799aceae86bd23961cdfed", func := "loop.example/g01043/laws.FnExactAddAllow", spec := "fnExactAddAllow", inPlace := ["internal/reflectlite.ValueOf", "(internal/reflectlite.Value).Type", "(internal/reflectlite.Value).IsNil", "internal/reflectlite.TypeOf", "(internal/reflectlite.Value).Elem", "(internal/reflectlite.Value).Set"], unfollowed := true, recurses := true, named := ["loop.example/g01043/impl.errCount", "loop.example/g01043/impl.errOutside", "errors.errorType"], ifaces := true, apart := false, laid := [("errors.errorType", laid_errors_errorType), ("loop.example/g01043/impl.errCount", laid_loop_example_g01043_impl_errCount), ("loop.example/g01043/impl.errOutside", laid_loop_example_g01043_impl_errOutside)], narrowed := true }
def FnExactAddAllowUptoSaid : Prop := fnExactAddAllowUptoRow.holds Tryd.pinned (OpenSpec.upto fnExactAddAllowSpec)

/-- 'laws.FnExactAllowArea', WHERE WHAT IT READS IS OF BULK AT MOST 1048576: true; the input reads as it did. -/
def fnExactAllowAreaUptoRow : OpenClaim := { program := "ytpmmfalpcooenaadoor", sum := "7b50753281a61aa615eb9e94d72a70a695fa59e138799aceae86bd23961cdfed", func := "loop.example/g01043/laws.FnExactAllowArea", spec := "fnExactAllowArea", inPlace := ["internal/reflectlite.ValueOf", "(internal/reflectlite.Value).Type", "(internal/reflectlite.Value).IsNil", "internal/reflectlite.TypeOf", "(internal/reflectlite.Value).Elem", "(internal/reflectlite.Value).Set"], unfollowed := true, recurses := true, named := ["loop.example/g01043/impl.errCount", "loop.example/g01043/impl.errOutside", "errors.errorType"], ifaces := true, apart := false, laid := [("errors.errorType", laid_errors_errorType), ("loop.example/g01043/impl.errCount", laid_loop_example_g01043_impl_errCount), ("loop.example/g01043/impl.errOutside", laid_loop_example_g01043_impl_errOutside)], narrowed := true }
def FnExactAllowAreaUptoSaid : Prop := fnExactAllowAreaUptoRow.holds Tryd.pinned (OpenSpec.upto fnExactAllowAreaSpec)

/-- 'laws.FnExactNotchesOf', WHERE WHAT IT READS IS OF BULK AT MOST 1048576: true; the input reads as it did. -/
def fnExactNotchesOfUptoRow : OpenClaim := { program := "ytpmmfalpcooenaadoor", sum := "7b50753281a61aa615eb9e94d72a70a695fa59e138799aceae86bd23961cdfed", func := "loop.example/g01043/laws.FnExactNotchesOf", spec := "fnExactNotchesOf", inPlace := ["internal/reflectlite.ValueOf", "(internal/reflectlite.Value).Type", "(internal/reflectlite.Value).IsNil", "internal/reflectlite.TypeOf", "(internal/reflectlite.Value).Elem", "(internal/reflectlite.Value).Set"], unfollowed := true, recurses := true, named := ["loop.example/g01043/impl.errOutside", "loop.example/g01043/impl.errCount", "loop.example/g01043/impl.errOrder", "errors.errorType"], ifaces := true, apart := false, laid := [("errors.errorType", laid_errors_errorType), ("loop.example/g01043/impl.errCount", laid_loop_example_g01043_impl_errCount), ("loop.example/g01043/impl.errOutside", laid_loop_example_g01043_impl_errOutside), ("loop.example/g01043/impl.errOrder", laid_loop_example_g01043_impl_errOrder)], narrowed := true }
def FnExactNotchesOfUptoSaid : Prop := fnExactNotchesOfUptoRow.holds Tryd.pinned (OpenSpec.upto fnExactNotchesOfSpec)

/-- 'laws.FnExactNotchFault', WHERE WHAT IT READS IS OF BULK AT MOST 1048576: true; the input reads as it did. -/
def fnExactNotchFaultUptoRow : OpenClaim := { program := "ytpmmfalpcooenaadoor", sum := "7b50753281a61aa615eb9e94d72a70a695fa59e138799aceae86bd23961cdfed", func := "loop.example/g01043/laws.FnExactNotchFault", spec := "fnExactNotchFault", inPlace := ["internal/reflectlite.ValueOf", "(internal/reflectlite.Value).Type", "(internal/reflectlite.Value).IsNil", "internal/reflectlite.TypeOf", "(internal/reflectlite.Value).Elem", "(internal/reflectlite.Value).Set"], unfollowed := true, recurses := true, named := ["loop.example/g01043/impl.errOutside", "loop.example/g01043/impl.errCount", "loop.example/g01043/impl.errOrder", "errors.errorType"], ifaces := true, apart := false, laid := [("errors.errorType", laid_errors_errorType), ("loop.example/g01043/impl.errCount", laid_loop_example_g01043_impl_errCount), ("loop.example/g01043/impl.errOutside", laid_loop_example_g01043_impl_errOutside), ("loop.example/g01043/impl.errOrder", laid_loop_example_g01043_impl_errOrder)], narrowed := true }
def FnExactNotchFaultUptoSaid : Prop := fnExactNotchFaultUptoRow.holds Tryd.pinned (OpenSpec.upto fnExactNotchFaultSpec)

/-- 'laws.FnExactEaseOf', WHERE WHAT IT READS IS OF BULK AT MOST 1048576: true; the input reads as it did. -/
def fnExactEaseOfUptoRow : OpenClaim := { program := "ytpmmfalpcooenaadoor", sum := "7b50753281a61aa615eb9e94d72a70a695fa59e138799aceae86bd23961cdfed", func := "loop.example/g01043/laws.FnExactEaseOf", spec := "fnExactEaseOf", inPlace := ["internal/reflectlite.ValueOf", "(internal/reflectlite.Value).Type", "(internal/reflectlite.Value).IsNil", "internal/reflectlite.TypeOf", "(internal/reflectlite.Value).Elem", "(internal/reflectlite.Value).Set"], unfollowed := true, recurses := true, named := ["loop.example/g01043/impl.errOutside", "loop.example/g01043/impl.errCount", "loop.example/g01043/impl.errOrder", "errors.errorType"], ifaces := true, apart := false, laid := [("errors.errorType", laid_errors_errorType), ("loop.example/g01043/impl.errCount", laid_loop_example_g01043_impl_errCount), ("loop.example/g01043/impl.errOutside", laid_loop_example_g01043_impl_errOutside), ("loop.example/g01043/impl.errOrder", laid_loop_example_g01043_impl_errOrder)], narrowed := true }
def FnExactEaseOfUptoSaid : Prop := fnExactEaseOfUptoRow.holds Tryd.pinned (OpenSpec.upto fnExactEaseOfSpec)

/-- 'laws.FnExactFoldLength', WHERE WHAT IT READS IS OF BULK AT MOST 1048576: true; the input reads as it did. -/
def fnExactFoldLengthUptoRow : OpenClaim := { program := "ytpmmfalpcooenaadoor", sum := "7b50753281a61aa615eb9e94d72a70a695fa59e138799aceae86bd23961cdfed", func := "loop.example/g01043/laws.FnExactFoldLength", spec := "fnExactFoldLength", inPlace := ["internal/reflectlite.ValueOf", "(internal/reflectlite.Value).Type", "(internal/reflectlite.Value).IsNil", "internal/reflectlite.TypeOf", "(internal/reflectlite.Value).Elem", "(internal/reflectlite.Value).Set"], unfollowed := true, recurses := true, named := ["loop.example/g01043/impl.errCount", "loop.example/g01043/impl.errOutside", "errors.errorType"], ifaces := true, apart := false, laid := [("errors.errorType", laid_errors_errorType), ("loop.example/g01043/impl.errCount", laid_loop_example_g01043_impl_errCount), ("loop.example/g01043/impl.errOutside", laid_loop_example_g01043_impl_errOutside)], narrowed := true }
def FnExactFoldLengthUptoSaid : Prop := fnExactFoldLengthUptoRow.holds Tryd.pinned (OpenSpec.upto fnExactFoldLengthSpec)

/-- 'laws.FnExactStripText', WHERE WHAT IT READS IS OF BULK AT MOST 1048576: true; the input reads as it did. -/
def fnExactStripTextUptoRow : OpenClaim := { program := "ytpmmfalpcooenaadoor", sum := "7b50753281a61aa615eb9e94d72a70a695fa59e138799aceae86bd23961cdfed", func := "loop.example/g01043/laws.FnExactStripText", spec := "fnExactStripText", inPlace := ["internal/abi.NoEscape"], named := ["loop.example/g01043/impl.stripMarks", "loop.example/g01043/impl.errOutside", "internal/strconv.uint64pow10", "math/bits.deBruijn32tab", "math/bits.deBruijn64tab"], ifaces := true, apart := false, laid := [("math/bits.deBruijn32tab", laid_math_bits_deBruijn32tab), ("math/bits.deBruijn64tab", laid_math_bits_deBruijn64tab), ("internal/strconv.uint64pow10", laid_internal_strconv_uint64pow10), ("loop.example/g01043/impl.stripMarks", laid_loop_example_g01043_impl_stripMarks), ("loop.example/g01043/impl.errOutside", laid_loop_example_g01043_impl_errOutside)], narrowed := true }
def FnExactStripTextUptoSaid : Prop := fnExactStripTextUptoRow.holds Tryd.pinned (OpenSpec.upto fnExactStripTextSpec)

/-- 'laws.FnExactReadStrip', WHERE WHAT IT READS IS OF BULK AT MOST 1048576: true; the input reads as it did. -/
def fnExactReadStripUptoRow : OpenClaim := { program := "ytpmmfalpcooenaadoor", sum := "7b50753281a61aa615eb9e94d72a70a695fa59e138799aceae86bd23961cdfed", func := "loop.example/g01043/laws.FnExactReadStrip", spec := "fnExactReadStrip", inPlace := ["internal/bytealg.IndexByteString", "internal/bytealg.IndexString"], named := ["loop.example/g01043/impl.stripMarks", "internal/bytealg.MaxLen", "strconv.ErrSyntax", "strconv.ErrRange", "internal/strconv.uint64pow10", "math/bits.deBruijn32tab", "math/bits.deBruijn64tab", "loop.example/g01043/impl.errOutside"], ifaces := true, apart := false, laid := [("math/bits.deBruijn32tab", laid_math_bits_deBruijn32tab), ("math/bits.deBruijn64tab", laid_math_bits_deBruijn64tab), ("internal/strconv.uint64pow10", laid_internal_strconv_uint64pow10), ("strconv.ErrRange", laid_strconv_ErrRange), ("strconv.ErrSyntax", laid_strconv_ErrSyntax), ("loop.example/g01043/impl.stripMarks", laid_loop_example_g01043_impl_stripMarks), ("loop.example/g01043/impl.errOutside", laid_loop_example_g01043_impl_errOutside)], narrowed := true }
def FnExactReadStripUptoSaid : Prop := fnExactReadStripUptoRow.holds Tryd.pinned (OpenSpec.upto fnExactReadStripSpec)

end Rows
end Go.Proofs.YtpmmfalpcooenaaDoor
