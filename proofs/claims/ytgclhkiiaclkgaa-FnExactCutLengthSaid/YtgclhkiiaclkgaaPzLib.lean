/- Leathers: the laws of chapter 12 whose arguments are plain. -/
import Derived.Test.YtgclhkiiaclkgaaJgqLib
import Derived.Test.YtgclhkiiaclkgaaP6Lib
namespace Go.Proofs.Ytgclhkiiaclkgaa.Pz
set_option linter.unusedVariables false
open Go.RowKit Ja Jb Jc

theorem vl (a c s m : Int) (w : World) (_ : (Lit.int .i64 a).wf = true) (_ : (Lit.int .i64 c).wf = true) (_ : (Lit.int .i64 s).wf = true) (_ : (Lit.int .i64 m).wf = true) :
    Calls Try.prog 3 #[leV a c s m] w fun e w' => e = .returned (.bool true) ∧ Below w.heap.size w w' :=
  Jgq.law_vl a c s m _ w (fun w => spec_vl a c s m w) (fun w => P1.impl_vl a c s m w)
theorem so (a c s m d f : Int) (w : World) (_ : (Lit.int .i64 a).wf = true) (_ : (Lit.int .i64 c).wf = true) (_ : (Lit.int .i64 s).wf = true) (_ : (Lit.int .i64 m).wf = true) (_ : (Lit.int .i64 d).wf = true) (_ : (Lit.int .i64 f).wf = true) :
    Calls Try.prog 4 #[leV a c s m, .int .i64 d, .int .i64 f] w fun e w' => e = .returned (.bool true) ∧ Below w.heap.size w w' :=
  Jgq.law_so a c s m d f _ _ _ w (fun w => spec_so a c s m d f w) (fun w => P4.impl_so a c s m d f w)
theorem lu (a c s m d n f : Int) (w : World) (_ : (Lit.int .i64 a).wf = true) (_ : (Lit.int .i64 c).wf = true) (_ : (Lit.int .i64 s).wf = true) (_ : (Lit.int .i64 m).wf = true) (_ : (Lit.int .i64 d).wf = true) (_ : (Lit.int .i64 n).wf = true) (_ : (Lit.int .i64 f).wf = true) :
    Calls Try.prog 5 #[leV a c s m, .int .i64 d, .int .i64 n, .int .i64 f] w fun e w' => e = .returned (.bool true) ∧ Below w.heap.size w w' :=
  Jgq.law_lu a c s m d n f _ _ _ w (fun w => spec_lu a c s m d n f w) (fun w => P4.impl_lu a c s m d n f w)
theorem la (a c s m d n f : Int) (w : World) (_ : (Lit.int .i64 a).wf = true) (_ : (Lit.int .i64 c).wf = true) (_ : (Lit.int .i64 s).wf = true) (_ : (Lit.int .i64 m).wf = true) (_ : (Lit.int .i64 d).wf = true) (_ : (Lit.int .i64 n).wf = true) (_ : (Lit.int .i64 f).wf = true) :
    Calls Try.prog 6 #[leV a c s m, .int .i64 d, .int .i64 n, .int .i64 f] w fun e w' => e = .returned (.bool true) ∧ Below w.heap.size w w' :=
  Jgq.law_la a c s m d n f _ _ w (fun w => spec_la a c s m d n f w) (fun w => P4.impl_la a c s m d n f w)
theorem cl (a c s m d n f : Int) (w : World) (_ : (Lit.int .i64 a).wf = true) (_ : (Lit.int .i64 c).wf = true) (_ : (Lit.int .i64 s).wf = true) (_ : (Lit.int .i64 m).wf = true) (_ : (Lit.int .i64 d).wf = true) (_ : (Lit.int .i64 n).wf = true) (_ : (Lit.int .i64 f).wf = true) :
    Calls Try.prog 9 #[leV a c s m, .int .i64 d, .int .i64 n, .int .i64 f] w fun e w' => e = .returned (.bool true) ∧ Below w.heap.size w w' :=
  Jgq.law_cl a c s m d n f _ _ w (fun w => spec_cl a c s m d n f w) (fun w => P4.impl_cl a c s m d n f w)
theorem pu (a c s m d n t : Int) (w : World) (_ : (Lit.int .i64 a).wf = true) (_ : (Lit.int .i64 c).wf = true) (_ : (Lit.int .i64 s).wf = true) (_ : (Lit.int .i64 m).wf = true) (_ : (Lit.int .i64 d).wf = true) (_ : (Lit.int .i64 n).wf = true) (_ : (Lit.int .i64 t).wf = true) :
    Calls Try.prog 8 #[leV a c s m, .int .i64 d, .int .i64 n, .int .i64 t] w fun e w' => e = .returned (.bool true) ∧ Below w.heap.size w w' :=
  Jgq.law_pu a c s m d n t _ _ w (fun w => spec_pu a c s m d n t w) (fun w => P6.impl_pu a c s m d n t w)
theorem gp (a c s m d : Int) (w : World) (_ : (Lit.int .i64 a).wf = true) (_ : (Lit.int .i64 c).wf = true) (_ : (Lit.int .i64 s).wf = true) (_ : (Lit.int .i64 m).wf = true) (_ : (Lit.int .i64 d).wf = true) :
    Calls Try.prog 11 #[leV a c s m, .int .i64 d] w fun e w' => e = .returned (.bool true) ∧ Below w.heap.size w w' :=
  Jgq.law_gp a c s m d _ _ w (fun w => spec_gp a c s m d w) (fun w => P6.impl_gp a c s m d w)
end Go.Proofs.Ytgclhkiiaclkgaa.Pz
