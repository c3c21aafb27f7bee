/- Leathers: the laws of BestDirection and MatchDirections. -/
import Derived.Test.YtgclhkiiaclkgaaJgqLib
import Derived.Test.YtgclhkiiaclkgaaP7Lib
import Derived.Test.YtgclhkiiaclkgaaP8Lib
namespace Go.Proofs.Ytgclhkiiaclkgaa.Py
set_option linter.unusedVariables false
open Go.RowKit Ja Jb Jc
theorem bd (a c s m f lo hi : Int) (w : World) (_ : (Lit.int .i64 a).wf = true) (_ : (Lit.int .i64 c).wf = true) (_ : (Lit.int .i64 s).wf = true) (_ : (Lit.int .i64 m).wf = true) (_ : (Lit.int .i64 f).wf = true) (_ : (Lit.int .i64 lo).wf = true) (_ : (Lit.int .i64 hi).wf = true) :
    Calls Try.prog 10 #[leV a c s m, .int .i64 f, .int .i64 lo, .int .i64 hi] w fun e w' => e = .returned (.bool true) ∧ Below w.heap.size w w' :=
  Jgq.law_bd a c s m f lo hi _ _ w (fun w => Jd.spec_bd a c s m f lo hi w) (fun w => P7.impl_bd a c s m f lo hi w)
theorem ma (a c s m a' c' s' m' : Int) (w : World) (_ : (Lit.int .i64 a).wf = true) (_ : (Lit.int .i64 c).wf = true) (_ : (Lit.int .i64 s).wf = true) (_ : (Lit.int .i64 m).wf = true) (_ : (Lit.int .i64 a').wf = true) (_ : (Lit.int .i64 c').wf = true) (_ : (Lit.int .i64 s').wf = true) (_ : (Lit.int .i64 m').wf = true) :
    Calls Try.prog 12 #[leV a c s m, leV a' c' s' m'] w fun e w' => e = .returned (.bool true) ∧ Below w.heap.size w w' :=
  Jgq.law_ma a c s m a' c' s' m' _ _ _ w (fun w => Je.spec_ma a c s m a' c' s' m' w) (fun w => P8.impl_ma a c s m a' c' s' m' w)
end Go.Proofs.Ytgclhkiiaclkgaa.Py
