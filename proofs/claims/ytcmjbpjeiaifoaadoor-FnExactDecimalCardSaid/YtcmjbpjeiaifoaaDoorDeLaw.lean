/- The walk of the law of Decimal. -/
import Derived.Test.YtcmjbpjeiaifoaaDoorTbLib
import Derived.OpenShut
namespace Go.Proofs.YtcmjbpjeiaifoaaDoor.De
open Go.RowKit Ba Go.Lib Dc Ds Tb
set_option linter.unusedVariables false

theorem law (n : Int) (w : World) (ht : Tab w) (hw : (Lit.int .i64 n).wf = true) : Calls Tryd.prog 3 #[.int .i64 n] w fun e w' => e = .returned (.bool true) ∧ Below w.heap.size w w' := by
  obtain ⟨h0, h1⟩ := bounds_i64 hw
  have S := Lib.hid fun w => dec_any n h0 h1 w
  have I := Lib.hid fun w ht => idec n h0 h1 w ht
  have HT := Lib.hid ht
  generalize (itoa n).toArray = s at S I
  clear h0 h1 ht hw
  go_enter Tryd.func3, Tryd.ntmps3
  go_wp2_with fail
  refine (Ds.sdec_of S _).mono ?_
  rintro e w1 ⟨rfl, b1⟩
  have HT1 := Lib.hid (HT.out.below b1)
  go_wp2_with fail
  refine (I.out _ HT1.out).mono ?_
  rintro e w2 ⟨rfl, b2⟩
  have HB := Lib.hid (below_then b1 b2)
  clear b1 b2
  go_wp2_with fail
  go_ret
  exact ⟨rfl, HB.out⟩
end Go.Proofs.YtcmjbpjeiaifoaaDoor.De
