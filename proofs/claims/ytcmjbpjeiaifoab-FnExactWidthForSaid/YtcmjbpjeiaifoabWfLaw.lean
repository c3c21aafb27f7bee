/- The walk of the law FnExactWidthFor. -/
import Derived.Test.YtcmjbpjeiaifoabWfLib
namespace Go.Proofs.Ytcmjbpjeiaifoab.Wf1
open Go.RowKit Ba Wd Wf
set_option linter.unusedVariables false

set_option maxHeartbeats 1000000 in
/-- The law: both say the same. -/
theorem law (f : Int) (h : Int) (s : Int) (c : Int) (half : Int) (k : Int) (w : World) (wf : (Lit.int .i64 f).wf = true) (wh : (Lit.int .i64 h).wf = true) (ws : (Lit.int .i64 s).wf = true) (wc : (Lit.int .i64 c).wf = true) (whalf : (Lit.int .i64 half).wf = true) (wk : (Lit.int .i64 k).wf = true) : Calls Try.prog 11 #[.agg #[.int .i64 f, .int .i64 h, .int .i64 s, .int .i64 c], .int .i64 half, .int .i64 k] w fun e w' => e = .returned (.bool true) ∧ Below w.heap.size w w' := by
  have C := Lib.hid fun w => spec_all f h s c half k w
  have I := Lib.hid fun w => impl_all f h s c half k w
  clear wf wh ws wc whalf wk
  generalize wfV f h s c half k = r0 at C I
  generalize wfC f h s c half k = r1 at C I
  go_enter Try.func11, Try.ntmps11
  go_wp2_with fail
  refine (to_any _ _ _ _ _).mono ?_
  rintro e w1 ⟨rfl, b1⟩
  have HB1 := Lib.hid (below_then (below_box _ _) b1)
  have K1 := Lib.hid (blk_keep b1 (blk_new _ _))
  clear b1
  go_wp2_with fail
  refine (C.out _).mono ?_
  rintro e w2 ⟨rfl, b2⟩
  have HB2 := Lib.hid (below_then HB1.out b2)
  have K2 := Lib.hid (blk_keep b2 K1.out)
  clear HB1 K1
  clear b2
  obtain ⟨x0, x1, x2, x3⟩ := blk4 K2.out
  go_wp2_with fail
  refine (to_any _ _ _ _ _).mono ?_
  rintro e w3 ⟨rfl, b3⟩
  have HB3 := Lib.hid (below_then HB2.out b3)
  have K3 := Lib.hid (blk_keep b3 K2.out)
  clear HB2 K2
  clear b3
  clear x0 x1 x2 x3
  go_wp2_with fail
  refine (I.out _).mono ?_
  rintro e w4 ⟨rfl, b4⟩
  have HB4 := Lib.hid (below_then HB3.out b4)
  have K4 := Lib.hid (blk_keep b4 K3.out)
  clear HB3 K3
  clear b4
  clear K4
  go_wp2_with fail
  go_ret
  exact ⟨rfl, HB4.out⟩
end Go.Proofs.Ytcmjbpjeiaifoab.Wf1
