/- The walk of the law of ValidScale. -/
import Derived.Test.YtcmjbpjeiaifoabScLib
namespace Go.Proofs.Ytcmjbpjeiaifoab.Vs
open Go.RowKit Ba Sc

/-- The law: both say the same of every scale. -/
theorem law (s : ByteArray) (b n d : Int) (w : World) (hs : s.size ≤ maxLen) (_ : (Lit.int .i64 b).wf = true) (_ : (Lit.int .i64 n).wf = true) (_ : (Lit.int .i64 d).wf = true) : Calls Try.prog 3 #[.agg #[.string s, .int .i64 b, .int .i64 n, .int .i64 d]] w fun e w' => e = .returned (.bool true) ∧ Below w.heap.size w w' := by
  have hs' := hs
  unfold maxLen at hs'
  by_cases hbig : 1048576 < s.size
  · have Z := Lib.hid fun w => size_no s b n d 1048576 (by omega) (by omega) (by omega) (by omega) w
    clear hs hbig
    go_enter Try.func3, Try.ntmps3
    go_wp2_with fail
    refine (Z.out _).mono ?_
    rintro e w1 ⟨rfl, b1⟩
    go_wp2_with fail
    go_ret
    exact ⟨rfl, below_then (below_box _ _) b1⟩
  have Z := Lib.hid fun w => size_yes s b n d 1048576 (by omega) (by omega) w
  have C := Lib.hid fun w => spec_ok s b n d hs w
  have I := Lib.hid fun w => impl_ok s b n d hs w
  have hle : (0 : Int) ≤ 1048576 - (s.size : Int) := by omega
  clear hs hbig
  generalize scB s b n d = r at C I
  go_enter Try.func3, Try.ntmps3
  go_wp2_with fail
  refine (Z.out _).mono ?_
  rintro e w1 ⟨rfl, b1⟩
  obtain ⟨x0, x1, x2, x3⟩ := box4 b1
  have HB1 := Lib.hid (below_then (below_box _ _) b1)
  have K1 := Lib.hid (blk_keep b1 (blk_new _ _))
  clear b1
  go_wp2_with fail
  refine (to_any _ _ _ _ _).mono ?_
  rintro e w2 ⟨rfl, b2⟩
  have HB2 := Lib.hid (below_then HB1.out b2)
  have K2 := Lib.hid (blk_keep b2 K1.out)
  clear b2 x0 x1 x2 x3 HB1 K1
  go_wp2_with fail
  refine (C.out _).mono ?_
  rintro e w3 ⟨rfl, b3⟩
  have HB3 := Lib.hid (below_then HB2.out b3)
  have K3 := Lib.hid (blk_keep b3 K2.out)
  clear b3 HB2 K2
  obtain ⟨x0, x1, x2, x3⟩ := blk4 K3.out
  go_wp2_with fail
  refine (to_any _ _ _ _ _).mono ?_
  rintro e w4 ⟨rfl, b4⟩
  have HB4 := Lib.hid (below_then HB3.out b4)
  clear b4 x0 x1 x2 x3 HB3 K3
  go_wp2_with fail
  refine (I.out _).mono ?_
  rintro e w5 ⟨rfl, b5⟩
  have HB5 := Lib.hid (below_then HB4.out b5)
  clear b5 HB4
  cases r
  all_goals
    go_wp2_with fail
    go_ret
    exact ⟨rfl, HB5.out⟩
end Go.Proofs.Ytcmjbpjeiaifoab.Vs
