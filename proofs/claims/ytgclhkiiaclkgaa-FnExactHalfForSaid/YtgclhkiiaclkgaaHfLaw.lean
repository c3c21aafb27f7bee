/- The walk of the law FnExactHalfFor. -/
import Derived.Test.YtgclhkiiaclkgaaHfLib
namespace Go.Proofs.Ytgclhkiiaclkgaa.Hf1
open Go.RowKit Ba Sc Hf
set_option linter.unusedVariables false

set_option maxHeartbeats 1000000 in
/-- The law: both say the same. -/
theorem law (s : ByteArray) (b : Int) (n : Int) (d : Int) (l : Int) (w : World) (hs : s.size ≤ maxLen) (wb : (Lit.int .i64 b).wf = true) (wn : (Lit.int .i64 n).wf = true) (wd : (Lit.int .i64 d).wf = true) (wl : (Lit.int .i64 l).wf = true) : Calls Try.prog 13 #[.agg #[.string s, .int .i64 b, .int .i64 n, .int .i64 d], .int .i64 l] w fun e w' => e = .returned (.bool true) ∧ Below w.heap.size w w' := by
  have hs' := hs
  unfold maxLen at hs'
  by_cases hbig : 1048576 < s.size
  · have Z := Lib.hid fun w => size_no s b n d 1048576 (by omega) (by omega) (by omega) (by omega) w
    clear hs hbig hs'
    go_enter Try.func13, Try.ntmps13
    go_wp2_with fail
    refine (Z.out _).mono ?_
    rintro e w1 ⟨rfl, b1⟩
    go_wp2_with fail
    go_ret
    exact ⟨rfl, below_then (below_box _ _) b1⟩
  have Z := Lib.hid fun w => size_yes s b n d 1048576 (by omega) (by omega) w
  have C := Lib.hid fun w => spec_all s b n d l hs w
  have I := Lib.hid fun w => impl_all s b n d l hs w
  have hle : (0 : Int) ≤ 1048576 - (s.size : Int) := by omega
  clear hbig hs'
  clear hs wb wn wd wl
  generalize hfV s b n d l = r0 at C I
  generalize hfC s b n d l = r1 at C I
  go_enter Try.func13, Try.ntmps13
  go_wp2_with fail
  refine (Z.out _).mono ?_
  rintro e w1 ⟨rfl, b1⟩
  have HB1 := Lib.hid (below_then (below_box _ _) b1)
  have K1 := Lib.hid (blk_keep b1 (blk_new _ _))
  clear b1
  obtain ⟨x0, x1, x2, x3⟩ := blk4 K1.out
  have hlt := lt_of_heap K1.out
  go_wp2_with fail
  refine (to_any _ _ _ _ _).mono ?_
  rintro e w2 ⟨rfl, b2⟩
  have HB2 := Lib.hid (below_then HB1.out b2)
  have K2 := Lib.hid (blk_keep b2 K1.out)
  clear HB1 K1
  clear b2
  clear hlt x0 x1 x2 x3
  go_wp2_with fail
  refine (C.out _).mono ?_
  rintro e w3 ⟨rfl, b3⟩
  have HB3 := Lib.hid (below_then HB2.out b3)
  have K3 := Lib.hid (blk_keep b3 K2.out)
  clear HB2 K2
  clear b3
  obtain ⟨x0, x1, x2, x3⟩ := blk4 K3.out
  have hlt := lt_of_heap K3.out
  go_wp2_with fail
  refine (to_any _ _ _ _ _).mono ?_
  rintro e w4 ⟨rfl, b4⟩
  have HB4 := Lib.hid (below_then HB3.out b4)
  have K4 := Lib.hid (blk_keep b4 K3.out)
  clear HB3 K3
  clear b4
  clear hlt x0 x1 x2 x3
  go_wp2_with fail
  refine (I.out _).mono ?_
  rintro e w5 ⟨rfl, b5⟩
  have HB5 := Lib.hid (below_then HB4.out b5)
  have K5 := Lib.hid (blk_keep b5 K4.out)
  clear HB4 K4
  clear b5
  clear K5
  go_wp2_with fail
  go_ret
  exact ⟨rfl, HB5.out⟩
end Go.Proofs.Ytgclhkiiaclkgaa.Hf1
