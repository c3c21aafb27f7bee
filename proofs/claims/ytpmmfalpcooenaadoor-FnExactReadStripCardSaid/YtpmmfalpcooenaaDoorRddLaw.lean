/- The walk of the law of ReadStrip. -/
import Derived.Test.YtpmmfalpcooenaaDoorRdcLib
namespace Go.Proofs.YtpmmfalpcooenaaDoor.Rdd
open Go.RowKit Ba Ri Rda Rdb Rdc
set_option linter.unusedVariables false
/-- Two edges are equal. -/
theorem eq_same (a : Nat → Int) (w : World) : Calls Tryd.prog 46 #[.agg #[.int .i64 (a 0), .int .i64 (a 1), .int .i64 (a 2), .int .i64 (a 3)], .agg #[.int .i64 (a 0), .int .i64 (a 1), .int .i64 (a 2), .int .i64 (a 3)]] w fun e w' => e = .returned (.bool true) ∧ Below w.heap.size w w' := by
  generalize a 0 = a0, a 1 = a1, a 2 = a2, a 3 = a3
  go_enter Tryd.func46, Tryd.ntmps46
  go_wp2
  go_ret
  exact ⟨rfl, by repeat (first | exact Below.refl _ _ | exact below_box _ _ | refine Below.setCell ?_ (by simp <;> omega) _ | refine Below.alloc ?_ (by simp <;> omega) _)⟩
theorem law (s : ByteArray) (w : World) (hV : VR w) (hM : MaxAt w) (hs : s.size ≤ maxLen) : Calls Tryd.prog 13 #[.string s] w fun e w' => e = .returned (.bool true) ∧ Below w.heap.size w w' := by
  have hs' := hs
  unfold maxLen at hs'
  have HV := Lib.hid hV
  have HM := Lib.hid hM
  by_cases hbig : 1048576 < s.size
  · clear hV hM hs
    go_enter Tryd.func13, Tryd.ntmps13
    go_wp2_with fail
    go_ret
    exact ⟨rfl, Below.refl _ _⟩
  have S := Lib.hid fun w => spec_rd s (by omega) w
  have I := Lib.hid fun w h hM => impl_rd s (by omega) w h hM
  have E := Lib.hid fun w => eq_same (V s.data.toList) w
  generalize V s.data.toList = a at S I E
  generalize B s.data.toList = b at S I
  clear hV hM hs
  cases b
  all_goals
    go_enter Tryd.func13, Tryd.ntmps13
    go_wp2_with fail
    refine (S.out _).mono ?_
    rintro e w1 ⟨rfl, b1⟩
    have HB1 := Lib.hid (b1.alloc b1.size (.cells #[.int .i64 (a 0), .int .i64 (a 1), .int .i64 (a 2), .int .i64 (a 3)] 54))
    clear b1
    go_wp2_with fail
    refine (I.out _ (HV.out.below HB1.out) (HM.out.below HB1.out)).mono ?_
    rintro e w2 ⟨rfl, b2⟩
    obtain ⟨_, k2⟩ := boxes1 b2
    have HB2 := Lib.hid (below_then HB1.out b2)
    obtain ⟨x0, x1, x2, x3⟩ := blk4 k2
    have hl2 := lt_of_heap k2
    have hz2 := HB2.out.size
    clear b2 k2 HB1
    go_wp2_with fail
    refine (E.out _).mono ?_
    rintro e w3 ⟨rfl, b3⟩
    have HB3 := Lib.hid (below_then (HB2.out.alloc hz2 _) b3)
    clear b3
    go_wp2_with fail
    go_ret
    exact ⟨rfl, HB3.out⟩
end Go.Proofs.YtpmmfalpcooenaaDoor.Rdd
