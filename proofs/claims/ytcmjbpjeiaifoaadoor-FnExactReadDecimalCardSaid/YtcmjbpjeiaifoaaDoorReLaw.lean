/- The walk of the law of ReadDecimal. -/
import Derived.Test.YtcmjbpjeiaifoaaDoorRiLib
namespace Go.Proofs.YtcmjbpjeiaifoaaDoor.Re
open Go.RowKit Ba Go.Lib Dc Ds Rn Rs Tb Ri
set_option linter.unusedVariables false

theorem law (s : ByteArray) (w : World) (hV : Vars w) (hs : s.size ≤ maxLen) : Calls Tryd.prog 4 #[.string s] w fun e w' => e = .returned (.bool true) ∧ Below w.heap.size w w' := by
  have hs' := hs
  unfold maxLen at hs'
  have HV := Lib.hid hV
  by_cases hbig : 1048576 < s.size
  · clear hV hs
    go_enter Tryd.func4, Tryd.ntmps4
    go_wp2_with fail
    go_ret
    exact ⟨rfl, Below.refl _ _⟩
  have S : Hid (∀ w : World, Calls Tryd.prog 9 #[.string s] w fun e w' => e = .returned (.tuple #[.int .i64 (rdN s.data.toList), .bool (rdB s.data.toList)]) ∧ Below w.heap.size w w') := by
    have S0 := Lib.hid fun w => num_any s hs w
    generalize rdN s.data.toList = a at S0 ⊢
    generalize rdB s.data.toList = b at S0 ⊢
    clear hV hs
    exact Lib.hid fun w => by
      go_enter Tryd.func9, Tryd.ntmps9
      go_wp2_with fail
      refine (S0.out _).mono ?_
      rintro e w1 ⟨rfl, b1⟩
      go_wp2_with fail
      go_ret2
      exact ⟨rfl, b1⟩
  have I := Lib.hid fun w h => read_any s (by omega) w h
  generalize rdN s.data.toList = a at S I
  generalize rdB s.data.toList = b at S I
  clear hV hs
  cases b
  all_goals
    go_enter Tryd.func4, Tryd.ntmps4
    go_wp2_with fail
    refine (S.out _).mono ?_
    rintro e w1 ⟨rfl, b1⟩
    have HV1 := Lib.hid (HV.out.below b1)
    go_wp2_with fail
    refine (I.out _ HV1.out).mono ?_
    rintro e w2 ⟨rfl, b2⟩
    have HB := Lib.hid (below_then b1 b2)
    clear b1 b2
    go_wp2_with fail
    go_ret
    exact ⟨rfl, HB.out⟩
end Go.Proofs.YtcmjbpjeiaifoaaDoor.Re
