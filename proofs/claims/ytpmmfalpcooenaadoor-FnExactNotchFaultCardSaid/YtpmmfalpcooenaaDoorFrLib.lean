/- Fractions in lowest terms: both greatest common divisors, the spec's and the program's fraction. -/
import Derived.Test.YtpmmfalpcooenaaDoorBaLib
import Derived.Test.YtpmmfalpcooenaaDoorNhLib
import Derived.RegionTactic
import Derived.IntWalk
namespace Go.Proofs.YtpmmfalpcooenaaDoor.Fr
open Go.RowKit Ba Nh

theorem ssize (a : Int) (hm : -1000000000000000000 ≤ a) (w : World) : Calls Tryd.prog 62 #[.int .i64 a] w fun e w' => e = .returned (.int .i64 (ab a)) ∧ w = w' := by
  by_cases h : a < 0
  · have HE : Hid (ab a = -a) := Lib.hid (by unfold ab; rw [if_pos h])
    have n3 : -a ≤ 1000000000000000000 := by omega
    go_enter Tryd.func62, Tryd.ntmps62
    go_wp2
    go_ret
    exact ⟨ret_int (by rw [HE.out]), rfl⟩
  · have HE : Hid (ab a = a) := Lib.hid (by unfold ab; rw [if_neg h])
    go_enter Tryd.func62, Tryd.ntmps62
    go_wp2
    go_ret
    exact ⟨ret_int (by rw [HE.out]), rfl⟩
end Go.Proofs.YtpmmfalpcooenaaDoor.Fr
