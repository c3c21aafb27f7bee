/- The codes of lists of feet; the column of one measure. -/
import Derived.Test.YtcnbnpeilkdfiaaDoorLdLib
import Derived.Test.YtcnbnpeilkdfiaaDoorIsLib
namespace Go.Proofs.YtcnbnpeilkdfiaaDoor.Fc
open Go.RowKit Ft Fs Ld Is

open Classical in
/-- The code of feet and a distance. -/
noncomputable def codeOf (n : Nat) (F : Nat → Nat → Int) (most : Int) : Int := if ¬ Okay n F then 1 else if ¬ (0 ≤ most ∧ most ≤ 5000) then 2 else if n = 0 then 3 else 0
theorem ret_int {a b : Int} (h : a = b) : Ending.returned (.int .i64 a) = .returned (.int .i64 b) := by rw [h]

theorem impl_code (A : Option Addr) (n c : Nat) (F : Nat → Nat → Int) (most : Int) (hn : n ≤ 1048576) (w : World) (hA : Ints w w.heap.size 4 A n F) :
    Calls Tryd.prog 33 #[.slice A n c, .int .i64 most] w fun e w' => e = .returned (.int .i64 (codeOf n F most)) ∧ Below w.heap.size w w' := by
  have C := Lib.hid (impl_ok A n c F hn w hA)
  clear hA
  by_cases ho : Okay n F
  · have C1 := Lib.hid (C.out.mono fun _ _ t => tells_true ho t)
    by_cases hlo : most < 0
    · have HR : Hid (codeOf n F most = 2) := Lib.hid (by unfold codeOf; rw [if_neg (by simpa using ho), if_pos (by omega)])
      clear ho
      go_enter Tryd.func33, Tryd.ntmps33
      go_wp2_with fail
      refine C1.out.mono ?_
      rintro e w1 ⟨rfl, b1⟩
      have HB := Lib.hid b1
      clear b1
      go_wp2_with fail
      go_ret
      exact ⟨ret_int HR.out.symm, HB.out⟩
    have hlo' : 0 ≤ most := by omega
    by_cases hhi : 5000 < most
    · have HR : Hid (codeOf n F most = 2) := Lib.hid (by unfold codeOf; rw [if_neg (by simpa using ho), if_pos (by omega)])
      clear ho hlo
      go_enter Tryd.func33, Tryd.ntmps33
      go_wp2_with fail
      refine C1.out.mono ?_
      rintro e w1 ⟨rfl, b1⟩
      have HB := Lib.hid b1
      clear b1
      go_wp2_with fail
      go_ret
      exact ⟨ret_int HR.out.symm, HB.out⟩
    have hhi' : most ≤ 5000 := by omega
    by_cases h0 : n = 0
    · subst h0
      have HR : Hid (codeOf 0 F most = 3) := Lib.hid (by unfold codeOf; rw [if_neg (by simpa using ho), if_neg (by omega), if_pos rfl])
      clear ho hlo hhi
      go_enter Tryd.func33, Tryd.ntmps33
      go_wp2_with fail
      refine C1.out.mono ?_
      rintro e w1 ⟨rfl, b1⟩
      have HB := Lib.hid b1
      clear b1
      go_wp2_with fail
      go_ret
      exact ⟨ret_int HR.out.symm, HB.out⟩
    · have hne : ((n : Int) == 0) = false := by simpa using h0
      have HR : Hid (codeOf n F most = 0) := Lib.hid (by unfold codeOf; rw [if_neg (by simpa using ho), if_neg (by omega), if_neg h0])
      clear ho h0 hlo hhi
      go_enter Tryd.func33, Tryd.ntmps33
      go_wp2_with fail
      refine C1.out.mono ?_
      rintro e w1 ⟨rfl, b1⟩
      have HB := Lib.hid b1
      clear b1
      go_wp2_with fail
      go_ret
      exact ⟨ret_int HR.out.symm, HB.out⟩
  · have C1 := Lib.hid (C.out.mono fun _ _ t => tells_false ho t)
    have HR : Hid (codeOf n F most = 1) := Lib.hid (by unfold codeOf; rw [if_pos (by simpa using ho)])
    clear ho
    go_enter Tryd.func33, Tryd.ntmps33
    go_wp2_with fail
    refine C1.out.mono ?_
    rintro e w1 ⟨rfl, b1⟩
    have HB := Lib.hid b1
    clear b1
    go_wp2_with fail
    go_ret
    exact ⟨ret_int HR.out.symm, HB.out⟩
end Go.Proofs.YtcnbnpeilkdfiaaDoor.Fc
