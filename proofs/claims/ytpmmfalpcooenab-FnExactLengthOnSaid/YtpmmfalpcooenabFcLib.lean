/- The codes of lists of feet; the column of one measure. -/
import Derived.Test.YtpmmfalpcooenabLdLib
import Derived.Test.YtpmmfalpcooenabIsLib
namespace Go.Proofs.Ytpmmfalpcooenab.Fc
open Go.RowKit Ft Fs Ld Is

open Classical in
/-- The code of feet and a distance. -/
noncomputable def codeOf (n : Nat) (F : Nat → Nat → Int) (most : Int) : Int := if ¬ Okay n F then 1 else if ¬ (0 ≤ most ∧ most ≤ 5000) then 2 else if n = 0 then 3 else 0
theorem ret_int {a b : Int} (h : a = b) : Ending.returned (.int .i64 a) = .returned (.int .i64 b) := by rw [h]

end Go.Proofs.Ytpmmfalpcooenab.Fc
