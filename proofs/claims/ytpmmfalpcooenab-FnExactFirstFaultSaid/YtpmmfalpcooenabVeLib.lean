/- EulerOf: both functions. -/
import Derived.Test.YtpmmfalpcooenabVoLib
import Derived.Deep.RegionHeld3
namespace Go.Proofs.Ytpmmfalpcooenab.Ve
set_option linter.unusedVariables false
open Go.RowKit Go.Maps Ft Is Ge Qb Pt Pv Za Mm Zb Zc Zd Vq Sdq Sdu Uf Ug Uh Uk Uc Uq Ux Uy Vo

/-- Corners less edges plus pieces. -/
def euN (ms : Nat → Nat) (n : Nat) (S : Nat → Int) (k : Nat) : Int := (coN ms n S k : Int) - ((sumN ms n : Int) - (k : Int)) + (n : Int)
theorem co_le (ms : Nat → Nat) (n : Nat) (S : Nat → Int) (k : Nat) : coN ms n S k ≤ sumN ms n := cc_le _ _
end Go.Proofs.Ytpmmfalpcooenab.Ve
