/- Both functions LastNamed. -/
import Derived.Test.YtaoknbhpjnileabPlLib
namespace Go.Proofs.Ytaoknbhpjnileab.Lm
open Go.RowKit Ft Ge Qb La Ll Lv Pl

/-- The code of arguments. -/
def argE (v r : Bool) : Int := if v then (if r then 0 else 2) else 1
theorem arg_any (v r : Bool) (w : World) : Calls Try.prog 73 #[.bool v, .bool r] w fun e w' => e = .returned (.int .i64 (argE v r)) ∧ w = w' := by
  cases v <;> cases r
  all_goals
    go_enter Try.func73, Try.ntmps73
    go_wp2
    go_ret
    exact ⟨rfl, rfl⟩
end Go.Proofs.Ytaoknbhpjnileab.Lm
