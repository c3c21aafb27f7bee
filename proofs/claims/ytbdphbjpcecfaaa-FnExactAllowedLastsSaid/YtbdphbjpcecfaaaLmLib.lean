/- Both functions LastNamed. -/
import Derived.Test.YtbdphbjpcecfaaaPlLib
namespace Go.Proofs.Ytbdphbjpcecfaaa.Lm
open Go.RowKit Ft Ge Qb La Ll Lv Pl

/-- The code of arguments. -/
def argE (v r : Bool) : Int := if v then (if r then 0 else 2) else 1
theorem arg_any (v r : Bool) (w : World) : Calls Try.prog 36 #[.bool v, .bool r] w fun e w' => e = .returned (.int .i64 (argE v r)) ∧ w = w' := by
  cases v <;> cases r
  all_goals
    go_enter Try.func36, Try.ntmps36
    go_wp2
    go_ret
    exact ⟨rfl, rfl⟩
end Go.Proofs.Ytbdphbjpcecfaaa.Lm
