/- The walk of the law of ValidGrade. -/
import Derived.Test.YtaoknbhpjnileabGaLib
import Derived.Test.YtaoknbhpjnileabAgLib
namespace Go.Proofs.Ytaoknbhpjnileab.Gv
open Go.RowKit Ft Ge Qb La Ga

/-- Five numbers, by place. -/
def of5 (a b c d e : Int) (k : Nat) : Int := match k with | 0 => a | 1 => b | 2 => c | 3 => d | _ => e
end Go.Proofs.Ytaoknbhpjnileab.Gv
