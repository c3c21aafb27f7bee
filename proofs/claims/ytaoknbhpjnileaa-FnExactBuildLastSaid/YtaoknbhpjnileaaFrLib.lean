/- Fractions in lowest terms: both greatest common divisors, the spec's and the program's fraction. -/
import Derived.Test.YtaoknbhpjnileaaBaLib
import Derived.Test.YtaoknbhpjnileaaNhLib
import Derived.RegionTactic
import Derived.IntWalk
namespace Go.Proofs.Ytaoknbhpjnileaa.Fr
open Go.RowKit Ba Nh

end Go.Proofs.Ytaoknbhpjnileaa.Fr
