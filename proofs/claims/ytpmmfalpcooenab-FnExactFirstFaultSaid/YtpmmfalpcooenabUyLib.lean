/- CornersOf: both functions; what toldOf hands on of a number. -/
import Derived.Test.YtpmmfalpcooenabUxLib
namespace Go.Proofs.Ytpmmfalpcooenab.Uy
set_option linter.unusedVariables false
open Go.RowKit Go.Maps Ft Is Ge Qb Pt Pv Za Mm Zb Zc Zd Vq Sdq Sdu Uf Ug Uh Uk Uc Uq Ux

/-- A number and a code. -/
def IntAt (x c : Int) (w : World) (e : Ending) (w' : World) : Prop := e = .returned (.tuple #[.int .i64 x, .int .i64 c]) ∧ Below w.heap.size w w'
noncomputable def vX (n : Nat) (N : Nat → ByteArray) (ms : Nat → Nat) (ds : Nat → Nat → Int) (k : Nat) (S : Nat → Int) (o : Int) (x : Int) : Int := if tv (PatP n N ms ds k S o) = true then x else 0
end Go.Proofs.Ytpmmfalpcooenab.Uy
