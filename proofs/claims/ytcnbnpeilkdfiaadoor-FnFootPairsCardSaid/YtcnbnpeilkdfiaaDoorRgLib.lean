/- ReadFoot: the spec's walk. -/
import Derived.Test.YtcnbnpeilkdfiaaDoorRfLib
namespace Go.Proofs.YtcnbnpeilkdfiaaDoor.Rg
open Go.RowKit Ba Dc Ds Rn Rs Tb Ri St Rz Rf
set_option linter.unusedVariables false

theorem num_row {w w' : World} {base : Nat} {e : TypeId} {size n : Nat} {v : Value} {xs : List Value} (h : w.ownsRow base e size v n xs) (hb : Below w.heap.size w w') : w'.ownsRow base e size v n xs := row_below h hb
theorem keep_of {w2 w' : World} {g i : Nat} {v : Value} (hb : Below w2.heap.size w2 w') (hg : g < w2.heap.size) (h : w2.cell? ⟨g, i, none⟩ = some v) : w'.cell? ⟨g, i, none⟩ = some v := (hb.cell (p := ⟨g, i, none⟩) hg).trans h
end Go.Proofs.YtcnbnpeilkdfiaaDoor.Rg
