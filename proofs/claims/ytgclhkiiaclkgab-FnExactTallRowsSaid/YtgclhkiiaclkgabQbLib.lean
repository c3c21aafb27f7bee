/- A region that draws its order, whose operations only read and whose callees leave all that lay before as it was: walked once, in the order of the text. -/
import Derived.Test.YtgclhkiiaclkgabRows
import Derived.WalkKit
import Derived.WalkLawsBesides
import Derived.Below
import Derived.Lib.Hide
import Derived.Deep.QuietTactic
import Derived.BigQuiet
namespace Go.Proofs.Ytgclhkiiaclkgab.Qb
open Go.RowKit

/-- A world that has come of w: what lay in w lies there as it was. -/
structure Beyond (w : World) where
  to : World
  h : Below w.heap.size w to
instance (w : World) : Inhabited (Beyond w) := ⟨⟨w, Below.refl _ _⟩⟩
theorem wp_region_below {P : Program} {id : Nat} {Q : Exit → Act → World → Prop} {a : Act} {w : World} {l : List Oper} (hm : P.follows .mixedOrders = true) (hB : Region.lexB .any l.toArray = true)
    (h : wpQuiet P l.toArray (fun w' => ∃ p : Beyond w, w' = p.to) (fun a' => ∀ w', (∃ p : Beyond w, w' = p.to) → Q .normal a' w') l a) : (Code.region id l.toArray true).wp P Q a w :=
  wp_region_quiet (C := fun w' => ∃ p : Beyond w, w' = p.to) hm hB ⟨⟨w.drew, (Below.refl _ w).drew⟩, rfl⟩ (by simpa using h)
theorem bey_cell {w : World} {g o : Nat} {v : Value} (h : w.cell? ⟨g, o, none⟩ = some v) (p : Beyond w) : p.to.cell? ⟨g, o, none⟩ = some v := (p.h.cell (p := ⟨g, o, none⟩) (World.block_lt_of_cell? w _ h)).trans h
/-- A callee that leaves all as it was, new blocks aside. -/
theorem bey_of {P : Program} {f : FuncId} {args : Array Value} {w : World} (p : Beyond w) {v : Value} (h : Calls P f args p.to fun e w' => e = .returned v ∧ Below p.to.heap.size p.to w') :
    Calls P f args p.to fun e w'' => e = .returned v ∧ ∃ q : Beyond w, w'' = q.to :=
  h.mono fun _ w' ⟨he, hb⟩ => ⟨he, ⟨w', p.h.trans (hb.mono p.h.size)⟩, rfl⟩
/-- A callee that turns nothing. -/
theorem bey_same {P : Program} {f : FuncId} {args : Array Value} {w : World} (p : Beyond w) {v : Value} (h : Calls P f args p.to fun e w' => e = .returned v ∧ p.to = w') :
    Calls P f args p.to fun e w'' => e = .returned v ∧ ∃ q : Beyond w, w'' = q.to :=
  h.mono fun _ _ ⟨he, hb⟩ => ⟨he, p, hb.symm⟩
end Go.Proofs.Ytgclhkiiaclkgab.Qb
