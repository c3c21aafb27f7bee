/- How a last must fit: the law's copy, measure and comparison of it; whether it is valid (spec and program). -/
import Derived.Test.YtgclhkiiaclkgacDoorGeLib
import Derived.Test.YtgclhkiiaclkgacDoorIsLib
import Derived.Test.YtgclhkiiaclkgacDoorQbLib
import Derived.ChangeSlices
import Derived.Deep.Slices
import Derived.ChangeSame
namespace Go.Proofs.YtgclhkiiaclkgacDoor.Fi
open Go.RowKit Go.ChangeShapes Go.WideShapes Ft Is Ge Qb

theorem nums_of_trod {H : Type} {enc : TypeId × Value → H} {P : Program} {w : World} {t e : TypeId} {fuel : Nat} {cs : List Value} {x : DataW H × List MemPlace}
    (ht : P.underlying t = some (.slice e)) (he : P.underlying e = some (.int .i64)) (hC : P.cellsOf e = 1) (h : DataW.trod enc P w 0 (fun _ => true) true fuel t cs = some x) :
    ∃ A n c f, cs = [.slice A n c] ∧ n ≤ maxLen ∧ (∀ i, i < n → (Lit.int .i64 (f i)).wf = true) ∧ Nums w w.heap.size A n f := by
  rcases open_ints ht he hC h with ⟨rfl, _⟩ | ⟨a, n, c, zs, rfl, _, hl, hm, hz, _, hcell, hwf⟩
  · exact ⟨none, 0, 0, fun _ => 0, rfl, by simp [maxLen], fun i hi => by omega, fun h => by omega⟩
  · refine ⟨some a, n, c, fun i => zs.getD i 0, rfl, by omega, fun i hi => ?_, fun hn => ?_⟩
    · have hlen : n ≤ zs.length := by rw [hz]; split <;> omega
      have e : zs.getD i 0 = zs[i]'(by omega) := by simp [List.getD, show i < zs.length by omega]
      show (Lit.int .i64 (zs.getD i 0)).wf = true
      rw [e]
      exact hwf _ (List.getElem_mem _)
    · have hlen : n ≤ zs.length := by rw [hz]; split <;> omega
      have h0 := hcell 0 (by omega)
      have hsp := World.cell?_spot h0
      have hlt := World.block_lt_of_cell? w _ h0
      obtain ⟨b, off, spot⟩ := a
      have hspot : spot = none := by simpa [Addr.add] using hsp
      subst hspot
      exact ⟨b, off, rfl, by simpa [Addr.add] using hlt, fun i hi => by
        have := hcell i (by omega)
        rw [Ge.add_eq] at this
        exact this⟩

theorem at_nums {w : World} {g n : Nat} {f : Nat → Int} (h : At w g n f) : Nums w w.heap.size (some ⟨g, 0, none⟩) n f := fun _ => ⟨g, 0, rfl, h.1, fun i hi => by rw [Nat.zero_add]; exact h.2.1 i hi⟩
/-- A struct of three numbers and a slice of numbers. -/
abbrev fitV (mn mx gi : Int) (A : Option Addr) (n c : Nat) : Value := .agg #[.int .i64 mn, .int .i64 mx, .int .i64 gi, .slice A n c]
/-- A fit that is valid. -/
def FitOk (mn mx gi : Int) (n : Nat) (f : Nat → Int) : Prop := (inB mx 0 500 = true ∧ inB mn 0 mx = true ∧ inB gi 0 500 = true ∧ n = 4) ∧ ∀ i, i < n → inB (f i) 0 100 = true
end Go.Proofs.YtgclhkiiaclkgacDoor.Fi
