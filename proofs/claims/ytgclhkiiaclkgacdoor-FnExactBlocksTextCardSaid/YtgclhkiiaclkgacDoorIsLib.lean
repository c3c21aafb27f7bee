/- Slices of int64: the law's comparison, its marks, and whether the marks are held. -/
import Derived.Test.YtgclhkiiaclkgacDoorFtLib
import Derived.Deep.RegionHeld3
import Derived.RegionTactic
import Derived.OwnWalk
namespace Go.Proofs.YtgclhkiiaclkgacDoor.Is
open Go.RowKit Ft

/-- A slice of n numbers f, below block B. -/
def Nums (w : World) (B : Nat) (A : Option Addr) (n : Nat) (f : Nat → Int) : Prop :=
  0 < n → ∃ b off, A = some ⟨b, off, none⟩ ∧ b < B ∧ ∀ i, i < n → w.cell? ⟨b, off + i, none⟩ = some (.int .i64 (f i))
theorem Nums.below {w w' : World} {B B' n : Nat} {A : Option Addr} {f : Nat → Int} (h : Nums w B A n f) (hb : Below B' w w') (hB : B ≤ B') : Nums w' B A n f := fun hn => by
  obtain ⟨b, off, rfl, hlt, hc⟩ := h hn
  exact ⟨b, off, rfl, hlt, fun i hi => (hb.cell (p := ⟨b, off + i, none⟩) (by show b < B'; omega)).trans (hc i hi)⟩
theorem Nums.more {w : World} {B B' n : Nat} {A : Option Addr} {f : Nat → Int} (h : Nums w B A n f) (hB : B ≤ B') : Nums w B' A n f := fun hn => by
  obtain ⟨b, off, rfl, hlt, hc⟩ := h hn
  exact ⟨b, off, rfl, by omega, hc⟩
/-- A row of the call's own: from block B on, not frozen. -/
def Own (w : World) (B : Nat) (A : Option Addr) (n : Nat) (f : Nat → Int) : Prop :=
  0 < n → ∃ b off, A = some ⟨b, off, none⟩ ∧ B ≤ b ∧ b < w.heap.size ∧ (∀ i, i < n → w.cell? ⟨b, off + i, none⟩ = some (.int .i64 (f i))) ∧ ∀ i, w.frozen? ⟨b, i, none⟩ = false
theorem Own.nums {w : World} {B n : Nat} {A : Option Addr} {f : Nat → Int} (h : Own w B A n f) : Nums w w.heap.size A n f := fun hn => by
  obtain ⟨b, off, rfl, _, hlt, hc, _⟩ := h hn
  exact ⟨b, off, rfl, hlt, hc⟩
theorem Own.below {w w' : World} {B n : Nat} {A : Option Addr} {f : Nat → Int} (h : Own w B A n f) (hb : Below w.heap.size w w') : Own w' B A n f := fun hn => by
  obtain ⟨b, off, rfl, hB, hlt, hc, hf⟩ := h hn
  exact ⟨b, off, rfl, hB, by have := hb.size; omega, fun i hi => (hb.cell (p := ⟨b, off + i, none⟩) hlt).trans (hc i hi), fun i => (hb.frozen (p := ⟨b, i, none⟩) hlt).trans (hf i)⟩

/-- The marks. -/
def mk (k0 : Int) (i : Nat) : Int := k0 + (i : Int)
def part (k0 : Int) (f : Nat → Int) (j i : Nat) : Int := if i < j then mk k0 i else f i
theorem own_set {wr : World} {B n j : Nat} {b off : Nat} {k0 : Int} {f : Nat → Int} (hB : B ≤ b) (hlt : b < wr.heap.size) (hj : j < n)
    (hc : ∀ i, i < n → wr.cell? ⟨b, off + i, none⟩ = some (.int .i64 (part k0 f j i))) (hf : ∀ i, wr.frozen? ⟨b, i, none⟩ = false) :
    Own (wr.setCell ⟨b, off + j, none⟩ (.int .i64 (mk k0 j))) B (some ⟨b, off, none⟩) n (part k0 f (j + 1)) := fun _ =>
  ⟨b, off, rfl, hB, by simpa using hlt, fun i hi => by
    by_cases e : i = j
    · subst e
      rw [World.cell?_setCell_same _ _ _ (hc i hi)]
      simp [part]
    · rw [World.cell?_setCell_other _ _ _ _ (show (⟨b, off + j, none⟩ : Addr) ≠ ⟨b, off + i, none⟩ from fun q => by have := (Addr.mk.inj q).2.1; omega), hc i hi]
      have : part k0 f j i = part k0 f (j + 1) i := by
        unfold part
        by_cases h : i < j
        · rw [if_pos h, if_pos (by omega)]
        · rw [if_neg h, if_neg (by omega)]
      rw [this], fun i => (World.frozen?_setCell _ _ _ _).trans (hf i)⟩

end Go.Proofs.YtgclhkiiaclkgacDoor.Is
