/- DifferenceOf: the spec's and the program's. -/
import Derived.Test.YtcnbnpeilkdfiaaDoorLgImpl
import Derived.Test.YtcnbnpeilkdfiaaDoorIsLib
import Derived.IntWalk
namespace Go.Proofs.YtcnbnpeilkdfiaaDoor.Df
open Go.RowKit Ft Fs Ld Lg Is

theorem two (w : World) (A B : Obj) : ((w.alloc A).alloc B).heap[w.heap.size]? = some A ∧ ((w.alloc A).alloc B).heap[w.heap.size + 1]? = some B := by
  refine ⟨?_, ?_⟩
  · rw [Below.heap_alloc _ _ _ (by simp)]; exact heap_alloc_new _ _
  · have := heap_alloc_new (w.alloc A) B
    simpa using this
theorem below2 (w : World) (A B : Obj) : Below w.heap.size w ((w.alloc A).alloc B) := ((Below.refl _ _).alloc (Nat.le_refl _) _).alloc (by simp) _
theorem ft_bounds {a : Nat → Int} (h : ftB (a 0) (a 1) (a 2) (a 3) = true) : ∀ j, j < 4 → 500 ≤ a j ∧ a j ≤ 5000 := by
  simp [ftB, inB] at h
  intro j hj
  obtain rfl | rfl | rfl | rfl : j = 0 ∨ j = 1 ∨ j = 2 ∨ j = 3 := by omega
  all_goals omega
theorem diff_wrap {a b : Nat → Int} (ha : ftB (a 0) (a 1) (a 2) (a 3) = true) (hb : ftB (b 0) (b 1) (b 2) (b 3) = true) : ∀ j, j < 4 → IntKind.i64.wrap (b j - a j) = b j - a j := fun j hj => by
  have := ft_bounds ha j hj
  have := ft_bounds hb j hj
  exact IntWalk.i64_in _ (by omega)
/-- New differences and the code OK. -/
def DiffAt (d : Nat → Int) (w : World) (e : Ending) (w' : World) : Prop :=
  ∃ g cap, e = .returned (.tuple #[.slice (some ⟨g, 0, none⟩) 4 cap, .int .i64 0]) ∧ Hid (Own w' w.heap.size (some ⟨g, 0, none⟩) 4 d) ∧ Below w.heap.size w w'

end Go.Proofs.YtcnbnpeilkdfiaaDoor.Df
