/- Walks of the functions on single feet: the law's copy of a foot, whether a foot is valid (spec and program). -/
import Derived.Test.YtgclhkiiaclkgabRows
import Derived.WalkKit
import Derived.WalkLawsBesides
import Derived.Below
import Derived.Lib.Hide
import Derived.LoopTactic
namespace Go.Proofs.Ytgclhkiiaclkgab.Ft
open Go.RowKit

/-- A number between two others. -/
def inB (n a b : Int) : Bool := decide (a ≤ n ∧ n ≤ b)
/-- A foot that is valid. -/
def ftB (l b i h : Int) : Bool := inB l 500 5000 && (inB b 500 5000 && (inB i 500 5000 && inB h 500 5000))
theorem bcell {W w1 : World} (hb : Below W.heap.size W w1) : (∀ b o, b < W.heap.size → w1.cell? ⟨b, o, none⟩ = W.cell? ⟨b, o, none⟩) ∧ (∀ b o, b < W.heap.size → w1.frozen? ⟨b, o, none⟩ = W.frozen? ⟨b, o, none⟩) :=
  ⟨fun b o h => hb.cell (p := ⟨b, o, none⟩) h, fun b o h => hb.frozen (p := ⟨b, o, none⟩) h⟩

theorem below_then {w0 w w1 : World} (h : Below w0.heap.size w0 w) (b : Below w.heap.size w w1) : Below w0.heap.size w0 w1 := h.trans (b.mono h.size)
theorem below_box (w : World) (o : Obj) : Below w.heap.size w (w.alloc o) := (Below.refl _ _).alloc (Nat.le_refl _) _

/-- The cells of a new box, in whatever world that comes of it. -/
theorem box_cell {w w2 : World} {cs : Array Value} {t : TypeId} (hb : Below (w.alloc (.cells cs t)).heap.size (w.alloc (.cells cs t)) w2) (i : Nat) : w2.cell? ⟨w.heap.size, i, none⟩ = cs[i]? :=
  (hb.cell (p := ⟨w.heap.size, i, none⟩) (by simp)).trans (cell_of_row _ _ _ _ _ (0, 0) (heap_alloc_new w _))
theorem box4 {w w2 : World} {c0 c1 c2 c3 : Value} {t : TypeId} (hb : Below (w.alloc (.cells #[c0, c1, c2, c3] t)).heap.size (w.alloc (.cells #[c0, c1, c2, c3] t)) w2) :
    w2.cell? ⟨w.heap.size, 0, none⟩ = some c0 ∧ w2.cell? ⟨w.heap.size, 1, none⟩ = some c1 ∧ w2.cell? ⟨w.heap.size, 2, none⟩ = some c2 ∧ w2.cell? ⟨w.heap.size, 3, none⟩ = some c3 :=
  ⟨box_cell hb 0, box_cell hb 1, box_cell hb 2, box_cell hb 3⟩

theorem in_any (n a b : Int) (w : World) : Calls Try.prog 82 #[.int .i64 n, .int .i64 a, .int .i64 b] w fun e w' => e = .returned (.bool (inB n a b)) ∧ w = w' := by
  by_cases h1 : a ≤ n <;> by_cases h2 : n ≤ b
  all_goals
    go_enter Try.func82, Try.ntmps82
    go_wp2
    go_ret
    exact ⟨by simp [inB, h1, h2], rfl⟩
theorem ret_bool {a b : Bool} (h : a = b) : Ending.returned (.bool a) = .returned (.bool b) := by rw [h]
/-- The measures of a foot by their places. -/
def nth (l b i h : Int) (k : Nat) : Int := match k with | 0 => l | 1 => b | 2 => i | _ => h
theorem ft_of {l b i h : Int} (H : ∀ j, j < 4 → inB (nth l b i h j) 500 5000 = true) : ftB l b i h = true := by
  have h0 := H 0 (by omega); have h1 := H 1 (by omega); have h2 := H 2 (by omega); have h3 := H 3 (by omega)
  simp only [nth] at h0 h1 h2 h3
  simp [ftB, h0, h1, h2, h3]
theorem ft_no {l b i h : Int} {k : Nat} (hk : k < 4) (hn : inB (nth l b i h k) 500 5000 = false) : ftB l b i h = false := by
  obtain rfl | rfl | rfl | rfl : k = 0 ∨ k = 1 ∨ k = 2 ∨ k = 3 := by omega
  all_goals simp only [nth] at hn; simp [ftB, hn]
theorem in_low {n a b : Int} (h : n < a) : inB n a b = false := by unfold inB; simp; omega
theorem in_high {n a b : Int} (h : b < n) : inB n a b = false := by unfold inB; simp; omega
theorem in_yes {n a b : Int} (h : a ≤ n) (h' : n ≤ b) : inB n a b = true := by unfold inB; simp; omega
end Go.Proofs.Ytgclhkiiaclkgab.Ft
