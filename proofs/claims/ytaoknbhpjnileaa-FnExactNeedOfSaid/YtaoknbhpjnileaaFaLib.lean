/- Whether a foot is far from another one: the spec's and the program's. -/
import Derived.Test.YtaoknbhpjnileaaFcLib
import Derived.Test.YtaoknbhpjnileaaQbLib
import Derived.Deep.DeepCutAuto
import Derived.Deep.DeepMust
namespace Go.Proofs.Ytaoknbhpjnileaa.Fa
open Go.RowKit Ft Fs Ld Is Fc Qb

/-- How far two numbers are apart. -/
def gap (a b : Int) : Int := if a < b then b - a else a - b
open Classical in
/-- Foot a is far from foot b. -/
noncomputable def farB (a b : Nat → Int) (most : Int) : Bool := decide (∃ j, j < 4 ∧ most < gap (a j) (b j))
theorem far_yes {a b : Nat → Int} {most : Int} {k : Nat} (hk : k < 4) (h : most < gap (a k) (b k)) : farB a b most = true := by
  simp only [farB, decide_eq_true_eq]
  exact ⟨k, hk, h⟩
theorem far_no {a b : Nat → Int} {most : Int} (h : ∀ j, j < 4 → gap (a j) (b j) ≤ most) : farB a b most = false := by
  simp only [farB, decide_eq_false_iff_not]
  exact fun ⟨j, hj, hm⟩ => by have := h j hj; omega
/-- The numbers of a foot lie in a range in which nothing overflows. -/
def Mild (a : Nat → Int) : Prop := ∀ j, j < 4 → -100000 ≤ a j ∧ a j ≤ 100000
theorem nth_at (f : Nat → Int) {k : Nat} (hk : k < 4) : nth (f 0) (f 1) (f 2) (f 3) k = f k := by
  obtain rfl | rfl | rfl | rfl : k = 0 ∨ k = 1 ∨ k = 2 ∨ k = 3 := by omega
  all_goals rfl
theorem none_yet {a b : Nat → Int} {most : Int} {k : Nat} (h : ∀ j, j < k → gap (a j) (b j) ≤ most) (hk : gap (a k) (b k) ≤ most) : ∀ j, j < k + 1 → gap (a j) (b j) ≤ most := fun j hj => by
  by_cases e : j = k
  · rw [e]; exact hk
  · exact h j (by omega)

theorem keep_of {w2 W : World} {g o : Nat} {v : Value} (hb : Below w2.heap.size w2 W) (hg : g < w2.heap.size) (h : w2.cell? ⟨g, o, none⟩ = some v) : W.cell? ⟨g, o, none⟩ = some v := (hb.cell (p := ⟨g, o, none⟩) hg).trans h
/-- The measures, with the very world that the call leaves. -/
theorem measures_exact (l b i h : Int) (w : World) : Calls Try.prog 98 #[.agg #[.int .i64 l, .int .i64 b, .int .i64 i, .int .i64 h]] w fun e w' => e = .returned (.agg #[.int .i64 l, .int .i64 b, .int .i64 i, .int .i64 h]) ∧ (w.alloc (.cells #[.int .i64 l, .int .i64 b, .int .i64 i, .int .i64 h] 35)).alloc (.cells #[.int .i64 l, .int .i64 b, .int .i64 i, .int .i64 h] 116) = w' := by
  go_enter Try.func98, Try.ntmps98
  go_wp2
  exact bodyPost_ret (v := .agg #[.int .i64 l, .int .i64 b, .int .i64 i, .int .i64 h]) (by simp [results, Try.results98, go_sem]) rfl ⟨rfl, rfl⟩
theorem two (w : World) (A B : Obj) : ((w.alloc A).alloc B).heap[w.heap.size]? = some A ∧ ((w.alloc A).alloc B).heap[w.heap.size + 1]? = some B := by
  refine ⟨?_, ?_⟩
  · rw [Below.heap_alloc _ _ _ (by simp)]; exact heap_alloc_new _ _
  · have := heap_alloc_new (w.alloc A) B
    simpa using this
theorem below2 (w : World) (A B : Obj) : Below w.heap.size w ((w.alloc A).alloc B) := ((Below.refl _ _).alloc (Nat.le_refl _) _).alloc (by simp) _

end Go.Proofs.Ytaoknbhpjnileaa.Fa
