/- New lists of numbers. -/
import Derived.Test.YtgclhkiiaclkgabGeLib
import Derived.Test.YtgclhkiiaclkgabIsLib
import Derived.Test.YtgclhkiiaclkgabBwLib
namespace Go.Proofs.Ytgclhkiiaclkgab.Ow
set_option linter.unusedVariables false
open Go.RowKit Ft Is Ge

/-- A new list of numbers, and a code. -/
def PairAt (n : Nat) (d : Nat → Int) (c : Int) (w : World) (e : Ending) (w' : World) : Prop := ∃ A cap, e = .returned (.tuple #[.slice A n cap, .int .i64 c]) ∧ Hid (Own w' w.heap.size A n d) ∧ Below w.heap.size w w'
/-- A new list of numbers. -/
def OneAt (n : Nat) (d : Nat → Int) (w : World) (e : Ending) (w' : World) : Prop := ∃ A cap, e = .returned (.slice A n cap) ∧ Hid (Own w' w.heap.size A n d) ∧ Below w.heap.size w w'
theorem own_of_row {n : Nat} {f : Nat → Int} {w' : World} {B : Nat} {v : Value} (h : w'.ownsRow B 2 1 v n (upto f n)) : ∃ A cap, v = .slice A n cap ∧ Own w' B A n f := by
  rcases h.2 with ⟨rfl, rfl⟩ | ⟨g, cap, cur, rfl, hbg, hh, _⟩
  · exact ⟨none, 0, rfl, fun h => absurd h (by omega)⟩
  · exact ⟨_, cap, rfl, fun _ => ⟨g, 0, rfl, hbg, lt_of_heap hh, fun i hi => by rw [Nat.zero_add]; exact (h.cellAt i (by omega)).trans (upto_get f hi), fun i => blk_free hh i⟩⟩
theorem one_of_row {n : Nat} {f : Nat → Int} {w w0 w' : World} {v : Value} (h : w'.ownsRow w0.heap.size 2 1 v n (upto f n)) (h0 : Below w.heap.size w w0) (hb : Below w0.heap.size w0 w') : OneAt n f w (.returned v) w' := by
  obtain ⟨A, cap, rfl, ho⟩ := own_of_row h
  exact ⟨A, cap, rfl, Lib.hid (Bw.own_later ho h0.size), below_then h0 hb⟩
theorem pair_of_row {n : Nat} {f : Nat → Int} {w w0 w' : World} {v : Value} (h : w'.ownsRow w0.heap.size 2 1 v n (upto f n)) (h0 : Below w.heap.size w w0) (hb : Below w0.heap.size w0 w') : PairAt n f 0 w (.returned (.tuple #[v, .int .i64 0])) w' := by
  obtain ⟨A, cap, rfl, ho⟩ := own_of_row h
  exact ⟨A, cap, rfl, Lib.hid (Bw.own_later ho h0.size), below_then h0 hb⟩
theorem pair_no {w w' : World} {c : Int} (hb : Below w.heap.size w w') (d : Nat → Int) : PairAt 0 d c w (.returned (.tuple #[.slice none 0 0, .int .i64 c])) w' := ⟨none, 0, rfl, Lib.hid fun h => absurd h (by omega), hb⟩
theorem row_start (w : World) (k : Nat) (hk : k ≤ 1048576) (f : Nat → Int) : (w.alloc (.cells (Go.madeCells #[Value.int .i64 0] k) 2)).ownsRow w.heap.size 2 1 (.slice (some ⟨w.heap.size, 0, none⟩) 0 k) 0 (upto f 0) :=
  ⟨rfl, .inr ⟨_, k, _, rfl, Nat.le_refl _, heap_alloc_new _ _, by omega, by unfold maxLen; omega, by rw [size_madeCells]; omega, rfl⟩⟩
theorem row_zero (w : World) (f : Nat → Int) : (w.alloc (.cells #[] 2)).ownsRow w.heap.size 2 1 (.slice (some ⟨w.heap.size, 0, none⟩) 0 0) 0 (upto f 0) :=
  ⟨rfl, .inr ⟨_, 0, _, rfl, Nat.le_refl _, heap_alloc_new _ _, by omega, by unfold maxLen; omega, rfl, rfl⟩⟩
theorem cell_new (w : World) (x : Value) (t : TypeId) : ∀ j u, [x][j]? = some u → (w.alloc (.cells #[x] t)).cell? ((⟨w.heap.size, 0, none⟩ : Addr).add j) = some u := by
  intro q u hu
  rw [Addr.add_lit, Nat.zero_add]
  exact (cell_of_row _ _ q _ _ _ (heap_alloc_new w _)).trans (by simpa using hu)
/-- Room for numbers. -/
theorem make_row (n : Nat) (hn : n ≤ 1048576) (w : World) : (Instr.makeSlice 30 (.int .i64 0) (.int .i64 (n : Int))).run Try.prog w = .ok (.slice (some ⟨w.heap.size, 0, none⟩) 0 n) (w.alloc (.cells (Go.madeCells (Value.int .i64 0).cells (n * 1)) 2)) := by
  obtain ⟨i0, hi0, hz0, hz1, hz2⟩ := info_parts info_int
  have := run_make w _ _ i0 _ Try.underlying30 hi0 hz0 .i64 .i64 0 n (by omega) (by omega) (by rw [hz2]; omega) (by omega)
  rw [hz1] at this
  simpa using this
end Go.Proofs.Ytgclhkiiaclkgab.Ow
