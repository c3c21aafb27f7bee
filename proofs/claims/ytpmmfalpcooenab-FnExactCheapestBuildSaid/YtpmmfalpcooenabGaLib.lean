/- Grades: the law's copy and comparison of one; its five numbers; whether it is valid (spec and program). -/
import Derived.Test.YtpmmfalpcooenabLaLib
import Derived.Test.YtpmmfalpcooenabAwLib
namespace Go.Proofs.Ytpmmfalpcooenab.Ga
open Go.RowKit Ft Ge Qb La

/-- Five numbers, by place. -/
abbrev fvV (g : Nat → Int) : Value := .agg #[.int .i64 (g 0), .int .i64 (g 1), .int .i64 (g 2), .int .i64 (g 3), .int .i64 (g 4)]
abbrev fvC (g : Nat → Int) (t : TypeId) : Obj := .cells #[.int .i64 (g 0), .int .i64 (g 1), .int .i64 (g 2), .int .i64 (g 3), .int .i64 (g 4)] t
theorem blk5 {w : World} {g : Nat} {t : TypeId} {c0 c1 c2 c3 c4 : Value} (h : w.heap[g]? = some (.cells #[c0, c1, c2, c3, c4] t (0, 0))) :
    w.cell? ⟨g, 0, none⟩ = some c0 ∧ w.cell? ⟨g, 1, none⟩ = some c1 ∧ w.cell? ⟨g, 2, none⟩ = some c2 ∧ w.cell? ⟨g, 3, none⟩ = some c3 ∧ w.cell? ⟨g, 4, none⟩ = some c4 :=
  ⟨cell_of_row _ _ _ _ _ _ h, cell_of_row _ _ _ _ _ _ h, cell_of_row _ _ _ _ _ _ h, cell_of_row _ _ _ _ _ _ h, cell_of_row _ _ _ _ _ _ h⟩
/-- A grade that is valid. -/
def grB (g : Nat → Int) : Bool := inB (g 0) 0 20000 && (inB (g 1) 0 20000 && (inB (g 2) 0 20000 && (inB (g 3) 0 20000 && inB (g 4) 0 20000)))
theorem gr_of {g : Nat → Int} (H : ∀ j, j < 5 → inB (g j) 0 20000 = true) : grB g = true := by
  simp [grB, H 0 (by omega), H 1 (by omega), H 2 (by omega), H 3 (by omega), H 4 (by omega)]
theorem gr_no {g : Nat → Int} {k : Nat} (hk : k < 5) (hn : inB (g k) 0 20000 = false) : grB g = false := by
  obtain rfl | rfl | rfl | rfl | rfl : k = 0 ∨ k = 1 ∨ k = 2 ∨ k = 3 ∨ k = 4 := by omega
  all_goals simp [grB, hn]
theorem gr_at {g : Nat → Int} (h : grB g = true) {k : Nat} (hk : k < 5) : 0 ≤ g k ∧ g k ≤ 20000 := by
  by_cases e : inB (g k) 0 20000 = true
  · simpa [inB] using e
  · have := gr_no hk (by simpa using e)
    rw [this] at h
    cases h
/-- A new list of five numbers. -/
def FiveAt (f : Nat → Int) (w : World) (e : Ending) (w' : World) : Prop :=
  ∃ g, e = .returned (.slice (some ⟨g, 0, none⟩) 5 5) ∧ w.heap.size ≤ g ∧ g < w'.heap.size ∧ Below w.heap.size w w' ∧ Hid (∀ j, j < 5 → w'.cell? ⟨g, j, none⟩ = some (.int .i64 (f j)))
theorem index5_0 (x0 x1 x2 x3 x4 : Value) (w : World) : (Instr.index 119 (.agg #[x0, x1, x2, x3, x4]) (.int .i64 0)).run Try.prog w = .ok x0 w := by kernel_rfl
theorem index5_1 (x0 x1 x2 x3 x4 : Value) (w : World) : (Instr.index 119 (.agg #[x0, x1, x2, x3, x4]) (.int .i64 1)).run Try.prog w = .ok x1 w := by kernel_rfl
theorem index5_2 (x0 x1 x2 x3 x4 : Value) (w : World) : (Instr.index 119 (.agg #[x0, x1, x2, x3, x4]) (.int .i64 2)).run Try.prog w = .ok x2 w := by kernel_rfl
theorem index5_3 (x0 x1 x2 x3 x4 : Value) (w : World) : (Instr.index 119 (.agg #[x0, x1, x2, x3, x4]) (.int .i64 3)).run Try.prog w = .ok x3 w := by kernel_rfl
theorem index5_4 (x0 x1 x2 x3 x4 : Value) (w : World) : (Instr.index 119 (.agg #[x0, x1, x2, x3, x4]) (.int .i64 4)).run Try.prog w = .ok x4 w := by kernel_rfl
theorem index5 (g : Nat → Int) (k : Nat) (hk : k < 5) (w : World) : (Instr.index 119 (.agg #[.int .i64 (g 0), .int .i64 (g 1), .int .i64 (g 2), .int .i64 (g 3), .int .i64 (g 4)]) (.int .i64 (k : Int))).run Try.prog w = .ok (.int .i64 (g k)) w := by
  match k, hk with
  | 0, _ => exact index5_0 _ _ _ _ _ _
  | 1, _ => exact index5_1 _ _ _ _ _ _
  | 2, _ => exact index5_2 _ _ _ _ _ _
  | 3, _ => exact index5_3 _ _ _ _ _ _
  | 4, _ => exact index5_4 _ _ _ _ _ _
end Go.Proofs.Ytpmmfalpcooenab.Ga
