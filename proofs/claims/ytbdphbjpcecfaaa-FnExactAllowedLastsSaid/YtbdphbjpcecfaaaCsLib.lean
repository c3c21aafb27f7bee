/- MayFit and FitCost: the spec's; whether a call's arguments are valid: the program's. -/
import Derived.Test.YtbdphbjpcecfaaaCoLib
import Derived.Test.YtbdphbjpcecfaaaLvLib
namespace Go.Proofs.Ytbdphbjpcecfaaa.Co
open Go.RowKit Ft Is Fi La Fa Ge

/-- A foot. -/
abbrev ftV (a : Nat → Int) : Value := .agg #[.int .i64 (a 0), .int .i64 (a 1), .int .i64 (a 2), .int .i64 (a 3)]
abbrev ftC (a : Nat → Int) (t : TypeId) : Obj := .cells #[.int .i64 (a 0), .int .i64 (a 1), .int .i64 (a 2), .int .i64 (a 3)] t
abbrev fiC (mn mx gi : Int) (A : Option Addr) (n c : Nat) (t : TypeId) : Obj := .cells #[.int .i64 mn, .int .i64 mx, .int .i64 gi, .slice A n c] t
/-- A last, a foot and a fit are all valid. -/
noncomputable def okB (s : ByteArray) (x a : Nat → Int) (mn mx gi : Int) (n : Nat) (p : Nat → Int) : Bool := laB s x && (ftB (a 0) (a 1) (a 2) (a 3) && tv (FitOk mn mx gi n p))
noncomputable def mayV (s : ByteArray) (x a : Nat → Int) (mn mx gi : Int) (n : Nat) (p : Nat → Int) : Bool := okB s x a mn mx gi n p && decide (0 ≤ ct mn mx gi p x a)
noncomputable def mayC (s : ByteArray) (x a : Nat → Int) (mn mx gi : Int) (n : Nat) (p : Nat → Int) : Int := if okB s x a mn mx gi n p then 0 else 1
noncomputable def costV (s : ByteArray) (x a : Nat → Int) (mn mx gi : Int) (n : Nat) (p : Nat → Int) : Int := if mayV s x a mn mx gi n p then ct mn mx gi p x a else 0
noncomputable def costC (s : ByteArray) (x a : Nat → Int) (mn mx gi : Int) (n : Nat) (p : Nat → Int) : Int := if okB s x a mn mx gi n p then (if 0 ≤ ct mn mx gi p x a then 0 else 10) else 1
/-- The value of a fitting: a last and a fit. -/
abbrev ftgV (s : ByteArray) (x : Nat → Int) (mn mx gi : Int) (A : Option Addr) (c : Nat) : Value := .agg #[.string s, .int .i64 (x 0), .int .i64 (x 1), .int .i64 (x 2), .int .i64 (x 3), .int .i64 (x 4), .int .i64 mn, .int .i64 mx, .int .i64 gi, .slice A 4 c]
/-- The gaps. -/
def gp (x a : Nat → Int) (k : Nat) : Int := if k = 0 then x 0 - a 0 else gap (x k) (a k)
theorem three (w : World) (A B C : Obj) : (((w.alloc A).alloc B).alloc C).heap[w.heap.size]? = some A ∧ (((w.alloc A).alloc B).alloc C).heap[w.heap.size + 1]? = some B ∧ (((w.alloc A).alloc B).alloc C).heap[w.heap.size + 1 + 1]? = some C := by
  refine ⟨?_, ?_, ?_⟩
  · rw [Below.heap_alloc _ _ _ (by simp; omega), Below.heap_alloc _ _ _ (by simp)]; exact heap_alloc_new _ _
  · rw [Below.heap_alloc _ _ _ (by simp)]
    have := heap_alloc_new (w.alloc A) B
    simpa using this
  · have := heap_alloc_new ((w.alloc A).alloc B) C
    simpa using this
theorem below3 (w : World) (A B C : Obj) : Below w.heap.size w (((w.alloc A).alloc B).alloc C) := (((Below.refl _ _).alloc (Nat.le_refl _) _).alloc (by simp) _).alloc (by simp; omega) _
theorem mild_of_la {s : ByteArray} {x : Nat → Int} (h : laB s x = true) : Mild x := fun j hj => by
  unfold laB at h
  simp only [Bool.and_eq_true, ftB, inB, decide_eq_true_eq] at h
  obtain ⟨_, ⟨h0, h1, h2, h3⟩, _⟩ := h
  obtain rfl | rfl | rfl | rfl : j = 0 ∨ j = 1 ∨ j = 2 ∨ j = 3 := by omega
  all_goals omega
theorem mild_of_ft {a : Nat → Int} (h : ftB (a 0) (a 1) (a 2) (a 3) = true) : Mild a := fun j hj => by
  simp only [Bool.and_eq_true, ftB, inB, decide_eq_true_eq] at h
  obtain ⟨h0, h1, h2, h3⟩ := h
  obtain rfl | rfl | rfl | rfl : j = 0 ∨ j = 1 ∨ j = 2 ∨ j = 3 := by omega
  all_goals omega
theorem fit_in {mn mx gi : Int} {n : Nat} {p : Nat → Int} (h : FitOk mn mx gi n p) : n = 4 ∧ 0 ≤ mn ∧ mx ≤ 500 ∧ gi ≤ 500 ∧ ∀ k, k < 4 → 0 ≤ p k ∧ p k ≤ 100 := by
  obtain ⟨⟨h1, h2, h3, rfl⟩, h5⟩ := h
  simp only [inB, decide_eq_true_eq] at h1 h2 h3 h5
  exact ⟨rfl, h2.1, h1.2, h3.2, h5⟩
theorem cost_le {mn mx gi : Int} {p x a : Nat → Int} : ct mn mx gi p x a = -1 ∨ 0 ≤ ct mn mx gi p x a ∨ True := .inr (.inr trivial)

def TwoMayFit (v : Bool) (cd : Int) (w : World) (e : Ending) (w' : World) : Prop := e = .returned (.tuple #[.bool v, .int .i64 cd]) ∧ Below w.heap.size w w'
def TwoFitCost (v : Int) (cd : Int) (w : World) (e : Ending) (w' : World) : Prop := e = .returned (.tuple #[.int .i64 v, .int .i64 cd]) ∧ Below w.heap.size w w'
end Go.Proofs.Ytbdphbjpcecfaaa.Co
