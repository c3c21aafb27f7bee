/- The first of numbers at which something holds: function-free. -/
import Derived.Below
namespace Go.Proofs.Ytpmmfalpcooenab.Fst

/-- The first one below n. -/
def fst (P : Nat → Bool) : Nat → Option Nat
  | 0 => none
  | n + 1 => match fst P n with
    | some i => some i
    | none => if P n then some n else none
theorem fst_no {P : Nat → Bool} : ∀ {n : Nat}, (∀ i, i < n → P i = false) → fst P n = none
  | 0, _ => rfl
  | n + 1, h => by
    simp only [fst, fst_no (n := n) (fun i hi => h i (by omega)), h n (by omega)]
    rfl
theorem fst_at {P : Nat → Bool} {j : Nat} (h : ∀ i, i < j → P i = false) (hj : P j = true) : ∀ {n : Nat}, j < n → fst P n = some j
  | n + 1, hn => by
    by_cases e : j = n
    · subst e
      simp only [fst, fst_no h, hj]
      rfl
    · simp only [fst, fst_at h hj (n := n) (by omega)]
/-- The index of the first one, or another number. -/
def ix (P : Nat → Bool) (n : Nat) (other : Int) : Int := match fst P n with
  | some i => (i : Int)
  | none => other
theorem ix_no {P : Nat → Bool} {n : Nat} {o : Int} (h : ∀ i, i < n → P i = false) : ix P n o = o := by simp [ix, fst_no h]
theorem ix_at {P : Nat → Bool} {n j : Nat} {o : Int} (h : ∀ i, i < j → P i = false) (hj : P j = true) (hn : j < n) : ix P n o = (j : Int) := by simp [ix, fst_at h hj hn]
theorem step_no {P : Nat → Bool} {k : Nat} (h : ∀ i, i < k → P i = false) (hk : P k = false) : ∀ i, i < k + 1 → P i = false := fun i hi => by
  by_cases e : i = k
  · rw [e]; exact hk
  · exact h i (by omega)
end Go.Proofs.Ytpmmfalpcooenab.Fst
