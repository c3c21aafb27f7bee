/- Sums: the pairs' form of a slope's two parts is n times sums less products of sums. -/
import Derived.Below
namespace Go.Proofs.Ytpmmfalpcooenab.Gm

/-- The sum of the first n numbers. -/
def sm (f : Nat → Int) : Nat → Int
  | 0 => 0
  | n + 1 => sm f n + f n
/-- The sum over k < i of (d i - d k) * (x i - x k), for the first m of them. -/
def row (d x : Nat → Int) (i : Nat) : Nat → Int
  | 0 => 0
  | m + 1 => row d x i m + (d i - d m) * (x i - x m)
/-- The sum over all pairs k < i < n. -/
def pairs (d x : Nat → Int) : Nat → Int
  | 0 => 0
  | n + 1 => pairs d x n + row d x n n
theorem row_eq (d x : Nat → Int) (i m : Nat) : row d x i m = (m : Int) * (d i * x i) - d i * sm x m - x i * sm d m + sm (fun k => d k * x k) m := by
  induction m with
  | zero => simp [row, sm]
  | succ m ih =>
    simp only [row, sm, ih, Int.natCast_add, Int.cast_ofNat_Int]
    grind
theorem pairs_eq (d x : Nat → Int) (n : Nat) : pairs d x n = (n : Int) * sm (fun k => d k * x k) n - sm d n * sm x n := by
  induction n with
  | zero => simp [pairs, sm]
  | succ n ih =>
    simp only [pairs, sm, ih, row_eq, Int.natCast_add, Int.cast_ofNat_Int]
    grind
#print axioms pairs_eq
end Go.Proofs.Ytpmmfalpcooenab.Gm
