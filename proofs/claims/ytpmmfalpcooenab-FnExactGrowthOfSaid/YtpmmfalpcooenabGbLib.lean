/- Bounds of sums and of products; the slope's two parts. -/
import Derived.Test.YtpmmfalpcooenabGmLib
namespace Go.Proofs.Ytpmmfalpcooenab.Gb
open Gm

theorem prod_bd {u v a b : Int} (h1 : -a ≤ u) (h2 : u ≤ a) (h3 : -b ≤ v) (h4 : v ≤ b) : -(a * b) ≤ u * v ∧ u * v ≤ a * b := by
  have e : (u * v).natAbs ≤ (a * b).natAbs := by
    rw [Int.natAbs_mul, Int.natAbs_mul]
    exact Nat.mul_le_mul (by omega) (by omega)
  have p : 0 ≤ a * b := Int.mul_nonneg (by omega) (by omega)
  omega
/-- Days and lengths as the functions take them. -/
def Ok (n : Nat) (d x : Nat → Int) : Prop := n ≤ 30 ∧ (∀ i, i < n → 0 ≤ d i ∧ d i ≤ 10000 ∧ 500 ≤ x i ∧ x i ≤ 5000)
theorem sq_nonneg (a : Int) : 0 ≤ a * a := by
  rcases Int.le_total 0 a with h | h
  · exact Int.mul_nonneg h h
  · exact Int.mul_nonneg_of_nonpos_of_nonpos h h
theorem diff_bd {n : Nat} {d x : Nat → Int} (h : Ok n d x) {i k : Nat} (hi : i < n) (hk : k < n) : -100000000 ≤ (d i - d k) * (x i - x k) ∧ (d i - d k) * (x i - x k) ≤ 100000000 ∧ 0 ≤ (d i - d k) * (d i - d k) ∧ (d i - d k) * (d i - d k) ≤ 100000000 := by
  have a := h.2 i hi
  have b := h.2 k hk
  have p := prod_bd (u := d i - d k) (v := x i - x k) (a := 10000) (b := 10000) (by omega) (by omega) (by omega) (by omega)
  have q := prod_bd (u := d i - d k) (v := d i - d k) (a := 10000) (b := 10000) (by omega) (by omega) (by omega) (by omega)
  have s := sq_nonneg (d i - d k)
  omega
theorem row_bd {n : Nat} {d x : Nat → Int} (h : Ok n d x) {i : Nat} (hi : i < n) : ∀ m, m ≤ n → -(100000000 * (m : Int)) ≤ row d x i m ∧ row d x i m ≤ 100000000 * (m : Int) ∧ 0 ≤ row d d i m ∧ row d d i m ≤ 100000000 * (m : Int)
  | 0, _ => by simp [row]
  | m + 1, hm => by
    have ih := row_bd h hi m (by omega)
    have p := diff_bd h hi (show m < n by omega)
    simp only [row]
    omega
theorem pairs_bd {n : Nat} {d x : Nat → Int} (h : Ok n d x) : ∀ m, m ≤ n → -(3000000000 * (m : Int)) ≤ pairs d x m ∧ pairs d x m ≤ 3000000000 * (m : Int) ∧ 0 ≤ pairs d d m ∧ pairs d d m ≤ 3000000000 * (m : Int)
  | 0, _ => by simp [pairs]
  | m + 1, hm => by
    have ih := pairs_bd h m (by omega)
    have p := row_bd h (show m < n by omega) m (by omega)
    have h30 := h.1
    simp only [pairs]
    omega
theorem pairs_pos {n : Nat} {d x : Nat → Int} (h : Ok n d x) (hr : d 0 < d 1) (h2 : 2 ≤ n) : 1 ≤ pairs d d n := by
  have mono : ∀ m k, m + k ≤ n → pairs d d m ≤ pairs d d (m + k) := fun m k => by
    induction k with
    | zero => intro _; exact Int.le_refl _
    | succ k ih =>
      intro hk
      have p := row_bd h (show m + k < n by omega) (m + k) (by omega)
      have := ih (by omega)
      rw [show m + (k + 1) = (m + k) + 1 by omega]
      simp only [pairs]
      omega
  have e : pairs d d 2 = (d 1 - d 0) * (d 1 - d 0) := by simp [pairs, row]
  have p : 1 ≤ (d 1 - d 0) * (d 1 - d 0) := by
    have := Int.mul_le_mul (show (1 : Int) ≤ d 1 - d 0 by omega) (show (1 : Int) ≤ d 1 - d 0 by omega) (by omega) (by omega)
    omega
  have m := mono 2 (n - 2) (by omega)
  rw [show 2 + (n - 2) = n by omega] at m
  omega
theorem sm_bd {n : Nat} {f : Nat → Int} {b : Int} (h : ∀ i, i < n → 0 ≤ f i ∧ f i ≤ b) : ∀ m, m ≤ n → 0 ≤ sm f m ∧ sm f m ≤ b * (m : Int)
  | 0, _ => by simp [sm]
  | m + 1, hm => by
    have ih := sm_bd h m (by omega)
    have p := h m (by omega)
    simp only [sm]
    have e : b * ((m + 1 : Nat) : Int) = b * (m : Int) + b := by
      rw [Int.natCast_add, Int.mul_add]
      simp
    omega
/-- What the program sums up. -/
theorem sums_bd {n : Nat} {d x : Nat → Int} (h : Ok n d x) {m : Nat} (hm : m ≤ n) :
    0 ≤ sm d m ∧ sm d m ≤ 300000 ∧ 0 ≤ sm x m ∧ sm x m ≤ 150000 ∧ 0 ≤ sm (fun k => d k * x k) m ∧ sm (fun k => d k * x k) m ≤ 1500000000 ∧ 0 ≤ sm (fun k => d k * d k) m ∧ sm (fun k => d k * d k) m ≤ 3000000000 := by
  have h30 := h.1
  have a := sm_bd (f := d) (b := 10000) (fun i hi => by have := h.2 i hi; omega) m hm
  have b := sm_bd (f := x) (b := 5000) (fun i hi => by have := h.2 i hi; omega) m hm
  have c := sm_bd (n := n) (f := fun k => d k * x k) (b := 50000000) (fun i hi => by
    have := h.2 i hi
    have p := prod_bd (u := d i) (v := x i) (a := 10000) (b := 5000) (by omega) (by omega) (by omega) (by omega)
    have q := Int.mul_nonneg (show 0 ≤ d i by omega) (show 0 ≤ x i by omega)
    show 0 ≤ d i * x i ∧ d i * x i ≤ 50000000
    omega) m hm
  have e := sm_bd (n := n) (f := fun k => d k * d k) (b := 100000000) (fun i hi => by
    have := h.2 i hi
    have p := prod_bd (u := d i) (v := d i) (a := 10000) (b := 10000) (by omega) (by omega) (by omega) (by omega)
    have q := Int.mul_nonneg (show 0 ≤ d i by omega) (show 0 ≤ d i by omega)
    show 0 ≤ d i * d i ∧ d i * d i ≤ 100000000
    omega) m hm
  omega
end Go.Proofs.Ytpmmfalpcooenab.Gb
