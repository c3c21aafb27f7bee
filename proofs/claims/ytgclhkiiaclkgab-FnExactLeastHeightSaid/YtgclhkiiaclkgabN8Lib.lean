/- Rows in their first form, nothing of any function: what the search for the least length leans on. -/
import Derived.Test.YtgclhkiiaclkgabJuLib
import Derived.Test.YtgclhkiiaclkgabN7Lib
namespace Go.Proofs.Ytgclhkiiaclkgab.N8
set_option linter.unusedVariables false
open Jr Js Jt Ju N7

/-- How many rows the first k blocks use. -/
def mn (q : Nat → Int) : Nat → Int
  | 0 => 0
  | k + 1 => max (mn q k) (q k + 1)
/-- The row of a block is right, by those in front of it. -/
def ok (roll : Int) (g : Nat → Int) (k : Nat) (q : Nat → Int) : Prop := (0 ≤ q k ∧ q k ≤ mn q k) ∧ wd g q k (q k).toNat + g (k * 2) ≤ roll
/-- The length of rows. -/
def vl (g : Nat → Int) (n : Nat) (q : Nat → Int) : Int := hi (ht g q n) 9
theorem wd_s (g p : Nat → Int) (t k : Nat) : wd g p (t + 1) k = if p t = (k : Int) then wd g p t k + g (t * 2) else wd g p t k := rfl
theorem ht_s (g p : Nat → Int) (t k : Nat) : ht g p (t + 1) k = if p t = (k : Int) then max (ht g p t k) (g (t * 2 + 1)) else ht g p t k := rfl
theorem wd_eq {g q p : Nat → Int} : ∀ {k : Nat}, (∀ j, j < k → q j = p j) → wd g q k = wd g p k
  | 0, _ => rfl
  | k + 1, h => by
    funext r
    rw [wd_s, wd_s, wd_eq (k := k) fun j hj => h j (by omega), h k (by omega)]
theorem ht_eq {g q p : Nat → Int} : ∀ {k : Nat}, (∀ j, j < k → q j = p j) → ht g q k = ht g p k
  | 0, _ => rfl
  | k + 1, h => by
    funext r
    rw [ht_s, ht_s, ht_eq (k := k) fun j hj => h j (by omega), h k (by omega)]
theorem mn_eq {q p : Nat → Int} : ∀ {k : Nat}, (∀ j, j < k → q j = p j) → mn q k = mn p k
  | 0, _ => rfl
  | k + 1, h => by
    unfold mn
    rw [mn_eq (k := k) fun j hj => h j (by omega), h k (by omega)]
theorem vl_eq {g q p : Nat → Int} {n : Nat} (h : ∀ j, j < n → q j = p j) : vl g n q = vl g n p := by unfold vl; rw [ht_eq h]
theorem ok_eq {roll : Int} {g q p : Nat → Int} {k : Nat} (h : ∀ j, j < k + 1 → q j = p j) : ok roll g k q ↔ ok roll g k p := by
  unfold ok
  rw [wd_eq (k := k) fun j hj => h j (by omega), mn_eq (k := k) fun j hj => h j (by omega), h k (by omega)]
theorem hi_mono {f h : Nat → Int} (e : ∀ k, f k ≤ h k) : ∀ k, hi f k ≤ hi h k
  | 0 => Int.le_refl _
  | k + 1 => by
    unfold hi
    have := hi_mono e k
    have := e k
    omega
theorem ht_step (g q : Nat → Int) (k r : Nat) : ht g q k r ≤ ht g q (k + 1) r := by
  rw [ht_s]
  split
  · exact Int.le_max_left _ _
  · exact Int.le_refl _
theorem ht_mono (g q : Nat → Int) (k r : Nat) : ∀ d, ht g q k r ≤ ht g q (k + d) r
  | 0 => Int.le_refl _
  | d + 1 => Int.le_trans (ht_mono g q k r d) (ht_step g q (k + d) r)
/-- No rows that begin so are shorter than what stands. -/
theorem vl_low {g q p : Nat → Int} {n k : Nat} (hk : k ≤ n) (h : ∀ j, j < k → q j = p j) : hi (ht g p k) 9 ≤ vl g n q := by
  rw [← ht_eq h]
  unfold vl
  refine hi_mono (fun r => ?_) 9
  have := ht_mono g q k r (n - k)
  rwa [show k + (n - k) = n by omega] at this
theorem hi_same {f h : Nat → Int} : ∀ {m : Nat}, (∀ j, j < m → h j = f j) → hi h m = hi f m
  | 0, _ => rfl
  | m + 1, e => by
    unfold hi
    rw [hi_same (m := m) fun j hj => e j (by omega), e m (by omega)]
theorem hi_one {f h : Nat → Int} {z : Nat} (e : ∀ j, j ≠ z → h j = f j) : ∀ {m : Nat}, z < m → hi h m = hi f m - f z + h z
  | 0, hz => by omega
  | m + 1, hz => by
    unfold hi
    by_cases c : z = m
    · subst c
      rw [hi_same (m := z) fun j hj => e j (by omega)]
      omega
    · rw [hi_one (f := f) (h := h) e (m := m) (by omega), e m (by omega)]
      omega
/-- One block more: the length so far. -/
theorem sum_put {g p : Nat → Int} {k z : Nat} (hz : z < 9) : hi (ht g (put p k (z : Int)) (k + 1)) 9 = hi (ht g p k) 9 - ht g p k z + max (ht g p k z) (g (k * 2 + 1)) := by
  have e : ht g (put p k (z : Int)) k = ht g p k := ht_eq fun j hj => put_lt hj
  have h1 : ∀ j, j ≠ z → ht g (put p k (z : Int)) (k + 1) j = ht g p k j := fun j hj => by
    rw [ht_s, put_at, if_neg (by omega), e]
  have h2 : ht g (put p k (z : Int)) (k + 1) z = max (ht g p k z) (g (k * 2 + 1)) := by
    rw [ht_s, put_at, if_pos rfl, e]
  rw [hi_one h1 hz, h2]
theorem wd_put {g p : Nat → Int} {k z : Nat} : (∀ j, j ≠ z → wd g (put p k (z : Int)) (k + 1) j = wd g p k j) ∧ wd g (put p k (z : Int)) (k + 1) z = wd g p k z + g (k * 2) := by
  have e : wd g (put p k (z : Int)) k = wd g p k := wd_eq fun j hj => put_lt hj
  refine ⟨fun j hj => ?_, ?_⟩
  · rw [wd_s, put_at, if_neg (by omega), e]
  · rw [wd_s, put_at, if_pos rfl, e]
theorem mn_put {p : Nat → Int} {k : Nat} {c : Int} : mn (put p k c) (k + 1) = max (mn p k) (c + 1) := by
  show max (mn (put p k c) k) (put p k c k + 1) = _
  rw [put_at, mn_eq (k := k) fun j hj => put_lt hj]
/-- Rows used are no more than blocks. -/
theorem mn_in {roll : Int} {g q : Nat → Int} {n : Nat} (h : NF n (ok roll g) q) : ∀ {k : Nat}, k ≤ n → 0 ≤ mn q k ∧ mn q k ≤ (k : Int)
  | 0, _ => ⟨Int.le_refl _, Int.le_refl _⟩
  | k + 1, hk => by
    have h1 := mn_in h (k := k) (by omega)
    have h2 := (h k (by omega)).1
    unfold mn
    omega
theorem vl_pos {roll : Int} {n : Nat} {g : Nat → Int} (h : BlP roll n g) (q : Nat → Int) : 0 ≤ vl g n q := (hi_in (fun k => ht_in q h (Nat.le_refl n) k) 9).1
end Go.Proofs.Ytgclhkiiaclkgab.N8
