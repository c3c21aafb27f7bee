/- Blocks of a row as sets of numbers: their widths and heights, rows that are put first, nothing of any function. -/
import Derived.Test.YtgclhkiiaclkgabJwLib
import Derived.Test.YtgclhkiiaclkgabJuLib
import Derived.Laws.BitsAllLaws
namespace Go.Proofs.Ytgclhkiiaclkgab.P5
set_option linter.unusedVariables false
open Go.RowKit Jr Js Jt Ju Jw

/-- The sums of the widths and the greatest heights of those of the first t blocks that are in a set. -/
def ws (g : Nat → Int) (x : Nat) : Nat → Int
  | 0 => 0
  | t + 1 => if x.testBit t = true then ws g x t + g (t * 2) else ws g x t
def hs (g : Nat → Int) (x : Nat) : Nat → Int
  | 0 => 0
  | t + 1 => if x.testBit t = true then max (hs g x t) (g (t * 2 + 1)) else hs g x t
/-- The set of those of the first t blocks that are in row k. -/
def rs (p : Nat → Int) (k : Nat) : Nat → Nat
  | 0 => 0
  | t + 1 => if p t = (k : Int) then rs p k t ||| 2 ^ t else rs p k t
theorem rs_bit (p : Nat → Int) (k j : Nat) : ∀ t, (rs p k t).testBit j = (decide (j < t) && decide (p j = (k : Int)))
  | 0 => by simp [rs]
  | t + 1 => by
    have ih := rs_bit p k j t
    unfold rs
    by_cases h : p t = (k : Int)
    · rw [if_pos h, Nat.testBit_or, ih, Nat.testBit_two_pow]
      by_cases e : t = j
      · subst e; simp [h]
      · by_cases l : j < t
        · have l2 : j < t + 1 := by omega
          simp [e, l, l2]
        · have l2 : ¬ j < t + 1 := by omega
          simp [e, l, l2]
    · rw [if_neg h, ih]
      by_cases e : t = j
      · subst e; simp [h]
      · by_cases l : j < t
        · have l2 : j < t + 1 := by omega
          simp [l, l2]
        · have l2 : ¬ j < t + 1 := by omega
          simp [l, l2]
theorem pow_lt {t : Nat} (h : t < 9) : 2 ^ t < 512 := Nat.pow_lt_pow_right (by omega) h
theorem or_lt {x t : Nat} (hx : x < 512) (h : t < 9) : x ||| 2 ^ t < 512 := Nat.or_lt_two_pow (n := 9) hx (pow_lt h)
theorem rs_lt (p : Nat → Int) (k : Nat) : ∀ {t : Nat}, t ≤ 9 → rs p k t < 512
  | 0, _ => by simp [rs]
  | t + 1, ht => by
    have ih := rs_lt p k (t := t) (by omega)
    unfold rs
    split
    · exact or_lt ih (by omega)
    · exact ih
theorem ws_rs (g p : Nat → Int) (k m : Nat) : ∀ {t : Nat}, t ≤ m → ws g (rs p k m) t = wd g p t k
  | 0, _ => rfl
  | t + 1, h => by
    unfold ws wd
    rw [ws_rs g p k m (t := t) (by omega), rs_bit]
    have ht : t < m := by omega
    by_cases e : p t = (k : Int) <;> simp [e, ht]
theorem hs_rs (g p : Nat → Int) (k m : Nat) : ∀ {t : Nat}, t ≤ m → hs g (rs p k m) t = ht g p t k
  | 0, _ => rfl
  | t + 1, h => by
    unfold hs ht
    rw [hs_rs g p k m (t := t) (by omega), rs_bit]
    have ht : t < m := by omega
    by_cases e : p t = (k : Int) <;> simp [e, ht]
theorem ws_in {roll : Int} {n : Nat} {g : Nat → Int} (h : BlP roll n g) (x : Nat) : ∀ {t : Nat}, t ≤ n → 0 ≤ ws g x t ∧ ws g x t ≤ 5000 * (t : Int)
  | 0, _ => ⟨Int.le_refl _, Int.le_refl _⟩
  | t + 1, h0 => by
    have h1 := ws_in h x (show t ≤ n by omega)
    have h2 := blk_in (h.2 t (by omega))
    have h3 := inb h.1.1
    unfold ws
    split <;> omega
theorem hs_in {roll : Int} {n : Nat} {g : Nat → Int} (h : BlP roll n g) (x : Nat) : ∀ {t : Nat}, t ≤ n → 0 ≤ hs g x t ∧ hs g x t ≤ 5000
  | 0, _ => ⟨Int.le_refl _, by unfold hs; omega⟩
  | t + 1, h0 => by
    have h1 := hs_in h x (show t ≤ n by omega)
    have h2 := blk_in (h.2 t (by omega))
    unfold hs
    split <;> omega
/-- One block more in a set. -/
theorem ws_or (g : Nat → Int) {x i : Nat} (hx : x.testBit i = false) : ∀ t, ws g (x ||| 2 ^ i) t = if i < t then ws g x t + g (i * 2) else ws g x t
  | 0 => by rw [if_neg (by omega)]; rfl
  | t + 1 => by
    have ih := ws_or g hx t
    unfold ws
    rw [Nat.testBit_or, Nat.testBit_two_pow, ih]
    by_cases e : i = t
    · subst e
      rw [if_neg (Nat.lt_irrefl i), hx, if_pos (Nat.lt_succ_self i)]
      simp
    · by_cases l : i < t
      · rw [if_pos l, if_pos (show i < t + 1 by omega)]
        simp only [e, decide_false, Bool.or_false]
        split <;> omega
      · rw [if_neg l, if_neg (show ¬ i < t + 1 by omega)]
        simp only [e, decide_false, Bool.or_false]
/-- The row of a block, by the sets of the rows. -/
def lk (f : Nat → Nat) (j : Nat) : Nat → Int
  | 0 => 0
  | k + 1 => if (f k).testBit j = true then (k : Int) else lk f j k
theorem lk_zero {f : Nat → Nat} {j : Nat} : ∀ {N : Nat}, (∀ k, k < N → (f k).testBit j = false) → lk f j N = 0
  | 0, _ => rfl
  | N + 1, h => by
    unfold lk
    rw [h N (by omega)]
    simpa using lk_zero fun k hk => h k (by omega)
theorem lk_is {f : Nat → Nat} {j z : Nat} : ∀ {N : Nat}, z < N → (∀ k, k < N → (f k).testBit j = decide (k = z)) → lk f j N = (z : Int)
  | 0, h, _ => by omega
  | N + 1, h, hb => by
    unfold lk
    rw [hb N (by omega)]
    by_cases e : N = z
    · simp [e]
    · simpa [e] using lk_is (N := N) (by omega) fun k hk => hb k (by omega)
/-- The rows that arise when blocks in an order are each put into the first row in which they leave no fault. -/
def ff (roll : Int) (g : Nat → Int) (n : Nat) (o : Nat → Nat) : Nat → Nat → Nat
  | 0 => fun _ => 0
  | t + 1 => fun j => if j = fi (fun k => decide (ws g (ff roll g n o t k ||| 2 ^ o t) n ≤ roll)) 0 9 then ff roll g n o t j ||| 2 ^ o t else ff roll g n o t j
theorem fi_congr {p q : Nat → Bool} (h : ∀ k, p k = q k) : fi p = fi q := by rw [show p = q from funext h]
/-- Both tell the same. -/
theorem ff_fst {roll : Int} {g : Nat → Int} {n : Nat} {o : Nat → Nat} (ho : ∀ j, j < n → o j < n) (hi : ∀ i j, i < n → j < n → o i = o j → i = j) : ∀ {t : Nat}, t ≤ n →
    (∀ k, ws g (ff roll g n o t k) n = (fst roll g o t).1 k) ∧ (∀ k j, (ff roll g n o t k).testBit j = true → ∃ i, i < t ∧ o i = j) ∧ (∀ i, i < t → ∀ k, (ff roll g n o t k).testBit (o i) = decide ((k : Int) = (fst roll g o t).2 (o i))) ∧ (∀ j, (∀ i, i < t → o i ≠ j) → (fst roll g o t).2 j = 0)
  | 0, _ => ⟨fun k => by
      have : ∀ m, ws g 0 m = 0 := fun m => by
        induction m with
        | zero => rfl
        | succ m ih => unfold ws; simpa using ih
      exact this n, fun k j h => by simp [ff] at h, fun i hi => by omega, fun j _ => rfl⟩
  | t + 1, ht => by
    obtain ⟨h1, h2, h3, h4⟩ := ff_fst (roll := roll) (g := g) ho hi (show t ≤ n by omega)
    have hot := ho t (by omega)
    have hno : ∀ k, (ff roll g n o t k).testBit (o t) = false := fun k => by
      cases h : (ff roll g n o t k).testBit (o t)
      · rfl
      · obtain ⟨i, i1, i2⟩ := h2 k _ h
        have := hi i t (by omega) (by omega) i2
        omega
    have hk : fi (fun k => decide (ws g (ff roll g n o t k ||| 2 ^ o t) n ≤ roll)) 0 9 = rk roll (g (o t * 2)) (fst roll g o t).1 := by
      unfold rk
      rw [fi_congr fun k => ?_]
      rw [ws_or g (hno k), if_pos hot, h1 k]
    have hf : ∀ j, ff roll g n o (t + 1) j = if j = rk roll (g (o t * 2)) (fst roll g o t).1 then ff roll g n o t j ||| 2 ^ o t else ff roll g n o t j := fun j => by
      show (if j = fi (fun k => decide (ws g (ff roll g n o t k ||| 2 ^ o t) n ≤ roll)) 0 9 then ff roll g n o t j ||| 2 ^ o t else ff roll g n o t j) = _
      rw [hk]
    have hw : ∀ j, (fst roll g o (t + 1)).1 j = if j = rk roll (g (o t * 2)) (fst roll g o t).1 then (fst roll g o t).1 j + g (o t * 2) else (fst roll g o t).1 j := fun j => rfl
    have hr : ∀ j, (fst roll g o (t + 1)).2 j = if j = o t then ((rk roll (g (o t * 2)) (fst roll g o t).1 : Nat) : Int) else (fst roll g o t).2 j := fun j => rfl
    generalize rk roll (g (o t * 2)) (fst roll g o t).1 = z at hf hw hr
    refine ⟨fun k => ?_, fun k j h => ?_, fun i hi2 k => ?_, fun j hj => ?_⟩
    · rw [hf, hw]
      by_cases e : k = z
      · rw [if_pos e, if_pos e, ws_or g (hno k), if_pos hot, h1 k]
      · rw [if_neg e, if_neg e, h1 k]
    · rw [hf] at h
      by_cases e : k = z
      · rw [if_pos e, Nat.testBit_or, Nat.testBit_two_pow] at h
        by_cases e2 : o t = j
        · exact ⟨t, by omega, e2⟩
        · simp only [e2, decide_false, Bool.or_false] at h
          obtain ⟨i, i1, i2⟩ := h2 k j h
          exact ⟨i, by omega, i2⟩
      · rw [if_neg e] at h
        obtain ⟨i, i1, i2⟩ := h2 k j h
        exact ⟨i, by omega, i2⟩
    · rw [hf, hr]
      by_cases c : i = t
      · subst c
        rw [if_pos rfl]
        by_cases e : k = z
        · subst e
          rw [if_pos rfl, Nat.testBit_or, Nat.testBit_two_pow]
          simp
        · rw [if_neg e, hno k]
          exact (decide_eq_false (by omega)).symm
      · have ne : o i ≠ o t := fun e => c (hi i t (by omega) (by omega) e)
        rw [if_neg ne, ← h3 i (by omega) k]
        by_cases e : k = z
        · rw [if_pos e, Nat.testBit_or, Nat.testBit_two_pow]
          simp [Ne.symm ne]
        · rw [if_neg e]
    · rw [hr, if_neg fun e => hj t (by omega) e.symm]
      exact h4 j fun i hi2 => hj i (by omega)
/-- The rows found are those of the blocks. -/
theorem lk_ff {roll : Int} {g : Nat → Int} {n : Nat} {o : Nat → Nat} (ho : ∀ j, j < n → o j < n) (hi : ∀ i j, i < n → j < n → o i = o j → i = j) (hs : ∀ j, j < n → ∃ i, i < n ∧ o i = j) (hb : ∀ j, j < n → 0 ≤ (fst roll g o n).2 j ∧ (fst roll g o n).2 j ≤ 8) {j : Nat} (hj : j < n) : lk (ff roll g n o n) j 9 = (fst roll g o n).2 j := by
  obtain ⟨h1, h2, h3, h4⟩ := ff_fst (roll := roll) (g := g) ho hi (Nat.le_refl n)
  obtain ⟨i, i1, i2⟩ := hs j hj
  have hb1 := hb j hj
  obtain ⟨z, hz⟩ : ∃ z : Nat, (fst roll g o n).2 j = (z : Int) := ⟨((fst roll g o n).2 j).toNat, by omega⟩
  rw [hz]
  refine lk_is (by omega) fun k hk => ?_
  have := h3 i i1 k
  rw [i2, hz] at this
  rw [this]
  by_cases e : k = z
  · rw [decide_eq_true e, decide_eq_true (by omega)]
  · rw [decide_eq_false e, decide_eq_false (by omega)]
end Go.Proofs.Ytgclhkiiaclkgab.P5
