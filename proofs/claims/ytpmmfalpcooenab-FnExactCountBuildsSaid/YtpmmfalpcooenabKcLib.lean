/- How many builds have a sum. Nothing here names the program. -/
import Derived.Test.YtpmmfalpcooenabRows
namespace Go.Proofs.Ytpmmfalpcooenab.Kc

/-- The number, as the program counts: with so much to go. -/
def cf (x : Nat → Int) : Nat → Nat → Int → Int
  | 0, _, s => if s = 0 then 1 else 0
  | f + 1, k, s => if s = 0 then 1 else if s < 0 then 0 else match k with
    | 0 => 0
    | k + 1 => cf x f k s + cf x f (k + 1) (s - x k)
theorem cf_zero (x : Nat → Int) (f k : Nat) : cf x f k 0 = 1 := by cases f <;> simp [cf]
theorem cf_neg (x : Nat → Int) (f k : Nat) {s : Int} (h : s < 0) : cf x f k s = 0 := by
  cases f
  · simp [cf]; omega
  · simp [cf, h]; omega
theorem cf_more (x : Nat → Int) : ∀ (f k : Nat) (s : Int), (∀ i, i < k → 1 ≤ x i) → k + s.toNat ≤ f → cf x (f + 1) k s = cf x f k s
  | 0, k, s, _, h => by
    obtain rfl : k = 0 := by omega
    by_cases e : s = 0
    · simp [cf, e]
    · have : s < 0 := by omega
      simp [cf, e, this]
  | f + 1, k, s, hx, h => by
    by_cases e : s = 0
    · simp [cf, e]
    · by_cases e' : s < 0
      · simp [cf, e, e']
      · cases k with
        | zero => simp [cf, e, e']
        | succ k =>
          have h1 := hx k (by omega)
          have i1 := cf_more x f k s (fun i hi => hx i (by omega)) (by omega)
          have i2 := cf_more x f (k + 1) (s - x k) hx (by omega)
          rw [show cf x (f + 1 + 1) (k + 1) s = cf x (f + 1) k s + cf x (f + 1) (k + 1) (s - x k) by rw [cf]; simp [e, e'], show cf x (f + 1) (k + 1) s = cf x f k s + cf x f (k + 1) (s - x k) by rw [cf]; simp [e, e'], i1, i2]
theorem cf_enough {x : Nat → Int} {k : Nat} {s : Int} (hx : ∀ i, i < k → 1 ≤ x i) : ∀ f, k + s.toNat ≤ f → cf x f k s = cf x (k + s.toNat) k s
  | 0, h => by rw [show k + s.toNat = 0 by omega]
  | f + 1, h => by
    by_cases e : k + s.toNat = f + 1
    · rw [e]
    · rw [cf_more x f k s hx (by omega), cf_enough hx f (by omega)]
/-- The number of builds from the first k kinds with the sum s. -/
def cn (x : Nat → Int) (k : Nat) (s : Int) : Int := cf x (k + s.toNat) k s
theorem cn_zero (x : Nat → Int) (k : Nat) : cn x k 0 = 1 := cf_zero _ _ _
theorem cn_neg (x : Nat → Int) (k : Nat) {s : Int} (h : s < 0) : cn x k s = 0 := cf_neg _ _ _ h
theorem cn_none (x : Nat → Int) {s : Int} (h : s ≠ 0) : cn x 0 s = 0 := by
  by_cases e : s < 0
  · exact cn_neg x 0 e
  · unfold cn
    obtain ⟨n, hn⟩ : ∃ n, 0 + s.toNat = n + 1 := ⟨s.toNat - 1, by omega⟩
    rw [hn, cf]
    simp [h]
theorem cn_step {x : Nat → Int} {k : Nat} {s : Int} (hx : ∀ i, i < k + 1 → 1 ≤ x i) (h : 0 < s) : cn x (k + 1) s = cn x k s + cn x (k + 1) (s - x k) := by
  have h1 := hx k (by omega)
  unfold cn
  rw [show k + 1 + s.toNat = (k + s.toNat) + 1 by omega, cf]
  rw [if_neg (by omega), if_neg (by omega)]
  show cf x (k + s.toNat) k s + cf x (k + s.toNat) (k + 1) (s - x k) = _
  rw [cf_enough (k := k + 1) hx (k + s.toNat) (by omega)]

/-- A number that no count is greater than. -/
def bp : Nat → Nat → Nat
  | 0, 0 => 1
  | 0, _ + 1 => 0
  | _ + 1, 0 => 1
  | k + 1, s + 1 => bp k (s + 1) + bp (k + 1) s
theorem bp_zero (k : Nat) : bp k 0 = 1 := by cases k <;> rw [bp]
theorem bp_up (k s : Nat) : bp (k + 1) s ≤ bp (k + 1) (s + 1) := by rw [bp]; omega
theorem bp_mono (k : Nat) : ∀ {s t : Nat}, s ≤ t → bp (k + 1) s ≤ bp (k + 1) t
  | s, 0, h => by rw [show s = 0 by omega]; exact Nat.le_refl _
  | s, t + 1, h => by
    by_cases e : s = t + 1
    · rw [e]; exact Nat.le_refl _
    · exact Nat.le_trans (bp_mono k (by omega)) (bp_up k t)
theorem bp_kinds : ∀ (k s : Nat), bp k s ≤ bp (k + 1) s
  | k, 0 => by rw [bp_zero, bp_zero]; exact Nat.le_refl _
  | k, s + 1 => by rw [show bp (k + 1) (s + 1) = bp k (s + 1) + bp (k + 1) s by rw [bp]]; omega
theorem bp_kinds' : ∀ {k j : Nat} (s : Nat), k ≤ j → bp k s ≤ bp j s
  | k, 0, s, h => by rw [show k = 0 by omega]; exact Nat.le_refl _
  | k, j + 1, s, h => by
    by_cases e : k = j + 1
    · rw [e]; exact Nat.le_refl _
    · exact Nat.le_trans (bp_kinds' s (by omega)) (bp_kinds j s)
def rp (s : Nat) : Nat → Nat
  | 0 => 1
  | k + 1 => rp s k * (s + k + 1)
def fct : Nat → Nat
  | 0 => 1
  | k + 1 => fct k * (k + 1)
theorem rp_shift (s : Nat) : ∀ k, rp (s + 1) k * (s + 1) = rp s (k + 1)
  | 0 => by simp [rp]
  | k + 1 => by
    have h := rp_shift s k
    rw [show rp (s + 1) (k + 1) = rp (s + 1) k * (s + 1 + k + 1) from rfl, Nat.mul_right_comm, h, show rp s (k + 1 + 1) = rp s (k + 1) * (s + (k + 1) + 1) from rfl, show s + 1 + k + 1 = s + (k + 1) + 1 by omega]
theorem rp_zero : ∀ k, rp 0 k = fct k
  | 0 => rfl
  | k + 1 => by rw [rp, fct, rp_zero k, Nat.zero_add]
theorem bp_is : ∀ (k s : Nat), fct k * bp (k + 1) s = rp s k
  | 0, s => by
    have : ∀ s, bp 1 s = 1 := fun s => by
      induction s with
      | zero => rw [bp]
      | succ s ih => rw [bp, ih, bp]
    rw [this]; rfl
  | k + 1, 0 => by rw [bp_zero, rp_zero, Nat.mul_one]
  | k + 1, s + 1 => by
    have h1 := bp_is k (s + 1)
    have h2 := bp_is (k + 1) s
    rw [show bp (k + 1 + 1) (s + 1) = bp (k + 1) (s + 1) + bp (k + 1 + 1) s by rw [bp], Nat.mul_add, h2, ← rp_shift, show fct (k + 1) = fct k * (k + 1) from rfl, Nat.mul_right_comm, h1, ← Nat.mul_add, rp]
    congr 1
    omega
theorem bp_small {k s : Nat} (hk : k ≤ 8) (hs : s ≤ 1000) : bp k s ≤ 1000000000000000000 := by
  have h1 := bp_kinds' s hk
  have h2 : bp 8 s ≤ bp 8 1000 := bp_mono 7 hs
  have h3 : fct 7 * bp 8 1000 = rp 1000 7 := bp_is 7 1000
  have h4 : rp 1000 7 = 1028323966782145073040 := by decide
  have h5 : fct 7 = 5040 := rfl
  rw [h4, h5] at h3
  omega
theorem cn_le (x : Nat → Int) : ∀ (n k s : Nat), k + s ≤ n → (∀ i, i < k → 1 ≤ x i) → 0 ≤ cn x k s ∧ cn x k s ≤ (bp k s : Int)
  | n, k, 0, _, _ => by rw [show ((0 : Nat) : Int) = 0 from rfl, cn_zero, bp_zero]; omega
  | n, 0, s + 1, _, _ => by rw [cn_none x (by omega)]; simp [bp]
  | 0, k + 1, s + 1, h, _ => by omega
  | n + 1, k + 1, s + 1, h, hx => by
    have h1 := hx k (by omega)
    have i1 := cn_le x n k (s + 1) (by omega) (fun i hi => hx i (by omega))
    rw [cn_step hx (by omega), show bp (k + 1) (s + 1) = bp k (s + 1) + bp (k + 1) s by rw [bp]]
    by_cases e : ((s + 1 : Nat) : Int) - x k < 0
    · rw [cn_neg x (k + 1) e]
      omega
    · obtain ⟨t, ht⟩ : ∃ t : Nat, ((s + 1 : Nat) : Int) - x k = t := ⟨(((s + 1 : Nat) : Int) - x k).toNat, by omega⟩
      have i2 := cn_le x n (k + 1) t (by omega) hx
      have i3 := bp_mono k (s := t) (t := s) (by omega)
      rw [ht]
      omega
theorem cn_small {x : Nat → Int} {k : Nat} {s : Int} (hk : k ≤ 8) (hs : s ≤ 1000) (hx : ∀ i, i < k → 1 ≤ x i) : 0 ≤ cn x k s ∧ cn x k s ≤ 1000000000000000000 := by
  by_cases e : s < 0
  · rw [cn_neg x k e]; omega
  · obtain ⟨t, rfl⟩ : ∃ t : Nat, s = t := ⟨s.toNat, by omega⟩
    have := cn_le x _ k t (Nat.le_refl _) hx
    have := bp_small (k := k) (s := t) hk (by omega)
    omega
end Go.Proofs.Ytpmmfalpcooenab.Kc
