/- How many bits a number has: counted one by one, and as math/bits counts them: nothing of any function. -/
import Derived.Test.YtongfgikkcieaaaT1Lib
namespace Go.Proofs.Ytongfgikkcieaaa.Te
set_option linter.unusedVariables false

/-- Bits, from the lowest one on. -/
def pn : Nat → Nat → Nat
  | 0, _ => 0
  | k + 1, x => x % 2 + pn k (x / 2)
theorem pn_le : ∀ k x, pn k x ≤ k
  | 0, _ => Nat.le_refl _
  | k + 1, x => by
    have := pn_le k (x / 2)
    unfold pn
    omega
theorem pn_add (b : Nat) : ∀ a x, pn (a + b) x = pn a x + pn b (x / 2 ^ a)
  | 0, x => by simp [pn]
  | a + 1, x => by
    have h := pn_add b a (x / 2)
    rw [Nat.div_div_eq_div_mul, ← Nat.pow_succ'] at h
    simp only [Nat.succ_eq_add_one] at h
    rw [show a + 1 + b = (a + b) + 1 by omega]
    show x % 2 + pn (a + b) (x / 2) = x % 2 + pn a (x / 2) + pn b (x / 2 ^ (a + 1))
    rw [h]
    omega
/-- A mask that comes again and again. -/
def M (a b : Nat) : Nat → Nat
  | 0 => 0
  | k + 1 => a + b * M a b k
theorem and_split (x a m j : Nat) (ha : a < 2 ^ j) : x &&& (a + 2 ^ j * m) = (x % 2 ^ j &&& a) + 2 ^ j * ((x / 2 ^ j) &&& m) := by
  have hp := Nat.two_pow_pos j
  have h1 : (x &&& (a + 2 ^ j * m)) / 2 ^ j = (x / 2 ^ j) &&& m := by
    rw [Nat.and_div_two_pow, Nat.add_mul_div_left _ _ hp, Nat.div_eq_of_lt ha, Nat.zero_add]
  have h2 : (x &&& (a + 2 ^ j * m)) % 2 ^ j = x % 2 ^ j &&& a := by
    rw [Nat.and_mod_two_pow, Nat.add_mul_mod_self_left, Nat.mod_eq_of_lt ha]
  have h3 := Nat.div_add_mod (x &&& (a + 2 ^ j * m)) (2 ^ j)
  rw [h1, h2] at h3
  omega
theorem and0 (x k : Nat) : x &&& M 1 4 (k + 1) = x % 2 + 4 * ((x / 4) &&& M 1 4 k) := by
  have h := and_split x 1 (M 1 4 k) 2 (by decide)
  have e : x % 2 ^ 2 &&& 1 = x % 2 := by rw [Nat.and_one_is_mod]; omega
  rw [e] at h
  exact h
theorem and1 (x k : Nat) : x &&& M 3 16 (k + 1) = x % 4 + 16 * ((x / 16) &&& M 3 16 k) := by
  have h := and_split x 3 (M 3 16 k) 4 (by decide)
  have e : x % 2 ^ 4 &&& 3 = x % 4 := by
    have := Nat.and_two_pow_sub_one_eq_mod (x % 2 ^ 4) 2
    rw [show (3 : Nat) = 2 ^ 2 - 1 by decide, this]; omega
  rw [e] at h
  exact h
theorem and2 (x k : Nat) : x &&& M 15 256 (k + 1) = x % 16 + 256 * ((x / 256) &&& M 15 256 k) := by
  have h := and_split x 15 (M 15 256 k) 8 (by decide)
  have e : x % 2 ^ 8 &&& 15 = x % 16 := by
    have := Nat.and_two_pow_sub_one_eq_mod (x % 2 ^ 8) 4
    rw [show (15 : Nat) = 2 ^ 4 - 1 by decide, this]; omega
  rw [e] at h
  exact h
def E (k x : Nat) : Nat := (x / 2 &&& M 1 4 k) + (x &&& M 1 4 k)
def F (k y : Nat) : Nat := (y / 4 &&& M 3 16 k) + (y &&& M 3 16 k)
theorem e_next (k x : Nat) : E (k + 1) x = (x / 2) % 2 + x % 2 + 4 * E k (x / 4) := by
  unfold E
  rw [and0, and0, show x / 2 / 4 = x / 4 / 2 by omega]
  omega
theorem f_next (k y : Nat) : F (k + 1) y = (y / 4) % 4 + y % 4 + 16 * F k (y / 16) := by
  unfold F
  rw [and1, and1, show y / 4 / 16 = y / 16 / 4 by omega]
  omega
def P4 : Nat → Nat → Nat
  | 0, _ => 0
  | k + 1, x => pn 4 x + 16 * P4 k (x / 16)
theorem pn4 (x : Nat) : pn 4 x = x % 2 + (x / 2) % 2 + (x / 4) % 2 + (x / 8) % 2 := by
  simp only [pn]
  omega
theorem fe (x : Nat) : ∀ k x, F k (E (2 * k) x) = P4 k x
  | 0, x => by simp [F, M, P4]
  | k + 1, x => by
    have ih := fe x k (x / 16)
    have e1 := e_next (2 * k + 1) x
    have e2 := e_next (2 * k) (x / 4)
    rw [show x / 4 / 4 = x / 16 by omega, show x / 4 / 2 = x / 8 by omega] at e2
    rw [show 2 * (k + 1) = 2 * k + 1 + 1 by omega, f_next]
    show _ = pn 4 x + 16 * P4 k (x / 16)
    rw [← ih, pn4]
    have p0 : x % 2 ≤ 1 := by omega
    have p1 : x / 2 % 2 ≤ 1 := by omega
    have p2 : x / 4 % 2 ≤ 1 := by omega
    have p3 : x / 8 % 2 ≤ 1 := by omega
    generalize x % 2 = u0 at *
    generalize x / 2 % 2 = u1 at *
    generalize x / 4 % 2 = u2 at *
    generalize x / 8 % 2 = u3 at *
    generalize E (2 * k + 1 + 1) x = Y at *
    generalize E (2 * k + 1) (x / 4) = Z at *
    generalize E (2 * k) (x / 16) = X at *
    have hy : Y / 16 = X := by omega
    rw [hy]
    omega
theorem p4_mod (k x : Nat) : P4 k x % 16 ≤ 4 := by
  cases k with
  | zero => simp [P4]
  | succ k =>
    have := pn_le 4 x
    show (pn 4 x + 16 * P4 k (x / 16)) % 16 ≤ 4
    omega
def P8 : Nat → Nat → Nat
  | 0, _ => 0
  | k + 1, x => pn 8 x + 256 * P8 k (x / 256)
theorem pn8 (x : Nat) : pn 8 x = pn 4 x + pn 4 (x / 16) := pn_add 4 4 x
theorem g8 : ∀ k x, (P4 (2 * k) x / 16 + P4 (2 * k) x) &&& M 15 256 k = P8 k x
  | 0, x => by simp [M, P8]
  | k + 1, x => by
    have ih := g8 k (x / 256)
    have hb := p4_mod (2 * k) (x / 256)
    have h0 := pn_le 4 x
    have h1 := pn_le 4 (x / 16)
    have hz : P4 (2 * (k + 1)) x = pn 4 x + 16 * (pn 4 (x / 16) + 16 * P4 (2 * k) (x / 256)) := by
      rw [show 2 * (k + 1) = 2 * k + 1 + 1 by omega]
      show pn 4 x + 16 * (pn 4 (x / 16) + 16 * P4 (2 * k) (x / 16 / 16)) = _
      rw [show x / 16 / 16 = x / 256 by omega]
    rw [and2, hz]
    show _ = pn 8 x + 256 * P8 k (x / 256)
    rw [← ih, pn8]
    generalize P4 (2 * k) (x / 256) = z at hb ⊢
    generalize pn 4 x = d0 at h0 ⊢
    generalize pn 4 (x / 16) = d1 at h1 ⊢
    have e1 : ((d0 + 16 * (d1 + 16 * z)) / 16 + (d0 + 16 * (d1 + 16 * z))) / 256 = z / 16 + z := by omega
    have e2 : ((d0 + 16 * (d1 + 16 * z)) / 16 + (d0 + 16 * (d1 + 16 * z))) % 16 = d0 + d1 := by omega
    rw [e1, e2]
set_option maxHeartbeats 2000000 in
/-- The digits added up. -/
theorem steps (q0 q1 q2 q3 q4 q5 q6 q7 : Nat) (hl : q0 ≤ 8 ∧ q1 ≤ 8 ∧ q2 ≤ 8 ∧ q3 ≤ 8) (hh : q4 ≤ 8 ∧ q5 ≤ 8 ∧ q6 ≤ 8 ∧ q7 ≤ 8) :
    let v := q0 + 256 * (q1 + 256 * (q2 + 256 * (q3 + 256 * (q4 + 256 * (q5 + 256 * (q6 + 256 * (q7 + 256 * 0)))))))
    let v1 := v + v / 256
    let v2 := v1 + v1 / 65536
    let v3 := v2 + v2 / 4294967296
    True ∧ v3 < 2 ^ 63 ∧ v3 % 128 = q0 + (q1 + (q2 + (q3 + (q4 + (q5 + (q6 + q7)))))) ∧ True := by
  intro v v1 v2 v3
  obtain ⟨W6, h6⟩ : ∃ W, W = q6 + 256 * q7 := ⟨_, rfl⟩
  obtain ⟨W5, h5⟩ : ∃ W, W = q5 + 256 * W6 := ⟨_, rfl⟩
  obtain ⟨W4, h4⟩ : ∃ W, W = q4 + 256 * W5 := ⟨_, rfl⟩
  obtain ⟨W3, h3⟩ : ∃ W, W = q3 + 256 * W4 := ⟨_, rfl⟩
  obtain ⟨W2, h2⟩ : ∃ W, W = q2 + 256 * W3 := ⟨_, rfl⟩
  obtain ⟨W1, h1⟩ : ∃ W, W = q1 + 256 * W2 := ⟨_, rfl⟩
  have hv : v = q0 + 256 * W1 := by
    show q0 + 256 * (q1 + 256 * (q2 + 256 * (q3 + 256 * (q4 + 256 * (q5 + 256 * (q6 + 256 * (q7 + 256 * 0))))))) = _
    rw [h1, h2, h3, h4, h5, h6]
    omega
  have e1 : v / 256 = W1 := by rw [hv]; omega
  have hv1 : v1 = v + v / 256 := rfl
  have hv2 : v2 = v1 + v1 / 65536 := rfl
  have hv3 : v3 = v2 + v2 / 4294967296 := rfl
  rw [e1, hv] at hv1
  clear_value v v1 v2 v3
  have f1 : v1 = (q0 + q1) + 256 * (q1 + q2) + 65536 * (W2 + W3) := by
    rw [hv1]
    clear hl hh hv1 e1 hv hv2 hv3 h3 h4 h5 h6
    subst h1 h2
    omega
  have e2 : v1 / 65536 = W2 + W3 := by
    rw [f1]
    clear hv1 e1 hv hv2 hv3 h1 h2 h3 h4 h5 h6 f1
    omega
  rw [e2] at hv2
  have f2 : v2 = (q0 + q1 + q2 + q3) + 256 * (q1 + q2 + q3 + q4) + 65536 * (q2 + q3 + q4 + q5) + 16777216 * (q3 + q4 + q5 + q6) + 4294967296 * (W4 + W5 + W6 + q7) := by
    rw [hv2, f1]
    clear hl hh hv1 hv2 f1 e1 e2 hv h1
    subst h2 h3 h4 h5 h6
    omega
  clear hv1 hv2 f1 e1 e2 hv
  have e3 : v2 / 4294967296 = W4 + W5 + W6 + q7 := by
    rw [f2]
    clear hv3 h1 h2 h3 h4 h5 h6 f2
    omega
  rw [e3] at hv3
  refine ⟨trivial, ?_, ?_, trivial⟩
  · have k6 : W6 ≤ 8 + 256 * 8 := by clear h1 h2 h3 h4 h5 e3 f2 hv3; omega
    have k5 : W5 ≤ 8 + 256 * (8 + 256 * 8) := by clear h1 h2 h3 h4 h6 e3 f2 hv3; omega
    have k4 : W4 ≤ 8 + 256 * (8 + 256 * (8 + 256 * 8)) := by clear h1 h2 h3 h5 h6 e3 f2 hv3 k6; omega
    rw [hv3, f2]
    clear h1 h2 h3 h4 h5 h6 e3 f2 hv3
    omega
  have hT : v3 = (q0 + q1 + q2 + q3 + q4 + q5 + q6 + q7) + 256 * ((q1 + q2 + q3 + q4) + 256 * (q2 + q3 + q4 + q5) + 65536 * (q3 + q4 + q5 + q6) + 16777216 * (W4 + W5 + W6 + q7) + W5 + W6 + q7) := by
    rw [hv3, f2]
    clear hl hh h1 h2 h3 e3 f2 hv3
    subst h4 h5 h6
    omega
  rw [hT]
  clear hT hv3 e3 f2 h1 h2 h3 h4 h5 h6
  omega
set_option maxHeartbeats 2000000 in
/-- All steps together. -/
theorem all (x : Nat) (hx : x < 2 ^ 64) : ∃ a1 a2 y b1 b2 z s v v1 v2 v3 : Nat,
    (x / 2 &&& 6148914691236517205 = a1 ∧ x &&& 6148914691236517205 = a2 ∧ a1 + a2 = y) ∧ (y / 4 &&& 3689348814741910323 = b1 ∧ y &&& 3689348814741910323 = b2 ∧ b1 + b2 = z) ∧ (z / 16 + z = s ∧ s &&& 1085102592571150095 = v) ∧
    (v + v / 256 = v1 ∧ v1 + v1 / 65536 = v2 ∧ v2 + v2 / 4294967296 = v3) ∧ (a1 < 2 ^ 63 ∧ a2 < 2 ^ 63 ∧ b1 < 2 ^ 63 ∧ b2 < 2 ^ 63 ∧ s < 2 ^ 64 ∧ v3 < 2 ^ 63) ∧ v3 % 128 = pn 64 x := by
  have m0 : M 1 4 32 = 6148914691236517205 := by decide
  have m1 : M 3 16 16 = 3689348814741910323 := by decide
  have m2 : M 15 256 8 = 1085102592571150095 := by decide
  have hE : E 32 x = (x / 2 &&& 6148914691236517205) + (x &&& 6148914691236517205) := by unfold E; rw [m0]
  have hF : ∀ y, F 16 y = (y / 4 &&& 3689348814741910323) + (y &&& 3689348814741910323) := fun y => by unfold F; rw [m1]
  have h1 := fe x 16 x
  have h2 := g8 8 x
  rw [m2] at h2
  have c1 : x / 2 &&& 6148914691236517205 ≤ 6148914691236517205 := Nat.and_le_right
  have c2 : x &&& 6148914691236517205 ≤ 6148914691236517205 := Nat.and_le_right
  have c3 : E 32 x / 4 &&& 3689348814741910323 ≤ 3689348814741910323 := Nat.and_le_right
  have c4 : E 32 x &&& 3689348814741910323 ≤ 3689348814741910323 := Nat.and_le_right
  have hz : (E 32 x / 4 &&& 3689348814741910323) + (E 32 x &&& 3689348814741910323) = P4 16 x := by rw [← hF, ← h1]
  have hs : (P4 16 x / 16 + P4 16 x) &&& 1085102592571150095 = P8 8 x := h2
  have d0 := pn_le 8 x
  have d1 := pn_le 8 (x / 256)
  have d2 := pn_le 8 (x / 256 / 256)
  have d3 := pn_le 8 (x / 256 / 256 / 256)
  have d4 := pn_le 8 (x / 256 / 256 / 256 / 256)
  have d5 := pn_le 8 (x / 256 / 256 / 256 / 256 / 256)
  have d6 := pn_le 8 (x / 256 / 256 / 256 / 256 / 256 / 256)
  have d7 := pn_le 8 (x / 256 / 256 / 256 / 256 / 256 / 256 / 256)
  have hv : P8 8 x = pn 8 x + 256 * (pn 8 (x / 256) + 256 * (pn 8 (x / 256 / 256) + 256 * (pn 8 (x / 256 / 256 / 256) + 256 * (pn 8 (x / 256 / 256 / 256 / 256) + 256 * (pn 8 (x / 256 / 256 / 256 / 256 / 256) + 256 * (pn 8 (x / 256 / 256 / 256 / 256 / 256 / 256) + 256 * (pn 8 (x / 256 / 256 / 256 / 256 / 256 / 256 / 256) + 256 * 0))))))) := rfl
  have ht : pn 64 x = pn 8 x + (pn 8 (x / 256) + (pn 8 (x / 256 / 256) + (pn 8 (x / 256 / 256 / 256) + (pn 8 (x / 256 / 256 / 256 / 256) + (pn 8 (x / 256 / 256 / 256 / 256 / 256) + (pn 8 (x / 256 / 256 / 256 / 256 / 256 / 256) + (pn 8 (x / 256 / 256 / 256 / 256 / 256 / 256 / 256)))))))) := by
    rw [show (64 : Nat) = 8 + 56 by decide, pn_add, show (56 : Nat) = 8 + 48 by decide, pn_add, show (48 : Nat) = 8 + 40 by decide, pn_add, show (40 : Nat) = 8 + 32 by decide, pn_add, show (32 : Nat) = 8 + 24 by decide, pn_add, show (24 : Nat) = 8 + 16 by decide, pn_add, show (16 : Nat) = 8 + 8 by decide, pn_add]
  rw [ht]
  refine ⟨_, _, E 32 x, _, _, P4 16 x, _, P8 8 x, _, _, _, ⟨rfl, rfl, hE.symm⟩, ⟨rfl, rfl, hz⟩, ⟨rfl, hs⟩, ⟨rfl, rfl, rfl⟩, ?_, ?_⟩
  · rw [hv]
    generalize pn 8 x = q0 at *
    generalize pn 8 (x / 256) = q1 at *
    generalize pn 8 (x / 256 / 256) = q2 at *
    generalize pn 8 (x / 256 / 256 / 256) = q3 at *
    generalize pn 8 (x / 256 / 256 / 256 / 256) = q4 at *
    generalize pn 8 (x / 256 / 256 / 256 / 256 / 256) = q5 at *
    generalize pn 8 (x / 256 / 256 / 256 / 256 / 256 / 256) = q6 at *
    generalize pn 8 (x / 256 / 256 / 256 / 256 / 256 / 256 / 256) = q7 at *
    obtain ⟨u1, u2, u3, -⟩ := steps q0 q1 q2 q3 q4 q5 q6 q7 ⟨d0, d1, d2, d3⟩ ⟨d4, d5, d6, d7⟩
    refine ⟨by omega, by omega, by omega, by omega, by omega, u2⟩
  · rw [hv]
    generalize pn 8 x = q0 at *
    generalize pn 8 (x / 256) = q1 at *
    generalize pn 8 (x / 256 / 256) = q2 at *
    generalize pn 8 (x / 256 / 256 / 256) = q3 at *
    generalize pn 8 (x / 256 / 256 / 256 / 256) = q4 at *
    generalize pn 8 (x / 256 / 256 / 256 / 256 / 256) = q5 at *
    generalize pn 8 (x / 256 / 256 / 256 / 256 / 256 / 256) = q6 at *
    generalize pn 8 (x / 256 / 256 / 256 / 256 / 256 / 256 / 256) = q7 at *
    exact (steps q0 q1 q2 q3 q4 q5 q6 q7 ⟨d0, d1, d2, d3⟩ ⟨d4, d5, d6, d7⟩).2.2.1
end Go.Proofs.Ytongfgikkcieaaa.Te
