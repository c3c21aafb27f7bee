/- Outlines by their numbers: crosses, sides that meet, and which lists are outlines, in the spec's words and in the program's; nothing of any function. -/
import Derived.Test.YtggbdpamjjgakaaDoorGeLib
namespace Go.Proofs.YtggbdpamjjgakaaDoor.Ol
open Go.RowKit Ft Ge

abbrev Pt := Int × Int
/-- The spot at a place of a list of numbers. -/
def pt (f : Nat → Int) (i : Nat) : Pt := (f (i * 2), f (i * 2 + 1))
/-- Twice the area of a triangle. -/
def cr (a b c : Pt) : Int := (b.1 - a.1) * (c.2 - a.2) - (b.2 - a.2) * (c.1 - a.1)
def btw (a b p : Pt) : Bool := inB p.1 (min a.1 b.1) (max a.1 b.1) && inB p.2 (min a.2 b.2) (max a.2 b.2)
def onS (a b p : Pt) : Bool := decide (cr a b p = 0) && btw a b p
def sgn (n : Int) : Int := if n < 0 then -1 else if 0 < n then 1 else 0
def opp (a b c d : Pt) : Bool := decide (sgn (cr a b c) * sgn (cr a b d) < 0)
def mtS (a b c d : Pt) : Bool := (onS a b c || onS a b d || onS c d a || onS c d b) || (opp a b c d && opp c d a b)
/-- A spot on leather. -/
def rgB (p : Pt) : Bool := inB p.1 0 10000 && inB p.2 0 10000
/- The program's words. -/
def dotI (a b p : Pt) : Int := (a.1 - p.1) * (b.1 - p.1) + (a.2 - p.2) * (b.2 - p.2)
def hasI (a b p : Pt) : Bool := decide (cr a b p = 0) && decide (dotI a b p ≤ 0)
def sepI (a b c d : Pt) : Bool := decide (cr a b c * cr a b d < 0)
def mtI (a b c d : Pt) : Bool := (sepI a b c d && sepI c d a b) || (hasI a b c || hasI a b d || hasI c d a || hasI c d b)

theorem mul_sgn (x y : Int) : (x * y < 0) ↔ (sgn x * sgn y < 0) := by
  unfold sgn
  rcases Int.lt_trichotomy x 0 with hx | hx | hx <;> rcases Int.lt_trichotomy y 0 with hy | hy | hy
  · have := Int.mul_pos_of_neg_of_neg hx hy
    simp [hx, hy]; omega
  · subst hy; simp
  · have := Int.mul_neg_of_neg_of_pos hx hy
    simp [hx, hy, show ¬ y < 0 by omega]; omega
  · subst hx; simp
  · subst hx; simp
  · subst hx; simp
  · have := Int.mul_neg_of_pos_of_neg hx hy
    simp [hx, hy, show ¬ x < 0 by omega]; omega
  · subst hy; simp
  · have := Int.mul_pos hx hy
    simp [hx, hy, show ¬ x < 0 by omega, show ¬ y < 0 by omega]; omega
theorem sep_eq (a b c d : Pt) : sepI a b c d = opp a b c d := by
  unfold sepI opp
  exact decide_eq_decide.2 (mul_sgn _ _)
theorem mid_iff (a b p : Int) : (min a b ≤ p ∧ p ≤ max a b) ↔ (a - p) * (b - p) ≤ 0 := by
  constructor
  · intro ⟨h1, h2⟩
    by_cases h : a ≤ b
    · exact Int.mul_nonpos_of_nonpos_of_nonneg (by omega) (by omega)
    · exact Int.mul_nonpos_of_nonneg_of_nonpos (by omega) (by omega)
  · intro h
    refine Classical.byContradiction fun hn => ?_
    by_cases h1 : a < p ∧ b < p
    · have := Int.mul_pos_of_neg_of_neg (show a - p < 0 by omega) (show b - p < 0 by omega)
      omega
    · have h2 : p < a ∧ p < b := by omega
      have := Int.mul_pos (show 0 < a - p by omega) (show 0 < b - p by omega)
      omega
theorem sq_nonneg' (x : Int) : 0 ≤ x * x := by
  rcases Int.le_total 0 x with h | h
  · exact Int.mul_nonneg h h
  · exact Int.mul_nonneg_of_nonpos_of_nonpos h h
theorem both_nonpos {x y : Int} (hs : x + y ≤ 0) (hp : 0 ≤ x * y) : x ≤ 0 ∧ y ≤ 0 := by
  constructor
  · refine Classical.byContradiction fun h => ?_
    have := Int.mul_neg_of_pos_of_neg (show 0 < x by omega) (show y < 0 by omega)
    omega
  · refine Classical.byContradiction fun h => ?_
    have := Int.mul_neg_of_neg_of_pos (show x < 0 by omega) (show 0 < y by omega)
    omega
theorem has_eq (a b p : Pt) : hasI a b p = onS a b p := by
  unfold hasI onS
  by_cases hc : cr a b p = 0
  · have key : dotI a b p ≤ 0 ↔ btw a b p = true := by
      unfold btw inB
      rw [Bool.and_eq_true, decide_eq_true_iff, decide_eq_true_iff, mid_iff, mid_iff]
      unfold dotI
      constructor
      · intro h
        refine both_nonpos h ?_
        have e : (a.1 - p.1) * (b.1 - p.1) * ((a.2 - p.2) * (b.2 - p.2)) = ((a.1 - p.1) * (b.2 - p.2)) * ((a.1 - p.1) * (b.2 - p.2)) := by
          have h2 : (a.1 - p.1) * (b.2 - p.2) = (a.2 - p.2) * (b.1 - p.1) := by unfold cr at hc; grind
          grind
        rw [e]
        exact sq_nonneg' _
      · intro ⟨h1, h2⟩
        omega
    by_cases hb : btw a b p = true
    · simp [hc, key.2 hb, hb]
    · have : ¬ dotI a b p ≤ 0 := fun h => hb (key.1 h)
      simp [hc, this, hb]
  · simp [hc]
theorem mt_eq (a b c d : Pt) : mtI a b c d = mtS a b c d := by
  unfold mtI mtS
  rw [sep_eq, sep_eq, has_eq, has_eq, has_eq, has_eq, Bool.or_comm]

/-- The corner behind a place. -/
def nx (n i : Nat) : Nat := (i + 1) % n
def bendB (n : Nat) (f : Nat → Int) (i : Nat) : Bool := decide (cr (pt f i) (pt f (nx n i)) (pt f ((i + 2) % n)) ≠ 0)
def pairB (n : Nat) (f : Nat → Int) (i k : Nat) : Bool := mtS (pt f i) (pt f (nx n i)) (pt f k) (pt f (nx n k))
/-- No two sides but neighbours meet, and the direction changes at each corner. -/
def Simp (n : Nat) (f : Nat → Int) : Prop := ∀ i, i < n → bendB n f i = true ∧ ∀ k, i + 2 ≤ k → k < n → ¬ (i = 0 ∧ k + 1 = n) → pairB n f i k = false
def Rng (n : Nat) (f : Nat → Int) : Prop := ∀ i, i < n → rgB (pt f i) = true
def OutP (n : Nat) (f : Nat → Int) : Prop := Rng n f ∧ (3 ≤ n ∧ n ≤ 24) ∧ Simp n f
noncomputable def outB (n : Nat) (f : Nat → Int) : Bool := tv (OutP n f)
theorem rg_spec {p : Pt} (h : rgB p = true) : (0 ≤ p.1 ∧ p.1 ≤ 10000) ∧ (0 ≤ p.2 ∧ p.2 ≤ 10000) := by
  simpa [rgB, inB] using h
theorem mul_bd {x y : Int} {B : Int} (hx : -B ≤ x ∧ x ≤ B) (hy : -B ≤ y ∧ y ≤ B) : -(B * B) ≤ x * y ∧ x * y ≤ B * B := by
  have h1 : 0 ≤ (B - x) * (B + y) := Int.mul_nonneg (by omega) (by omega)
  have h2 : 0 ≤ (B + x) * (B - y) := Int.mul_nonneg (by omega) (by omega)
  have h3 : 0 ≤ (B - x) * (B - y) := Int.mul_nonneg (by omega) (by omega)
  have h4 : 0 ≤ (B + x) * (B + y) := Int.mul_nonneg (by omega) (by omega)
  have e1 : (B - x) * (B + y) = B * B + B * y - x * B - x * y := by grind
  have e2 : (B + x) * (B - y) = B * B - B * y + x * B - x * y := by grind
  have e3 : (B - x) * (B - y) = B * B - B * y - x * B + x * y := by grind
  have e4 : (B + x) * (B + y) = B * B + B * y + x * B + x * y := by grind
  omega
theorem mul_bd4 {x y : Int} (hx : -10000 ≤ x ∧ x ≤ 10000) (hy : -10000 ≤ y ∧ y ≤ 10000) : -100000000 ≤ x * y ∧ x * y ≤ 100000000 := by
  have := mul_bd (B := 10000) hx hy
  omega
theorem cr_bd {a b c : Pt} (ha : rgB a = true) (hb : rgB b = true) (hc : rgB c = true) : -200000000 ≤ cr a b c ∧ cr a b c ≤ 200000000 := by
  obtain ⟨⟨_, _⟩, _, _⟩ := rg_spec ha
  obtain ⟨⟨_, _⟩, _, _⟩ := rg_spec hb
  obtain ⟨⟨_, _⟩, _, _⟩ := rg_spec hc
  unfold cr
  have h1 := mul_bd4 (x := b.1 - a.1) (y := c.2 - a.2) (by omega) (by omega)
  have h2 := mul_bd4 (x := b.2 - a.2) (y := c.1 - a.1) (by omega) (by omega)
  omega
end Go.Proofs.YtggbdpamjjgakaaDoor.Ol
