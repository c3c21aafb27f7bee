/- Plain numbers: the place from which a rising condition holds, the nearest half sizes, fractions in lowest terms. -/
import Derived.Test.YtgclhkiiaclkgabRows
namespace Go.Proofs.Ytgclhkiiaclkgab.Nh
/-- How many of the first n places are false. -/
def cut (n : Nat) (p : Nat → Bool) : Nat := (List.range n).countP fun t => !p t
theorem cut_succ (n : Nat) (p : Nat → Bool) : cut (n + 1) p = cut n p + if p n = true then 0 else 1 := by
  unfold cut
  rw [List.range_succ, List.countP_append]
  cases h : p n <;> simp [h]
theorem cut_le (n : Nat) (p : Nat → Bool) : cut n p ≤ n := by
  have := List.countP_le_length (p := fun t => !p t) (l := List.range n)
  simpa [cut] using this
theorem cut_iff (n : Nat) (p : Nat → Bool) (hm : ∀ a b, a ≤ b → b < n → p a = true → p b = true) : ∀ t, t < n → p t = decide (cut n p ≤ t) := by
  induction n with
  | zero => intro t ht; omega
  | succ n ih =>
    have ih' := ih fun a b h1 h2 h3 => hm a b h1 (by omega) h3
    have hle := cut_le n p
    rw [cut_succ]
    cases hp : p n with
    | true =>
      intro t ht
      by_cases e : t = n
      · subst e; rw [hp]; simp; omega
      · rw [ih' t (by omega)]; simp
    | false =>
      have hall : ∀ t, t < n → p t = false := fun t ht => by
        cases h : p t with
        | false => rfl
        | true => rw [hm t n (by omega) (by omega) h] at hp; cases hp
      have hc : cut n p = n := by
        by_cases h : cut n p = n
        · exact h
        · have h1 := ih' (cut n p) (by omega)
          rw [hall _ (by omega)] at h1
          simp at h1
      intro t ht
      rw [hc]
      by_cases e : t = n
      · subst e; rw [hp]; simp
      · rw [hall t (by omega)]; simp; omega
/-- The place is the only one. -/
theorem cut_eq (n : Nat) (p : Nat → Bool) (r : Nat) (hr : r ≤ n) (h : ∀ t, t < n → p t = decide (r ≤ t)) : cut n p = r := by
  have hm : ∀ a b, a ≤ b → b < n → p a = true → p b = true := fun a b h1 h2 h3 => by
    rw [h a (by omega)] at h3; rw [h b h2]; simp at h3 ⊢; omega
  have hc := cut_iff n p hm
  have hle := cut_le n p
  by_cases e1 : cut n p < r
  · have := hc (cut n p) (by omega); rw [h _ (by omega)] at this; simp at this; omega
  · by_cases e2 : r < cut n p
    · have := hc r (by omega); rw [h _ (by omega)] at this; simp at this; omega
    · omega

/-- The absolute value. -/
def ab (x : Int) : Int := if x < 0 then -x else x
theorem ab_le {x : Int} (h : 0 ≤ x) : ab x = x := by unfold ab; rw [if_neg (by omega)]
/-- The least length: whether t half sizes have at least the length. -/
def reach (b n l d : Int) (t : Nat) : Bool := decide (l * d ≤ ((t : Int) + b) * n)
theorem reach_mono (b n l d : Int) (hn : 0 ≤ n) (N : Nat) : ∀ u v, u ≤ v → v < N → reach b n l d u = true → reach b n l d v = true := fun u v h1 _ h3 => by
  unfold reach at *
  simp at h3 ⊢
  have := Int.mul_le_mul_of_nonneg_right (show (u : Int) + b ≤ (v : Int) + b by omega) hn
  omega
def least (b n l d : Int) : Nat := cut 121 (reach b n l d)
/-- Whether the length num / den is as near to t half sizes as to the next number of them, or nearer. -/
def near (b n d num den : Int) (t : Nat) : Bool := decide (2 * (num * d) ≤ (2 * ((t : Int) + b) + 1) * n * den)
theorem near_mono (b n d num den : Int) (hn : 0 ≤ n) (hd : 0 ≤ den) (N : Nat) : ∀ u v, u ≤ v → v < N → near b n d num den u = true → near b n d num den v = true := fun u v h1 _ h3 => by
  unfold near at *
  simp at h3 ⊢
  have h4 := Int.mul_le_mul_of_nonneg_right (show 2 * ((u : Int) + b) + 1 ≤ 2 * ((v : Int) + b) + 1 by omega) hn
  have := Int.mul_le_mul_of_nonneg_right h4 hd
  omega
def nearest (b n d num den : Int) : Nat := cut 120 (near b n d num den)
/-- How far t half sizes are from the length, in parts. -/
def gap (b n d num den : Int) (t : Int) : Int := ab ((t + b) * n * den - num * d)
theorem step_eq (b n den t : Int) : (2 * (t + b) + 1) * n * den = (t + b) * n * den + (t + 1 + b) * n * den := by grind
theorem mono_pos (b n den s t : Int) (hn : 0 ≤ n) (hd : 0 ≤ den) (h : s ≤ t) : (s + b) * n * den ≤ (t + b) * n * den :=
  Int.mul_le_mul_of_nonneg_right (Int.mul_le_mul_of_nonneg_right (by omega) hn) hd
theorem mono_lt (b n den t : Int) (hn : 0 < n) (hd : 0 < den) : (t + b) * n * den < (t + 1 + b) * n * den :=
  Int.mul_lt_mul_of_pos_right (Int.mul_lt_mul_of_pos_right (by omega) hn) hd
theorem gap_down {b n d num den : Int} (hn : 0 < n) (hd : 0 < den) (t : Nat) (h : near b n d num den t = false) : gap b n d num den ((t : Int) + 1) < gap b n d num den (t : Int) := by
  unfold near at h
  simp at h
  rw [step_eq b n den] at h
  have h1 := mono_lt b n den t hn hd
  unfold gap ab
  generalize ((t : Int) + b) * n * den = x at *
  generalize ((t : Int) + 1 + b) * n * den = y at *
  generalize num * d = z at *
  split <;> split <;> omega
theorem gap_up {b n d num den : Int} (hn : 0 < n) (hd : 0 < den) (r k : Nat) (hrk : r < k) (h : near b n d num den r = true) : gap b n d num den (r : Int) ≤ gap b n d num den (k : Int) := by
  unfold near at h
  simp at h
  rw [step_eq b n den] at h
  have h1 := mono_lt b n den r hn hd
  have h2 := mono_pos b n den ((r : Int) + 1) k (by omega) (by omega) (by omega)
  unfold gap ab
  generalize ((r : Int) + b) * n * den = x at *
  generalize ((r : Int) + 1 + b) * n * den = y at *
  generalize ((k : Int) + b) * n * den = v at *
  generalize num * d = z at *
  split <;> split <;> omega
/-- The spec's loop: what is best among the first k half sizes, and the next one. -/
theorem best_step {b n d num den : Int} (hn : 0 < n) (hd : 0 < den) (k : Nat) (hk0 : 0 < k) (hk : k ≤ 120) :
    (gap b n d num den (k : Int) < gap b n d num den ((min (nearest b n d num den) (k - 1) : Nat) : Int) ↔ k ≤ nearest b n d num den) ∧
    min (nearest b n d num den) k = if k ≤ nearest b n d num den then k else min (nearest b n d num den) (k - 1) := by
  have hi := cut_iff 120 (near b n d num den) (near_mono b n d num den (by omega) (by omega) 120)
  have hle : nearest b n d num den ≤ 120 := cut_le _ _
  change ∀ t, t < 120 → near b n d num den t = decide (nearest b n d num den ≤ t) at hi
  generalize nearest b n d num den = r at *
  constructor
  · constructor
    · intro h
      by_cases hr : k ≤ r
      · exact hr
      · rw [Nat.min_eq_left (by omega)] at h
        have h1 := hi r (by omega)
        simp at h1
        have := gap_up hn hd r k (by omega) h1
        omega
    · intro h
      rw [Nat.min_eq_right (by omega)]
      have h1 := hi (k - 1) (by omega)
      rw [show decide (r ≤ k - 1) = false by simp; omega] at h1
      have := gap_down hn hd (k - 1) h1
      rw [show (((k - 1 : Nat) : Int) + 1) = (k : Int) by omega] at this
      exact this
  · split <;> omega
theorem best_end (b n d num den : Int) : min (nearest b n d num den) 120 = nearest b n d num den := Nat.min_eq_left (cut_le _ _)
/-- Lowest terms. -/
def gc (num den : Int) : Int := (Nat.gcd num.toNat den.toNat : Int)
theorem gc_pos {num den : Int} (h : 0 < den) : 0 < gc num den := by
  unfold gc
  have : 0 < Nat.gcd num.toNat den.toNat := Nat.gcd_pos_of_pos_right _ (by omega)
  omega
theorem gc_dvd {num den : Int} (h : 0 ≤ num) (h' : 0 ≤ den) : gc num den ∣ num ∧ gc num den ∣ den := by
  unfold gc
  have a := Nat.gcd_dvd_left num.toNat den.toNat
  have b := Nat.gcd_dvd_right num.toNat den.toNat
  constructor
  · have := Int.natCast_dvd_natCast.2 a; rwa [Int.toNat_of_nonneg h] at this
  · have := Int.natCast_dvd_natCast.2 b; rwa [Int.toNat_of_nonneg h'] at this
theorem gc_le {num den : Int} (h' : 0 < den) : gc num den ≤ den := by
  unfold gc
  have b := Nat.gcd_dvd_right num.toNat den.toNat
  have := Nat.le_of_dvd (by omega) b
  omega
theorem gc_zero (a : Int) (h : 0 ≤ a) : gc a 0 = a := by unfold gc; simp; omega
theorem gc_step {a b : Int} (ha : 0 ≤ a) (hb : 0 < b) : gc b (a % b) = gc a b := by
  unfold gc
  rw [Nat.gcd_comm a.toNat, Nat.gcd_rec b.toNat a.toNat, Nat.gcd_comm]
  congr 2
  have := Int.toNat_emod ha (by omega : 0 ≤ b)
  exact this
/-- Cross products of a fraction in lowest terms. -/
theorem low_cross {num den : Int} (hn : 0 ≤ num) (hd : 0 < den) (x y : Int) : (num / gc num den * x < y * (den / gc num den)) ↔ num * x < y * den := by
  obtain ⟨⟨u, hu⟩, ⟨v, hv⟩⟩ := gc_dvd hn (Int.le_of_lt hd)
  have hg := gc_pos (num := num) hd
  generalize gc num den = g at *
  subst hu hv
  rw [Int.mul_ediv_cancel_left _ (by omega), Int.mul_ediv_cancel_left _ (by omega)]
  rw [show g * u * x = g * (u * x) by grind, show y * (g * v) = g * (y * v) by grind]
  constructor
  · intro h; exact Int.mul_lt_mul_of_pos_left h hg
  · intro h; exact Int.lt_of_mul_lt_mul_left h (Int.le_of_lt hg)
theorem low_pos {num den : Int} (hn : 0 ≤ num) (hd : 0 < den) : 0 < den / gc num den ∧ den / gc num den ≤ den ∧ 0 ≤ num / gc num den ∧ num / gc num den ≤ num := by
  obtain ⟨⟨u, hu⟩, ⟨v, hv⟩⟩ := gc_dvd hn (Int.le_of_lt hd)
  have hg := gc_pos (num := num) hd
  refine ⟨?_, Int.ediv_le_self _ (by omega), Int.ediv_nonneg hn (by omega), Int.ediv_le_self _ hn⟩
  generalize gc num den = g at *
  rw [hv, Int.mul_ediv_cancel_left _ (by omega)]
  rw [hv] at hd
  by_cases hv0 : 0 < v
  · exact hv0
  · have := Int.mul_le_mul_of_nonneg_left (show v ≤ 0 by omega) (show 0 ≤ g by omega)
    omega
theorem low_cross' {num den : Int} (hn : 0 ≤ num) (hd : 0 < den) (x y : Int) : (y * (den / gc num den) < num / gc num den * x) ↔ y * den < num * x := by
  obtain ⟨⟨u, hu⟩, ⟨v, hv⟩⟩ := gc_dvd hn (Int.le_of_lt hd)
  have hg := gc_pos (num := num) hd
  generalize gc num den = g at *
  subst hu hv
  rw [Int.mul_ediv_cancel_left _ (by omega), Int.mul_ediv_cancel_left _ (by omega)]
  rw [show g * u * x = g * (u * x) by grind, show y * (g * v) = g * (y * v) by grind]
  constructor
  · intro h; exact Int.mul_lt_mul_of_pos_left h hg
  · intro h; exact Int.lt_of_mul_lt_mul_left h (Int.le_of_lt hg)
theorem near_low {num den : Int} (hn : 0 ≤ num) (hd : 0 < den) (b n d : Int) : near b n d (num / gc num den) (den / gc num den) = near b n d num den := by
  funext t
  unfold near
  have h := low_cross' hn hd (2 * d) ((2 * ((t : Int) + b) + 1) * n)
  rw [show 2 * (num / gc num den * d) = num / gc num den * (2 * d) by grind, show 2 * (num * d) = num * (2 * d) by grind]
  simp only [← Int.not_lt, h]
theorem nearest_low {num den : Int} (hn : 0 ≤ num) (hd : 0 < den) (b n d : Int) : nearest b n d (num / gc num den) (den / gc num den) = nearest b n d num den := by
  unfold nearest; rw [near_low hn hd]
theorem reach_low {num den : Int} (hn : 0 ≤ num) (hd : 0 < den) (l : Int) : decide (num / gc num den * 1 < l * (den / gc num den)) = decide (num < l * den) := by
  have h := low_cross hn hd 1 l
  rw [Int.mul_one, Int.mul_one] at h
  simp only [Int.mul_one, h]
/-- The girth of a width, and the first one that is wide enough. -/
def wide (f h s half g : Int) (k : Nat) : Bool := decide (g ≤ f + half * h + (k : Int) * s)
theorem wide_mono (f h s half g : Int) (hs : 0 ≤ s) (N : Nat) : ∀ u v, u ≤ v → v < N → wide f h s half g u = true → wide f h s half g v = true := fun u v h1 _ h3 => by
  unfold wide at *
  simp at h3 ⊢
  have := Int.mul_le_mul_of_nonneg_right (show (u : Int) ≤ (v : Int) by omega) hs
  omega
end Go.Proofs.Ytgclhkiiaclkgab.Nh
