/- Sets of fields as numbers: which fields a piece has, when it fits, when two pieces meet: nothing of any function. -/
import Derived.Test.YtongfgikkcieaaaH5Lib
import Derived.Laws.Bits64b
import Derived.Laws.BitsAllLaws
namespace Go.Proofs.Ytongfgikkcieaaa.T1
set_option linter.unusedVariables false
open Go.RowKit Ft Is Ge Hd H5

/-- The set of those of the first k numbers that hold. -/
def bs (p : Nat → Bool) : Nat → Nat
  | 0 => 0
  | k + 1 => if p k = true then bs p k ||| 2 ^ k else bs p k
theorem bs_bit (p : Nat → Bool) (t : Nat) : ∀ k, (bs p k).testBit t = (decide (t < k) && p t)
  | 0 => by simp [bs]
  | k + 1 => by
    have ih := bs_bit p t k
    unfold bs
    by_cases h : p k = true
    · rw [if_pos h, Nat.testBit_or, ih, Nat.testBit_two_pow]
      by_cases e : k = t
      · subst e; simp [h]
      · by_cases l : t < k
        · have l2 : t < k + 1 := by omega
          simp [e, l, l2]
        · have l2 : ¬ t < k + 1 := by omega
          simp [e, l, l2]
    · rw [if_neg h, ih]
      by_cases e : k = t
      · subst e; simp [h]
      · by_cases l : t < k
        · have l2 : t < k + 1 := by omega
          simp [l, l2]
        · have l2 : ¬ t < k + 1 := by omega
          simp [l, l2]
theorem bs_lt (p : Nat → Bool) : ∀ k, bs p k < 2 ^ k
  | 0 => by simp [bs]
  | k + 1 => by
    have ih := bs_lt p k
    have h2 : bs p k < 2 ^ (k + 1) := by rw [Nat.pow_succ]; omega
    unfold bs
    split
    · exact Nat.or_lt_two_pow h2 (by rw [Nat.pow_succ]; have := Nat.two_pow_pos k; omega)
    · exact h2
theorem bs_64 (p : Nat → Bool) {k : Nat} (hk : k ≤ 64) : bs p k < 18446744073709551616 :=
  Nat.lt_of_lt_of_le (bs_lt p k) (Nat.pow_le_pow_right (by omega) hk)
/-- The fields of a piece: H rows of W fields, C fields behind one another, from t on. -/
def pcN (C W t : Nat) : Nat → Nat
  | 0 => 0
  | k + 1 => pcN C W t k ||| ((2 ^ W - 1) * 2 ^ (t + k * C)) % 2 ^ 64
theorem pc_bit (C W t b : Nat) : ∀ H, (pcN C W t H).testBit b = true ↔ b < 64 ∧ ∃ k, k < H ∧ t + k * C ≤ b ∧ b < t + k * C + W
  | 0 => by simp [pcN]
  | H + 1 => by
    unfold pcN
    rw [Nat.testBit_or, Bool.or_eq_true, pc_bit C W t b H, Nat.testBit_mod_two_pow, Nat.testBit_mul_two_pow, Nat.testBit_two_pow_sub_one]
    simp only [Bool.and_eq_true, decide_eq_true_eq]
    constructor
    · rintro (⟨h1, k, h2, h3, h4⟩ | ⟨h1, h2, h3⟩)
      · exact ⟨h1, k, by omega, h3, h4⟩
      · exact ⟨h1, H, by omega, by omega, by omega⟩
    · rintro ⟨h1, k, h2, h3, h4⟩
      by_cases e : k = H
      · subst e; exact .inr ⟨h1, by omega, by omega⟩
      · exact .inl ⟨h1, k, by omega, h3, h4⟩
theorem pc_64 (C W t : Nat) : ∀ H, pcN C W t H < 2 ^ 64
  | 0 => by simp [pcN]
  | H + 1 => by
    unfold pcN
    exact Nat.or_lt_two_pow (pc_64 C W t H) (Nat.mod_lt _ (Nat.two_pow_pos _))
theorem zero_iff {x : Nat} : x = 0 ↔ ∀ b, x.testBit b = false := ⟨fun h b => by rw [h]; exact Nat.zero_testBit b, fun h => Nat.eq_of_testBit_eq fun b => by rw [h b, Nat.zero_testBit]⟩
theorem and_zero {x y : Nat} : x &&& y = 0 ↔ ∀ b, x.testBit b = true → y.testBit b = true → False := by
  rw [zero_iff]
  constructor
  · intro h b h1 h2
    have := h b
    rw [Nat.testBit_and, h1, h2] at this
    cases this
  · intro h b
    rw [Nat.testBit_and]
    cases h1 : x.testBit b
    · rfl
    · cases h2 : y.testBit b
      · rfl
      · exact (h b h1 h2).elim
theorem part_zero {x g : Nat} (hx : x < 2 ^ 64) (hg : g < 2 ^ 64) : x &&& (18446744073709551615 - g) = 0 ↔ ∀ b, x.testBit b = true → g.testBit b = true := by
  have e : 18446744073709551615 - g = 2 ^ 64 - (g + 1) := by omega
  rw [and_zero, e]
  constructor
  · intro h b h1
    have hb : b < 64 := by
      apply Classical.byContradiction
      intro hn
      have := Nat.testBit_lt_two_pow (i := b) (Nat.lt_of_lt_of_le hx (Nat.pow_le_pow_right (by omega) (by omega)))
      rw [h1] at this
      cases this
    have := h b h1
    rw [Nat.testBit_two_pow_sub_succ hg] at this
    cases hg2 : g.testBit b
    · exact (this (by simp [hb, hg2])).elim
    · rfl
  · intro h b h1 h2
    rw [Nat.testBit_two_pow_sub_succ hg, h b h1] at h2
    simp at h2
theorem dm {r c C : Nat} (h : c < C) : (r * C + c) / C = r ∧ (r * C + c) % C = c := by
  have h0 : 0 < C := by omega
  constructor
  · rw [Nat.mul_comm, Nat.mul_add_div h0, Nat.div_eq_of_lt h]; rfl
  · rw [Nat.mul_comm, Nat.mul_add_mod, Nat.mod_eq_of_lt h]
theorem at_row (t C k : Nat) : t + k * C = (t / C + k) * C + t % C := by
  have := Nat.div_add_mod t C
  rw [Nat.add_mul, Nat.mul_comm (t / C) C]
  omega
/-- A field of a piece that keeps to its rows. -/
theorem pc_at {C W t H b : Nat} (hC : 1 ≤ C) (hW : t % C + W ≤ C) (h : (pcN C W t H).testBit b = true) : ∃ k x, k < H ∧ x < W ∧ b / C = t / C + k ∧ b % C = t % C + x ∧ b = (t / C + k) * C + (t % C + x) := by
  obtain ⟨h1, k, h2, h3, h4⟩ := (pc_bit C W t b H).1 h
  rw [at_row] at h3 h4
  obtain ⟨x, rfl⟩ : ∃ x, b = (t / C + k) * C + (t % C + x) := ⟨b - ((t / C + k) * C + t % C), by omega⟩
  have hx : x < W := by omega
  obtain ⟨d1, d2⟩ := dm (r := t / C + k) (c := t % C + x) (C := C) (by omega)
  exact ⟨k, x, h2, hx, d1, d2, rfl⟩
theorem pc_in {C W t H k x : Nat} (hk : k < H) (hx : x < W) (hb : (t / C + k) * C + (t % C + x) < 64) : (pcN C W t H).testBit ((t / C + k) * C + (t % C + x)) = true := by
  refine (pc_bit C W t _ H).2 ⟨hb, k, hk, ?_, ?_⟩
  · rw [at_row]; omega
  · rw [at_row]; omega
theorem row_lt {n C r c : Nat} (hr : r < n) (hc : c < C) : r * C + c < n * C := by
  have : (r + 1) * C ≤ n * C := Nat.mul_le_mul_right C hr
  rw [Nat.add_mul] at this
  omega
/-- The good fields. -/
noncomputable def gdN (n C : Nat) (q : Nat → Nat → Int) (Q : Int) : Nat := bs (fun t => decide (Q ≤ q (t / C) (t % C))) (n * C)
theorem gd_bit (n C : Nat) (q : Nat → Nat → Int) (Q : Int) (t : Nat) : (gdN n C q Q).testBit t = true ↔ t < n * C ∧ Q ≤ q (t / C) (t % C) := by
  unfold gdN
  rw [bs_bit]
  simp
theorem size_36 {n C : Nat} (hn : n ≤ 6) (hC : C ≤ 6) : n * C ≤ 36 := Nat.mul_le_mul hn hC
theorem gd_64 {n C : Nat} (q : Nat → Nat → Int) (Q : Int) (hn : n ≤ 6) (hC : C ≤ 6) : gdN n C q Q < 2 ^ 64 := bs_64 _ (by have := size_36 hn hC; omega)
/-- A piece fits just where its fields are all good. -/
theorem fit_iff {n C : Nat} (q : Nat → Nat → Int) (W H : Nat) (Q : Int) (t : Nat) (hn : n ≤ 6) (hC : 1 ≤ C ∧ C ≤ 6) (ht : t < n * C) (hW : 1 ≤ W) (hc : t % C + W ≤ C) : (pcN C W t H &&& (18446744073709551615 - gdN n C q Q) = 0) ↔ FitP n C q (W : Int) (H : Int) Q t := by
  have h36 := size_36 hn hC.2
  obtain ⟨hr, hcl⟩ := H3.div_mod hC.1 ht
  rw [part_zero (pc_64 C W t H) (gd_64 q Q hn hC.2)]
  constructor
  · intro h
    have hb : t / C + H ≤ n := by
      apply Classical.byContradiction
      intro hno
      have hk : n - t / C < H := by omega
      have e : t / C + (n - t / C) = n := by omega
      have hlt : (t / C + (n - t / C)) * C + (t % C + 0) < 64 := by rw [e]; omega
      have h1 := h _ (pc_in (C := C) (W := W) (t := t) (H := H) hk (show 0 < W by omega) hlt)
      rw [gd_bit, e] at h1
      omega
    refine ⟨by omega, by omega, fun y x hy hx => ?_⟩
    have hl := row_lt (n := n) (C := C) (r := t / C + y) (c := t % C + x) (by omega) (by omega)
    have h1 := h _ (pc_in (C := C) (W := W) (t := t) (H := H) (k := y) (x := x) (by omega) (by omega) (by omega))
    rw [gd_bit] at h1
    obtain ⟨d1, d2⟩ := dm (r := t / C + y) (c := t % C + x) (C := C) (by omega)
    rw [d1, d2] at h1
    exact h1.2
  · rintro ⟨h1, h2, h3⟩ b hb
    obtain ⟨k, x, hk, hx, d1, d2, e⟩ := pc_at hC.1 hc hb
    rw [gd_bit, d1, d2]
    refine ⟨?_, h3 k x (by omega) (by omega)⟩
    rw [e]
    exact row_lt (by omega) (by omega)
theorem top2 (x y : Nat) : ∃ r, x ≤ r ∧ y ≤ r ∧ (r = x ∨ r = y) := by
  rcases Nat.le_total x y with h | h
  · exact ⟨y, h, Nat.le_refl _, .inr rfl⟩
  · exact ⟨x, Nat.le_refl _, h, .inl rfl⟩
/-- Two pieces that fit meet just if they have a field in common. -/
theorem meet_iff {n C : Nat} {q : Nat → Nat → Int} {W H W' H' t u : Nat} {Q Q' : Int} (hp : (1 ≤ W ∧ 1 ≤ H) ∧ 1 ≤ W' ∧ 1 ≤ H') (hn : n ≤ 6) (hC : 1 ≤ C ∧ C ≤ 6) (h1 : FitP n C q (W : Int) (H : Int) Q t) (h2 : FitP n C q (W' : Int) (H' : Int) Q' u) : (∃ b, (pcN C W t H).testBit b = true ∧ (pcN C W' u H').testBit b = true) ↔ MeetP C (W : Int) (H : Int) t (W' : Int) (H' : Int) u := by
  have h36 := size_36 hn hC.2
  obtain ⟨a1, a2, _⟩ := h1
  obtain ⟨c1, c2, _⟩ := h2
  unfold MeetP
  constructor
  · rintro ⟨b, hb1, hb2⟩
    obtain ⟨k, x, hk, hx, d1, d2, _⟩ := pc_at hC.1 (by omega) hb1
    obtain ⟨k', x', hk', hx', d1', d2', _⟩ := pc_at hC.1 (by omega) hb2
    omega
  · rintro ⟨m1, m2, m3, m4⟩
    obtain ⟨r, hr⟩ : ∃ r, t / C ≤ r ∧ u / C ≤ r ∧ (r = t / C ∨ r = u / C) := top2 _ _
    obtain ⟨c, hc⟩ : ∃ c, t % C ≤ c ∧ u % C ≤ c ∧ (c = t % C ∨ c = u % C) := top2 _ _
    have q1 : (r - t / C < H ∧ r - u / C < H') ∧ (t / C ≤ r ∧ u / C ≤ r) ∧ r < n := by
      have p1 := hp.1.2
      have p2 := hp.2.2
      clear hc m1 m2 a2 c2 hp
      generalize t / C = a at m3 m4 hr a1 ⊢
      generalize u / C = b at m3 m4 hr c1 ⊢
      omega
    have q2 : (c - t % C < W ∧ c - u % C < W') ∧ (t % C ≤ c ∧ u % C ≤ c) ∧ c < C := by
      have p1 := hp.1.1
      have p2 := hp.2.1
      clear hr m3 m4 a1 c1 hp
      generalize t % C = a at m1 m2 hc a2 ⊢
      generalize u % C = b at m1 m2 hc c2 ⊢
      omega
    have hl := row_lt (n := n) (C := C) (r := r) (c := c) q1.2.2 q2.2.2
    refine ⟨r * C + c, ?_, ?_⟩
    · have e1 : t / C + (r - t / C) = r := by have := q1.2.1.1; omega
      have e2 : t % C + (c - t % C) = c := by have := q2.2.1.1; omega
      have := pc_in (C := C) (W := W) (t := t) (H := H) (k := r - t / C) (x := c - t % C) q1.1.1 q2.1.1 (by rw [e1, e2]; omega)
      rwa [e1, e2] at this
    · have e1 : u / C + (r - u / C) = r := by have := q1.2.1.2; omega
      have e2 : u % C + (c - u % C) = c := by have := q2.2.1.2; omega
      have := pc_in (C := C) (W := W') (t := u) (H := H') (k := r - u / C) (x := c - u % C) q1.1.2 q2.1.2 (by rw [e1, e2]; omega)
      rwa [e1, e2] at this
/-- What is told of a piece at a field: its fields, and whether it fits. -/
def foN (C W H t : Nat) : Nat := if t % C + W ≤ C then pcN C W t H else 0
theorem fo_64 (C W H t : Nat) : foN C W H t < 2 ^ 64 := by
  unfold foN
  split
  · exact pc_64 C W t H
  · exact Nat.two_pow_pos _
theorem fo_fit {n C : Nat} {q : Nat → Nat → Int} {W H t : Nat} {Q : Int} (h : FitP n C q (W : Int) (H : Int) Q t) : foN C W H t = pcN C W t H := by
  unfold foN
  rw [if_pos (by have := h.2.1; omega)]
/-- The fields of the pieces of a plan, up to the i-th one. -/
def foP (C : Nat) (g p : Nat → Int) (i : Nat) : Nat := if p i < 0 then 0 else foN C (g (i * 4)).toNat (g (i * 4 + 1)).toNat (p i).toNat
def usN (C : Nat) (g p : Nat → Int) : Nat → Nat
  | 0 => 0
  | i + 1 => usN C g p i ||| foP C g p i
theorem foP_64 (C : Nat) (g p : Nat → Int) (i : Nat) : foP C g p i < 2 ^ 64 := by
  unfold foP
  split
  · exact Nat.two_pow_pos _
  · exact fo_64 _ _ _ _
theorem us_64 (C : Nat) (g p : Nat → Int) : ∀ i, usN C g p i < 2 ^ 64
  | 0 => by simp [usN]
  | i + 1 => by
    unfold usN
    exact Nat.or_lt_two_pow (us_64 C g p i) (foP_64 C g p i)
theorem us_bit (C : Nat) (g p : Nat → Int) (b : Nat) : ∀ i, (usN C g p i).testBit b = true ↔ ∃ j, j < i ∧ (foP C g p j).testBit b = true
  | 0 => by simp [usN]
  | i + 1 => by
    unfold usN
    rw [Nat.testBit_or, Bool.or_eq_true, us_bit C g p b i]
    constructor
    · rintro (⟨j, h1, h2⟩ | h)
      · exact ⟨j, by omega, h2⟩
      · exact ⟨i, by omega, h⟩
    · rintro ⟨j, h1, h2⟩
      by_cases e : j = i
      · subst e; exact .inr h2
      · exact .inl ⟨j, by omega, h2⟩
/-- A piece is at fault just if it does not fit, or meets the fields that are used. -/
theorem wrong_iff {n C : Nat} {q : Nat → Nat → Int} {g p : Nat → Int} {i : Nat} (hn : n ≤ 6) (hC : 1 ≤ C ∧ C ≤ 6) (hg : ∀ j, j ≤ i → 1 ≤ g (j * 4) ∧ 1 ≤ g (j * 4 + 1)) (hb : ∀ j, j < i → ¬ WrongP n C q g p j) (h0 : 0 ≤ p i) :
    WrongP n C q g p i ↔ (¬ FitP n C q (g (i * 4)) (g (i * 4 + 1)) (g (i * 4 + 2)) (p i).toNat ∨ ¬ (foP C g p i &&& usN C g p i = 0)) := by
  have fitj : ∀ j, j < i → 0 ≤ p j → FitP n C q (g (j * 4)) (g (j * 4 + 1)) (g (j * 4 + 2)) (p j).toNat := fun j hj hp => Classical.byContradiction fun hno => hb j hj ⟨hp, .inl hno⟩
  have cast : ∀ j, j ≤ i → ((g (j * 4)).toNat : Int) = g (j * 4) ∧ ((g (j * 4 + 1)).toNat : Int) = g (j * 4 + 1) := fun j hj => by have := hg j hj; omega
  have key : FitP n C q (g (i * 4)) (g (i * 4 + 1)) (g (i * 4 + 2)) (p i).toNat → ((∃ j, j < i ∧ 0 ≤ p j ∧ MeetP C (g (i * 4)) (g (i * 4 + 1)) (p i).toNat (g (j * 4)) (g (j * 4 + 1)) (p j).toNat) ↔ ¬ (foP C g p i &&& usN C g p i = 0)) := by
    intro hf
    obtain ⟨ci1, ci2⟩ := cast i (Nat.le_refl _)
    have hfi : FitP n C q ((g (i * 4)).toNat : Int) ((g (i * 4 + 1)).toNat : Int) (g (i * 4 + 2)) (p i).toNat := by rw [ci1, ci2]; exact hf
    have ei : foP C g p i = pcN C (g (i * 4)).toNat (p i).toNat (g (i * 4 + 1)).toNat := by
      unfold foP
      rw [if_neg (by omega), fo_fit hfi]
    rw [and_zero, ei]
    constructor
    · rintro ⟨j, hj, hp, hm⟩ hno
      obtain ⟨cj1, cj2⟩ := cast j (by omega)
      have hfj : FitP n C q ((g (j * 4)).toNat : Int) ((g (j * 4 + 1)).toNat : Int) (g (j * 4 + 2)) (p j).toNat := by rw [cj1, cj2]; exact fitj j hj hp
      obtain ⟨b, b1, b2⟩ := (meet_iff (by have := hg i (Nat.le_refl _); have := hg j (by omega); omega) hn hC hfi hfj).2 (by rw [ci1, ci2, cj1, cj2]; exact hm)
      refine hno b b1 ((us_bit C g p b i).2 ⟨j, hj, ?_⟩)
      unfold foP
      rw [if_neg (by omega), fo_fit hfj]
      exact b2
    · intro hno
      apply Classical.byContradiction
      intro hne
      refine hno fun b b1 b2 => ?_
      obtain ⟨j, hj, hbit⟩ := (us_bit C g p b i).1 b2
      by_cases hp : p j < 0
      · unfold foP at hbit
        rw [if_pos hp, Nat.zero_testBit] at hbit
        cases hbit
      obtain ⟨cj1, cj2⟩ := cast j (by omega)
      have hfj : FitP n C q ((g (j * 4)).toNat : Int) ((g (j * 4 + 1)).toNat : Int) (g (j * 4 + 2)) (p j).toNat := by rw [cj1, cj2]; exact fitj j hj (by omega)
      unfold foP at hbit
      rw [if_neg hp, fo_fit hfj] at hbit
      have hm := (meet_iff (by have := hg i (Nat.le_refl _); have := hg j (by omega); omega) hn hC hfi hfj).1 ⟨b, b1, hbit⟩
      rw [ci1, ci2, cj1, cj2] at hm
      exact hne ⟨j, hj, by omega, hm⟩
  unfold WrongP
  constructor
  · rintro ⟨_, h | h⟩
    · exact .inl h
    · by_cases hf : FitP n C q (g (i * 4)) (g (i * 4 + 1)) (g (i * 4 + 2)) (p i).toNat
      · exact .inr ((key hf).1 h)
      · exact .inl hf
  · intro h
    refine ⟨h0, ?_⟩
    rcases h with h | h
    · exact .inl h
    · by_cases hf : FitP n C q (g (i * 4)) (g (i * 4 + 1)) (g (i * 4 + 2)) (p i).toNat
      · exact .inr ((key hf).2 h)
      · exact .inl hf
end Go.Proofs.Ytongfgikkcieaaa.T1
