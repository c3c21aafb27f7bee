/- A heap of blocks by falling height, nothing of any function: what one step up or down leaves, what lies on top, and that the blocks come out as N2.ord tells. -/
import Derived.Test.YtgclhkiiaclkgabN2Lib
namespace Go.Proofs.Ytgclhkiiaclkgab.To
set_option linter.unusedVariables false
open N2

/-- Block a comes before block b: it is taller, or as tall and ahead of it in the list. -/
def bl (g : Nat → Int) (a b : Nat) : Prop := g (b * 2 + 1) < g (a * 2 + 1) ∨ (g (a * 2 + 1) = g (b * 2 + 1) ∧ a < b)
section
variable {g : Nat → Int} {a b c : Nat}
theorem bl_asymm (h : bl g a b) : ¬ bl g b a := by unfold bl at *; omega
theorem bl_trans (h : bl g a b) (k : bl g b c) : bl g a c := by unfold bl at *; omega
theorem bl_neg (h : ¬ bl g a b) (k : ¬ bl g b c) : ¬ bl g a c := by unfold bl at *; omega
theorem bl_tri (h : ¬ bl g a b) (k : ¬ bl g b a) : a = b := by unfold bl at *; omega
theorem bl_irr : ¬ bl g a a := by unfold bl; omega
end
def par (j : Nat) : Nat := (j - 1) / 2
theorem par_lt {j : Nat} (h : 0 < j) : par j < j := by unfold par; omega
def sw (o : Nat → Nat) (i j : Nat) : Nat → Nat := fun k => if k = i then o j else if k = j then o i else o k
theorem sw_i {o : Nat → Nat} {i j : Nat} : sw o i j i = o j := if_pos rfl
theorem sw_j {o : Nat → Nat} {i j : Nat} : sw o i j j = o i := by
  unfold sw
  split
  · rename_i h; rw [h]
  · rw [if_pos rfl]
theorem sw_o {o : Nat → Nat} {i j k : Nat} (h1 : k ≠ i) (h2 : k ≠ j) : sw o i j k = o k := by unfold sw; rw [if_neg h1, if_neg h2]
/-- What a heap holds. -/
def In (o : Nat → Nat) (r x : Nat) : Prop := ∃ k, k < r ∧ o k = x
def Inj (o : Nat → Nat) (r : Nat) : Prop := ∀ i j, i < r → j < r → o i = o j → i = j
theorem sw_sw (o : Nat → Nat) (i j : Nat) : sw (sw o i j) i j = o := by
  funext k
  by_cases h1 : k = i
  · subst h1; rw [sw_i, sw_j]
  · by_cases h2 : k = j
    · subst h2; rw [sw_j, sw_i]
    · rw [sw_o h1 h2, sw_o h1 h2]
theorem sw_in1 {o : Nat → Nat} {i j r x : Nat} (hi : i < r) (hj : j < r) (h : In o r x) : In (sw o i j) r x := by
  obtain ⟨k, hk, e⟩ := h
  by_cases h1 : k = i
  · exact ⟨j, hj, by rw [sw_j, ← h1]; exact e⟩
  · by_cases h2 : k = j
    · exact ⟨i, hi, by rw [sw_i, ← h2]; exact e⟩
    · exact ⟨k, hk, by rw [sw_o h1 h2]; exact e⟩
theorem sw_in {o : Nat → Nat} {i j r x : Nat} (hi : i < r) (hj : j < r) : In (sw o i j) r x ↔ In o r x :=
  ⟨fun h => by have := sw_in1 hi hj h; rwa [sw_sw] at this, sw_in1 hi hj⟩
theorem sw_inj {o : Nat → Nat} {i j r : Nat} (hi : i < r) (hj : j < r) (h : Inj o r) : Inj (sw o i j) r := by
  have key : ∀ k, ∃ k', (k < r → k' < r) ∧ sw o i j k = o k' ∧ ((k = i ∧ k' = j) ∨ (k ≠ i ∧ k = j ∧ k' = i) ∨ (k ≠ i ∧ k ≠ j ∧ k' = k)) := fun k => by
    by_cases h1 : k = i
    · exact ⟨j, fun _ => hj, by rw [h1, sw_i], .inl ⟨h1, rfl⟩⟩
    · by_cases h2 : k = j
      · exact ⟨i, fun _ => hi, by rw [h2, sw_j], .inr (.inl ⟨h1, h2, rfl⟩)⟩
      · exact ⟨k, fun h => h, sw_o h1 h2, .inr (.inr ⟨h1, h2, rfl⟩)⟩
  intro x y hx hy e
  obtain ⟨x', a1, a2, a3⟩ := key x
  obtain ⟨y', b1, b2, b3⟩ := key y
  rw [a2, b2] at e
  have := h x' y' (a1 hx) (b1 hy) e
  omega
/-- The order of a heap. -/
def HP (g : Nat → Int) (o : Nat → Nat) (r : Nat) : Prop := ∀ c, 0 < c → c < r → ¬ bl g (o c) (o (par c))
/-- ... but at j, which may have to go up. -/
def UpI (g : Nat → Int) (o : Nat → Nat) (r j : Nat) : Prop := (∀ c, 0 < c → c < r → c ≠ j → ¬ bl g (o c) (o (par c))) ∧ ∀ c, 0 < j → 0 < c → c < r → par c = j → ¬ bl g (o c) (o (par j))
/-- ... but below i, which may have to go down. -/
def DnI (g : Nat → Int) (o : Nat → Nat) (r i : Nat) : Prop := (∀ c, 0 < c → c < r → par c ≠ i → ¬ bl g (o c) (o (par c))) ∧ ∀ c, 0 < i → 0 < c → c < r → par c = i → ¬ bl g (o c) (o (par i))
section
variable {g : Nat → Int} {o : Nat → Nat} {r i j : Nat}
theorem up_start (h : HP g o r) : UpI g o (r + 1) r := ⟨fun c h0 h1 h2 => h c h0 (by omega), fun c h0 h1 h2 h3 => by unfold par at h3; omega⟩
theorem up_top (h : UpI g o r 0) : HP g o r := fun c h0 h1 => h.1 c h0 h1 (by omega)
theorem up_stop (h : UpI g o r j) (hn : ¬ bl g (o j) (o (par j))) : HP g o r := fun c h0 h1 => by
  by_cases e : c = j
  · rw [e]; exact hn
  · exact h.1 c h0 h1 e
theorem up_step (h : UpI g o r j) (h0 : 0 < j) (hj : j < r) (hl : bl g (o j) (o (par j))) : UpI g (sw o (par j) j) r (par j) := by
  have hp := par_lt h0
  refine ⟨fun c c0 c1 c2 => ?_, fun c i0 c0 c1 c2 => ?_⟩
  · by_cases e : c = j
    · subst e
      rw [sw_j, sw_i]
      exact bl_asymm hl
    · rw [sw_o c2 e]
      by_cases e1 : par c = j
      · rw [e1, sw_j]
        exact h.2 c h0 c0 c1 e1
      · by_cases e2 : par c = par j
        · rw [e2, sw_i]
          intro q
          have := h.1 c c0 c1 e
          rw [e2] at this
          exact this (bl_trans q hl)
        · rw [sw_o e2 e1]
          exact h.1 c c0 c1 e
  · have hpp := par_lt i0
    have e0 : par (par j) ≠ par j := by omega
    have e1 : par (par j) ≠ j := by omega
    rw [sw_o e0 e1]
    have k := h.1 (par j) i0 (by omega) (by omega)
    by_cases e : c = j
    · rw [e, sw_j]
      exact k
    · have e3 : c ≠ par j := fun q => by have := par_lt c0; omega
      rw [sw_o e3 e]
      have k2 := h.1 c c0 c1 e
      rw [c2] at k2
      exact bl_neg k2 k
theorem dn_start (h : HP g o (r + 1)) : DnI g (sw o 0 r) r 0 := ⟨fun c c0 c1 c2 => by
  have := par_lt c0
  rw [sw_o (by omega) (by omega), sw_o c2 (by omega)]
  exact h c c0 (by omega), fun c h0 => by omega⟩
theorem dn_stop (h : DnI g o r i) (hn : ∀ c, 0 < c → c < r → par c = i → ¬ bl g (o c) (o i)) : HP g o r := fun c c0 c1 => by
  by_cases e : par c = i
  · rw [e]; exact hn c c0 c1 e
  · exact h.1 c c0 c1 e
theorem dn_step (h : DnI g o r i) (j0 : 0 < j) (hj : j < r) (hp : par j = i) (hl : bl g (o j) (o i)) (hs : ∀ c, 0 < c → c < r → par c = i → ¬ bl g (o c) (o j)) : DnI g (sw o i j) r j := by
  have hij := par_lt j0
  rw [hp] at hij
  refine ⟨fun c c0 c1 c2 => ?_, fun c _ c0 c1 c2 => ?_⟩
  · by_cases e : c = j
    · rw [e, hp, sw_j, sw_i]
      exact bl_asymm hl
    · by_cases e1 : c = i
      · subst e1
        have := par_lt c0
        rw [sw_i, sw_o (by omega) (by omega)]
        exact h.2 j c0 j0 hj hp
      · rw [sw_o e1 e]
        by_cases e2 : par c = i
        · rw [e2, sw_i]
          exact hs c c0 c1 e2
        · rw [sw_o e2 c2]
          exact h.1 c c0 c1 e2
  · have := par_lt c0
    rw [hp, sw_i, sw_o (by omega) (by omega)]
    have k := h.1 c c0 c1 (by omega)
    rw [c2] at k
    exact k
/-- None comes before the one on top. -/
theorem top (h : HP g o r) : ∀ j, j < r → ¬ bl g (o j) (o 0) := by
  intro j
  induction j using Nat.strongRecOn with
  | ind j ih =>
    intro hj
    by_cases e : j = 0
    · rw [e]; exact bl_irr
    · have := par_lt (show 0 < j by omega)
      exact bl_neg (h j (by omega) hj) (ih (par j) this (by omega))
/-- Without the one that was on top. -/
theorem popped {x : Nat} (hi : Inj o (r + 1)) : In (sw o 0 r) r x ↔ In o (r + 1) x ∧ x ≠ o 0 := by
  constructor
  · rintro ⟨k, hk, e⟩
    by_cases e0 : k = 0
    · subst e0
      rw [sw_i] at e
      refine ⟨⟨r, by omega, e⟩, fun q => ?_⟩
      have := hi r 0 (by omega) (by omega) (e.trans q)
      omega
    · rw [sw_o e0 (by omega)] at e
      refine ⟨⟨k, by omega, e⟩, fun q => ?_⟩
      have := hi k 0 (by omega) (by omega) (e.trans q)
      omega
  · rintro ⟨⟨k, hk, e⟩, hx⟩
    have e0 : k ≠ 0 := fun q => hx (by rw [← e, q])
    by_cases e1 : k = r
    · exact ⟨0, by omega, by rw [sw_i, ← e1]; exact e⟩
    · exact ⟨k, by omega, by rw [sw_o e0 e1]; exact e⟩
theorem inj_less (hi : Inj o (r + 1)) : Inj o r := fun i j h1 h2 e => hi i j (by omega) (by omega) e
/-- One block more behind all. -/
theorem more_in {x y : Nat} : In (fun k => if k = r then y else o k) (r + 1) x ↔ In o r x ∨ x = y := by
  constructor
  · rintro ⟨k, hk, e⟩
    change (if k = r then y else o k) = x at e
    by_cases q : k = r
    · rw [if_pos q] at e; exact .inr e.symm
    · rw [if_neg q] at e; exact .inl ⟨k, by omega, e⟩
  · rintro (⟨k, hk, e⟩ | e)
    · exact ⟨k, by omega, by show (if k = r then y else o k) = x; rw [if_neg (by omega)]; exact e⟩
    · exact ⟨r, by omega, by show (if r = r then y else o r) = x; rw [if_pos rfl, e]⟩
theorem more_inj {y : Nat} (hi : Inj o r) (hy : ¬ In o r y) : Inj (fun k => if k = r then y else o k) (r + 1) := fun a b ha hb e => by
  change (if a = r then y else o a) = (if b = r then y else o b) at e
  by_cases h1 : a = r
  · by_cases h2 : b = r
    · omega
    · rw [if_pos h1, if_neg h2] at e
      exact absurd ⟨b, by omega, e.symm⟩ hy
  · by_cases h2 : b = r
    · rw [if_neg h1, if_pos h2] at e
      exact absurd ⟨a, by omega, e⟩ hy
    · rw [if_neg h1, if_neg h2] at e
      exact hi a b (by omega) (by omega) e
theorem more_hp {y : Nat} (h : HP g o r) : HP g (fun k => if k = r then y else o k) r := fun c c0 c1 => by
  have := par_lt c0
  show ¬ bl g (if c = r then y else o c) (if par c = r then y else o (par c))
  rw [if_neg (by omega), if_neg (by omega)]
  exact h c c0 c1
end
/-! ### The order that the spec tells -/
theorem kk_spec (g : Nat → Int) (o : Nat → Nat) (h : Int) : ∀ k, (∀ j, kk g o h k ≤ j → j < k → g (o j * 2 + 1) < h) ∧ (0 < kk g o h k → h ≤ g (o (kk g o h k - 1) * 2 + 1))
  | 0 => ⟨fun j h1 h2 => by omega, fun h0 => by unfold kk at h0; omega⟩
  | k + 1 => by
    have ih := kk_spec g o h k
    unfold kk
    by_cases e : g (o k * 2 + 1) < h
    · rw [if_pos e]
      exact ⟨fun j h1 h2 => by
        by_cases q : j = k
        · rw [q]; exact e
        · exact ih.1 j h1 (by omega), ih.2⟩
    · rw [if_neg e]
      exact ⟨fun j h1 h2 => by omega, fun _ => by rw [Nat.add_sub_cancel]; omega⟩
theorem ord_sorted (g : Nat → Int) : ∀ r i j, i < j → j < r → bl g (ord g r i) (ord g r j)
  | 0, i, j, h1, h2 => by omega
  | r + 1, i, j, h1, h2 => by
    have ih := ord_sorted g r
    have hk := kk_le g (ord g r) (g (r * 2 + 1)) r
    obtain ⟨s1, s2⟩ := kk_spec g (ord g r) (g (r * 2 + 1)) r
    have hlt := ord_lt g r
    show bl g (ins (ord g r) (kk g (ord g r) (g (r * 2 + 1)) r) r i) (ins (ord g r) (kk g (ord g r) (g (r * 2 + 1)) r) r j)
    generalize kk g (ord g r) (g (r * 2 + 1)) r = k at *
    have hi : ∀ q, q < k → bl g (ord g r q) r := fun q hq => by
      have e1 := s2 (by omega)
      have e2 := hlt q (by omega)
      by_cases e : q = k - 1
      · rw [← e] at e1
        unfold bl
        omega
      · have e3 := ih q (k - 1) (by omega) (by omega)
        unfold bl at e3 ⊢
        omega
    have ho : ∀ q, k ≤ q → q < r → bl g r (ord g r q) := fun q h1 h2 => .inl (s1 q h1 h2)
    unfold ins
    by_cases i1 : i < k
    · rw [if_pos i1]
      by_cases j1 : j < k
      · rw [if_pos j1]; exact ih i j h1 (by omega)
      · rw [if_neg j1]
        by_cases j2 : j = k
        · rw [if_pos j2]; exact hi i i1
        · rw [if_neg j2]; exact ih i (j - 1) (by omega) (by omega)
    · rw [if_neg i1, if_neg (show ¬ j < k by omega), if_neg (show ¬ j = k by omega)]
      by_cases i2 : i = k
      · rw [if_pos i2]; exact ho (j - 1) (by omega) (by omega)
      · rw [if_neg i2]; exact ih (i - 1) (j - 1) (by omega) (by omega)
theorem ord_inj (g : Nat → Int) (r : Nat) : Inj (ord g r) r := fun i j hi hj e => by
  by_cases h1 : i < j
  · exact absurd (ord_sorted g r i j h1 hj) (by rw [e]; exact bl_irr)
  · by_cases h2 : j < i
    · exact absurd (ord_sorted g r j i h2 hi) (by rw [e]; exact bl_irr)
    · omega
theorem ord_onto (g : Nat → Int) : ∀ r x, x < r → ∃ i, i < r ∧ ord g r i = x
  | 0, x, h => by omega
  | r + 1, x, h => by
    have hk := kk_le g (ord g r) (g (r * 2 + 1)) r
    show ∃ i, i < r + 1 ∧ ins (ord g r) (kk g (ord g r) (g (r * 2 + 1)) r) r i = x
    generalize kk g (ord g r) (g (r * 2 + 1)) r = k at *
    by_cases e : x = r
    · exact ⟨k, by omega, by unfold ins; rw [if_neg (by omega), if_pos rfl, e]⟩
    · obtain ⟨i, hi, e2⟩ := ord_onto g r x (by omega)
      by_cases q : i < k
      · exact ⟨i, by omega, by unfold ins; rw [if_pos q]; exact e2⟩
      · exact ⟨i + 1, by omega, by unfold ins; rw [if_neg (by omega), if_neg (by omega), Nat.add_sub_cancel]; exact e2⟩
/-- What is left after t blocks have come out. -/
def Left (g : Nat → Int) (n t : Nat) (o : Nat → Nat) : Prop := ∀ x, In o (n - t) x ↔ ∃ s, t ≤ s ∧ s < n ∧ ord g n s = x
theorem left_start {g : Nat → Int} {n : Nat} {o : Nat → Nat} (h : ∀ x, In o n x ↔ x < n) : Left g n 0 o := fun x => by
  rw [Nat.sub_zero, h]
  constructor
  · intro hx
    obtain ⟨i, hi, e⟩ := ord_onto g n x hx
    exact ⟨i, Nat.zero_le _, hi, e⟩
  · rintro ⟨s, _, hs, rfl⟩
    exact ord_lt g n s hs
/-- On top lies the next one. -/
theorem left_top {g : Nat → Int} {n t : Nat} {o : Nat → Nat} (h : Left g n t o) (ht : t < n) (hp : HP g o (n - t)) : o 0 = ord g n t := by
  obtain ⟨k, hk, e⟩ := (h (ord g n t)).2 ⟨t, Nat.le_refl t, ht, rfl⟩
  obtain ⟨s, h1, h2, h3⟩ := (h (o 0)).1 ⟨0, by omega, rfl⟩
  by_cases q : s = t
  · rw [← h3, q]
  · have k1 := ord_sorted g n t s (by omega) h2
    have k2 := top hp k hk
    rw [e, ← h3] at k2
    exact absurd k1 k2
theorem left_next {g : Nat → Int} {n t : Nat} {o o' : Nat → Nat} (h : Left g n t o) (ht : t < n) (h0 : o 0 = ord g n t) (hi : Inj o (n - t)) (hs : ∀ x, In o' (n - (t + 1)) x ↔ In (sw o 0 (n - (t + 1))) (n - (t + 1)) x) : Left g n (t + 1) o' := fun x => by
  have e : n - t = n - (t + 1) + 1 := by omega
  rw [hs, popped (by rw [← e]; exact hi), ← e, h x, h0]
  constructor
  · rintro ⟨⟨s, h1, h2, h3⟩, h4⟩
    have : s ≠ t := fun q => h4 (by rw [← h3, q])
    exact ⟨s, by omega, h2, h3⟩
  · rintro ⟨s, h1, h2, h3⟩
    refine ⟨⟨s, by omega, h2, h3⟩, fun q => ?_⟩
    have := ord_inj g n s t h2 ht (h3.trans q)
    omega
end Go.Proofs.Ytgclhkiiaclkgab.To
