/- Rows by number, nothing of any function: those with the least length as they are found by a search in their order (XHpLib for a value to be made least). -/
import Derived.Test.YtgclhkiiaclkgabRows
namespace Go.Proofs.Ytgclhkiiaclkgab.N7
set_option linter.unusedVariables false

/-- Plan q stands before plan b: at the first place where they differ it has the smaller number. -/
def lt (n : Nat) (q b : Nat → Int) : Prop := ∃ i, i < n ∧ (∀ j, j < i → q j = b j) ∧ q i < b i
theorem lt_cases (n : Nat) (q b : Nat → Int) : lt n q b ∨ lt n b q ∨ ∀ j, j < n → q j = b j := by
  induction n with
  | zero => exact .inr (.inr fun j hj => by omega)
  | succ n ih =>
    rcases ih with ⟨i, h1, h2, h3⟩ | ⟨i, h1, h2, h3⟩ | h
    · exact .inl ⟨i, by omega, h2, h3⟩
    · exact .inr (.inl ⟨i, by omega, h2, h3⟩)
    · by_cases e : q n = b n
      · refine .inr (.inr fun j hj => ?_)
        by_cases ej : j = n
        · rw [ej]; exact e
        · exact h j (by omega)
      · by_cases l : q n < b n
        · exact .inl ⟨n, by omega, h, l⟩
        · exact .inr (.inl ⟨n, by omega, fun j hj => (h j hj).symm, by omega⟩)
/-- A plan without a fault: each number is right, by those in front of it. -/
def NF (n : Nat) (ok : Nat → (Nat → Int) → Prop) (q : Nat → Int) : Prop := ∀ k, k < n → ok k q
/-- Of all plans of a kind, the first one with the least value; -1 if there is none. -/
def Bst (n : Nat) (vl : (Nat → Int) → Int) (S : (Nat → Int) → Prop) (b : Nat → Int) (wo : Int) : Prop :=
  (wo = -1 ∧ ∀ q, ¬ S q) ∨ (S b ∧ vl b = wo ∧ ∀ q, S q → wo < vl q ∨ (vl q = wo ∧ ¬ lt n q b))
theorem Bst.congr {n : Nat} {vl : (Nat → Int) → Int} {S T : (Nat → Int) → Prop} {b : Nat → Int} {wo : Int} (h : Bst n vl S b wo) (e : ∀ q, S q ↔ T q) : Bst n vl T b wo := by
  rcases h with ⟨h1, h2⟩ | ⟨h1, h2, h3⟩
  · exact .inl ⟨h1, fun q hq => h2 q ((e q).2 hq)⟩
  · exact .inr ⟨(e b).1 h1, h2, fun q hq => h3 q ((e q).2 hq)⟩
/-- The plans that stand before all that begin with the first k numbers of p. -/
def Before (n : Nat) (ok : Nat → (Nat → Int) → Prop) (k : Nat) (p : Nat → Int) (q : Nat → Int) : Prop := NF n ok q ∧ ∃ i, i < k ∧ (∀ j, j < i → q j = p j) ∧ q i < p i
/-- Those and the ones that begin so. -/
def Upto (n : Nat) (ok : Nat → (Nat → Int) → Prop) (k : Nat) (p : Nat → Int) (q : Nat → Int) : Prop := NF n ok q ∧ ((∃ i, i < k ∧ (∀ j, j < i → q j = p j) ∧ q i < p i) ∨ ∀ j, j < k → q j = p j)
section
variable {n k : Nat} {ok : Nat → (Nat → Int) → Prop} {vl : (Nat → Int) → Int} {p b : Nat → Int} {wo : Int}
theorem after {q : Nat → Int} {i : Nat} (hk : k ≤ n) (h1 : i < k) (h2 : ∀ j, j < i → b j = p j) (h3 : b i < p i) (hq : ∀ j, j < k → q j = p j) : ¬ lt n q b := by
  rintro ⟨m, m1, m2, m3⟩
  by_cases c1 : m < i
  · rw [hq m (by omega), h2 m c1] at m3
    omega
  · by_cases c2 : m = i
    · subst c2
      rw [hq m (by omega)] at m3
      omega
    · have := m2 i (by omega)
      rw [hq i h1] at this
      omega
/-- Nothing behind is less. -/
theorem prune (hk : k ≤ n) (h0 : 0 ≤ wo) (h : Bst n vl (Before n ok k p) b wo) (hm : ∀ q, NF n ok q → (∀ j, j < k → q j = p j) → wo ≤ vl q) : Bst n vl (Upto n ok k p) b wo := by
  rcases h with ⟨h1, h2⟩ | ⟨h1, h2, h3⟩
  · omega
  · obtain ⟨i, i1, i2, i3⟩ := h1.2
    refine .inr ⟨⟨h1.1, .inl h1.2⟩, h2, fun q hq => ?_⟩
    rcases hq.2 with hb | hb
    · exact h3 q ⟨hq.1, hb⟩
    · have := hm q hq.1 hb
      by_cases e : wo < vl q
      · exact .inl e
      · exact .inr ⟨by omega, after hk i1 i2 i3 hb⟩
/-- Whole rows that are less, or the first ones. -/
theorem leaf (hp : NF n ok p) (hv : ∀ q, (∀ j, j < n → q j = p j) → vl q = vl p) (h : Bst n vl (Before n ok n p) b wo) (hpos : ∀ q, NF n ok q → 0 ≤ vl q) (hm : wo < 0 ∨ vl p < wo) : Bst n vl (Upto n ok n p) p (vl p) := by
  refine .inr ⟨⟨hp, .inr fun j _ => rfl⟩, rfl, fun q hq => ?_⟩
  rcases hq.2 with hb | hb
  · rcases h with ⟨h1, h2⟩ | ⟨h1, h2, h3⟩
    · exact absurd ⟨hq.1, hb⟩ (h2 q)
    · rcases hm with hm | hm
      · have := hpos b h1.1
        omega
      · rcases h3 q ⟨hq.1, hb⟩ with h4 | h4
        · exact .inl (by omega)
        · exact .inl (by omega)
  · refine .inr ⟨hv q hb, ?_⟩
    rintro ⟨m, m1, m2, m3⟩
    rw [hb m m1] at m3
    omega
def put (p : Nat → Int) (k : Nat) (c : Int) : Nat → Int := fun j => if j = k then c else p j
theorem put_lt {c : Int} {j : Nat} (h : j < k) : put p k c j = p j := by unfold put; rw [if_neg (by omega)]
theorem put_at {c : Int} : put p k c k = c := by unfold put; rw [if_pos rfl]
theorem split_at {c : Int} {q : Nat → Int} : (∃ i, i < k + 1 ∧ (∀ j, j < i → q j = put p k c j) ∧ q i < put p k c i) ↔ ((∃ i, i < k ∧ (∀ j, j < i → q j = p j) ∧ q i < p i) ∨ ((∀ j, j < k → q j = p j) ∧ q k < c)) := by
  constructor
  · rintro ⟨i, i1, i2, i3⟩
    by_cases e : i = k
    · subst e
      rw [put_at] at i3
      exact .inr ⟨fun j hj => by rw [i2 j hj, put_lt hj], i3⟩
    · rw [put_lt (by omega)] at i3
      exact .inl ⟨i, by omega, fun j hj => by rw [i2 j hj, put_lt (by omega)], i3⟩
  · rintro (⟨i, i1, i2, i3⟩ | ⟨h1, h2⟩)
    · exact ⟨i, by omega, fun j hj => by rw [i2 j hj, put_lt (by omega)], by rw [put_lt (by omega)]; exact i3⟩
    · exact ⟨k, by omega, fun j hj => by rw [h1 j hj, put_lt hj], by rw [put_at]; exact h2⟩
theorem agree_at {c : Int} {q : Nat → Int} : (∀ j, j < k + 1 → q j = put p k c j) ↔ ((∀ j, j < k → q j = p j) ∧ q k = c) := by
  constructor
  · intro h
    exact ⟨fun j hj => by rw [h j (by omega), put_lt hj], by rw [h k (by omega), put_at]⟩
  · rintro ⟨h1, h2⟩ j hj
    by_cases e : j = k
    · subst e; rw [put_at]; exact h2
    · rw [put_lt (by omega)]; exact h1 j (by omega)
/-- The search goes on with one more number, the least one. -/
theorem start {c : Int} (hk : k < n) (hc : ∀ q, NF n ok q → c ≤ q k) (h : Bst n vl (Before n ok k p) b wo) : Bst n vl (Before n ok (k + 1) (put p k c)) b wo :=
  h.congr fun q => ⟨fun ⟨h1, h2⟩ => ⟨h1, split_at.2 (.inl h2)⟩, fun ⟨h1, h2⟩ => ⟨h1, by
    rcases split_at.1 h2 with h3 | ⟨_, h3⟩
    · exact h3
    · have := hc q h1; omega⟩⟩
/-- ... with the next number. -/
theorem next {c d : Int} (hk : k < n) (hcd : c < d) (hc : ∀ q, NF n ok q → (∀ j, j < k → q j = p j) → q k < d → q k ≤ c) (h : Bst n vl (Upto n ok (k + 1) (put p k c)) b wo) : Bst n vl (Before n ok (k + 1) (put p k d)) b wo :=
  h.congr fun q => ⟨fun ⟨h1, h2⟩ => ⟨h1, by
    rw [split_at]
    rcases h2 with h2 | h2
    · rcases split_at.1 h2 with h3 | ⟨h3, h4⟩
      · exact .inl h3
      · exact .inr ⟨h3, by omega⟩
    · obtain ⟨h3, h4⟩ := agree_at.1 h2
      exact .inr ⟨h3, by omega⟩⟩, fun ⟨h1, h2⟩ => ⟨h1, by
    rcases split_at.1 h2 with h3 | ⟨h3, h4⟩
    · exact .inl (split_at.2 (.inl h3))
    · have := hc q h1 h3 h4
      by_cases e : q k = c
      · exact .inr (agree_at.2 ⟨h3, e⟩)
      · exact .inl (split_at.2 (.inr ⟨h3, by omega⟩))⟩⟩
/-- ... a number that is not right. -/
theorem skip {c : Int} (hk : k < n) (hno : ∀ q, (∀ j, j < k + 1 → q j = put p k c j) → ¬ ok k q) (h : Bst n vl (Before n ok (k + 1) (put p k c)) b wo) : Bst n vl (Upto n ok (k + 1) (put p k c)) b wo :=
  h.congr fun q => ⟨fun ⟨h1, h2⟩ => ⟨h1, .inl h2⟩, fun ⟨h1, h2⟩ => ⟨h1, by
    rcases h2 with h2 | h2
    · exact h2
    · exact absurd (h1 k hk) (hno q h2)⟩⟩
/-- ... the last number has been tried. -/
theorem done {c : Int} (hk : k < n) (hc : ∀ q, NF n ok q → (∀ j, j < k → q j = p j) → q k ≤ c) (h : Bst n vl (Upto n ok (k + 1) (put p k c)) b wo) : Bst n vl (Upto n ok k p) b wo :=
  h.congr fun q => ⟨fun ⟨h1, h2⟩ => ⟨h1, by
    rcases h2 with h2 | h2
    · rcases split_at.1 h2 with h3 | ⟨h3, _⟩
      · exact .inl h3
      · exact .inr h3
    · exact .inr (agree_at.1 h2).1⟩, fun ⟨h1, h2⟩ => ⟨h1, by
    rcases h2 with h2 | h2
    · exact .inl (split_at.2 (.inl h2))
    · have := hc q h1 h2
      by_cases e : q k = c
      · exact .inr (agree_at.2 ⟨h2, e⟩)
      · exact .inl (split_at.2 (.inr ⟨h2, by omega⟩))⟩⟩
end
/-- All plans. -/
theorem whole {n : Nat} {ok : Nat → (Nat → Int) → Prop} {vl : (Nat → Int) → Int} {p b : Nat → Int} {wo : Int} (h : Bst n vl (Upto n ok 0 p) b wo) : Bst n vl (NF n ok) b wo :=
  h.congr fun q => ⟨fun h => h.1, fun h => ⟨h, .inr fun j hj => by omega⟩⟩
theorem none_before {n : Nat} {ok : Nat → (Nat → Int) → Prop} {vl : (Nat → Int) → Int} {p b : Nat → Int} : Bst n vl (Before n ok 0 p) b (-1) := .inl ⟨rfl, fun q h => by obtain ⟨i, hi, _⟩ := h.2; omega⟩
/-- The best plan is one. -/
theorem Bst.unique {n : Nat} {vl : (Nat → Int) → Int} {S : (Nat → Int) → Prop} {a b : Nat → Int} {wo vo : Int} (h : Bst n vl S a wo) (k : Bst n vl S b vo) (hw : 0 ≤ wo) : wo = vo ∧ ∀ j, j < n → a j = b j := by
  rcases h with ⟨h1, h2⟩ | ⟨h1, h2, h3⟩
  · omega
  · rcases k with ⟨k1, k2⟩ | ⟨k1, k2, k3⟩
    · exact absurd h1 (k2 a)
    · have e1 := h3 b k1
      have e2 := k3 a h1
      rcases e1 with e1 | ⟨e1, f1⟩
      · rcases e2 with e2 | ⟨e2, f2⟩ <;> omega
      · rcases e2 with e2 | ⟨e2, f2⟩
        · omega
        · refine ⟨by omega, ?_⟩
          rcases lt_cases n a b with h | h | h
          · exact absurd h f2
          · exact absurd h f1
          · exact h
end Go.Proofs.Ytgclhkiiaclkgab.N7
