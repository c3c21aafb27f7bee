/- Union and find: labels that only fall (the spec's), leaders in a map (the program's), and what both tell. -/
import Derived.Test.YtpmmfalpcooenabZcLib
namespace Go.Proofs.Ytpmmfalpcooenab.Uf
set_option linter.unusedVariables false
open Go.RowKit Go.Maps Ft Is Ge Qb Pt Pv Za Mm Zb

/-- The least number that the first m pairs make the same, one pair after another. -/
def lab (X Y : Nat → Nat) : Nat → Nat → Nat
  | 0, z => z
  | m + 1, z => if lab X Y m z = lab X Y m (X m) ∨ lab X Y m z = lab X Y m (Y m) then min (lab X Y m (X m)) (lab X Y m (Y m)) else lab X Y m z
/-- The leader after the first m pairs. -/
def ld (X Y : Nat → Nat) : Nat → Nat → Nat
  | 0, z => z
  | m + 1, z => if ld X Y m z = ld X Y m (X m) then ld X Y m (Y m) else ld X Y m z
section
variable {X Y : Nat → Nat}
theorem lab_le (m z : Nat) : lab X Y m z ≤ z := by
  induction m with
  | zero => exact Nat.le_refl _
  | succ m ih => unfold lab; split <;> omega
theorem lab_idem (m z : Nat) : lab X Y m (lab X Y m z) = lab X Y m z := by
  induction m generalizing z with
  | zero => rfl
  | succ m ih =>
    have hX := ih (X m)
    have hY := ih (Y m)
    have hz := ih z
    have hmin : lab X Y m (min (lab X Y m (X m)) (lab X Y m (Y m))) = min (lab X Y m (X m)) (lab X Y m (Y m)) := by
      rcases Nat.le_total (lab X Y m (X m)) (lab X Y m (Y m)) with h | h
      · rw [Nat.min_eq_left h]; exact hX
      · rw [Nat.min_eq_right h]; exact hY
    by_cases h : lab X Y m z = lab X Y m (X m) ∨ lab X Y m z = lab X Y m (Y m)
    · have e : lab X Y (m + 1) z = min (lab X Y m (X m)) (lab X Y m (Y m)) := by rw [lab, if_pos h]
      rw [e, lab, hmin, if_pos (by omega)]
    · have e : lab X Y (m + 1) z = lab X Y m z := by rw [lab, if_neg h]
      rw [e, lab, hz, if_neg h]
theorem lab_same {m i : Nat} (hi : i < m) : lab X Y m (X i) = lab X Y m (Y i) := by
  induction m with
  | zero => omega
  | succ m ih =>
    by_cases e : i = m
    · subst e
      rw [lab, lab, if_pos (.inl rfl), if_pos (.inr rfl)]
    · rw [lab, lab, ih (by omega)]
theorem lab_of {m : Nat} {f : Nat → Nat} (h : ∀ i, i < m → f (X i) = f (Y i)) (z : Nat) : f (lab X Y m z) = f z := by
  induction m generalizing z with
  | zero => rfl
  | succ m ih =>
    have ih := ih fun i hi => h i (by omega)
    have hm := h m (by omega)
    have hX := ih (X m)
    have hY := ih (Y m)
    have hz := ih z
    rw [lab]
    split
    · rename_i hc
      rcases Nat.le_total (lab X Y m (X m)) (lab X Y m (Y m)) with h' | h'
      · rw [Nat.min_eq_left h']
        rcases hc with e | e <;> rw [e] at hz <;> omega
      · rw [Nat.min_eq_right h']
        rcases hc with e | e <;> rw [e] at hz <;> omega
    · exact hz
theorem ld_same {m i : Nat} (hi : i < m) : ld X Y m (X i) = ld X Y m (Y i) := by
  induction m with
  | zero => omega
  | succ m ih =>
    by_cases e : i = m
    · subst e
      rw [ld, ld, if_pos rfl]
      split
      · rfl
      · rfl
    · rw [ld, ld, ih (by omega)]
theorem ld_of {m : Nat} {f : Nat → Nat} (h : ∀ i, i < m → f (X i) = f (Y i)) (z : Nat) : f (ld X Y m z) = f z := by
  induction m generalizing z with
  | zero => rfl
  | succ m ih =>
    have ih := ih fun i hi => h i (by omega)
    have hm := h m (by omega)
    have hX := ih (X m)
    have hY := ih (Y m)
    have hz := ih z
    rw [ld]
    split
    · rename_i hc
      rw [hc] at hz
      omega
    · exact hz
theorem ld_lt {m n : Nat} (h : ∀ i, i < m → Y i < n) {z : Nat} (hz : z < n) : ld X Y m z < n := by
  induction m generalizing z with
  | zero => exact hz
  | succ m ih =>
    have ih := fun {z} hz => ih (fun i hi => h i (by omega)) (z := z) hz
    rw [ld]
    split
    · exact ih (h m (by omega))
    · exact ih hz
end
/-- Both tell the same to be the same, whatever the order of the pairs. -/
theorem lab_iff {X Y X' Y' : Nat → Nat} {m m' : Nat} (h : ∀ f : Nat → Nat, (∀ i, i < m → f (X i) = f (Y i)) ↔ (∀ i, i < m' → f (X' i) = f (Y' i))) {z z' : Nat} : lab X Y m z = lab X Y m z' ↔ ld X' Y' m' z = ld X' Y' m' z' := by
  constructor
  · intro e
    have h1 := (h (ld X' Y' m')).2 fun i hi => ld_same hi
    rw [← lab_of h1 z, ← lab_of h1 z', e]
  · intro e
    have h1 := (h (lab X Y m)).1 fun i hi => lab_same hi
    rw [← ld_of h1 z, ← ld_of h1 z', e]

/-- What a map of leaders tells: d falls on the way. -/
structure Leads (u : Nat → Option Nat) (l d : Nat → Nat) : Prop where
  step : ∀ {x y}, u x = some y → l y = l x ∧ d y < d x
  top : ∀ {x}, u x = none → l x = x
  root : ∀ x, u (l x) = none
theorem Leads.none : Leads (fun _ => none) (fun z => z) (fun _ => 0) := ⟨fun h => (by cases h), fun _ => rfl, fun _ => rfl⟩
/-- One more pair. -/
theorem Leads.join {u : Nat → Option Nat} {l d : Nat → Nat} (h : Leads u l d) (x y : Nat) (hne : l x ≠ l y) :
    Leads (fun z => if z = l x then some (l y) else u z) (fun z => if l z = l x then l y else l z) (fun z => if l z = l x then d z + d (l y) + 1 else d z) := by
  have hx := h.top (h.root x)
  have hy := h.top (h.root y)
  refine ⟨fun {a b} hab => ?_, fun {a} ha => ?_, fun a => ?_⟩
  · by_cases e : a = l x
    · rw [if_pos e] at hab
      injection hab with hab
      subst hab e
      rw [hy, hx, if_pos rfl, if_pos rfl, if_neg (Ne.symm hne), if_neg (Ne.symm hne)]
      exact ⟨rfl, by omega⟩
    · rw [if_neg e] at hab
      obtain ⟨h1, h2⟩ := h.step hab
      rw [h1]
      by_cases e2 : l a = l x
      · rw [if_pos e2, if_pos e2, if_pos e2]; exact ⟨rfl, by omega⟩
      · rw [if_neg e2, if_neg e2, if_neg e2]; exact ⟨rfl, h2⟩
  · by_cases e : a = l x
    · rw [if_pos e] at ha; cases ha
    · rw [if_neg e] at ha
      rw [h.top ha, if_neg e]
  · by_cases e : l a = l x
    · rw [if_pos e, if_neg (Ne.symm hne)]; exact h.root y
    · rw [if_neg e, if_neg e]; exact h.root a
theorem if_same {a b c : Nat} (h : b = c) : (if a = b then c else a) = a := by
  split
  · omega
  · rfl

section
variable (P : Program) (k : TypeId) (kv : Nat → Value) (kl : Nat → Lit) (NN : Nat)
/-- A map in memory that leads from number to number below NN. -/
def Uni (w : World) (b : Nat) (u : Nat → Option Nat) : Prop :=
  ∃ g, MapIs P k w b g ∧ (∀ x, x < NN → g (kl x) = (u x).map kv) ∧ (∀ l, (g l).isSome = true → ∃ x, x < NN ∧ l = kl x)
/-- A union in memory: l tells the leaders. -/
def Sta (w : World) (b : Nat) (l : Nat → Nat) : Prop := ∃ u d, Uni P k kv kl NN w b u ∧ Leads u l d ∧ (∀ x y, u x = some y → y < NN) ∧ ∀ x, x < NN → l x < NN
end
section
variable {P : Program} {k : TypeId} {kv : Nat → Value} {kl : Nat → Lit} {NN : Nat}
theorem Sta.made (w : World) : Sta P k kv kl NN (w.alloc (.map #[] 0)) w.heap.size (fun z => z) :=
  ⟨fun _ => none, fun _ => 0, ⟨_, MapIs.made w P k, fun x _ => rfl, fun l h => by cases h⟩, Leads.none, fun x y h => (by cases h), fun x h => h⟩
theorem Sta.lt {w : World} {b : Nat} {l : Nat → Nat} (h : Sta P k kv kl NN w b l) : b < w.heap.size := by
  obtain ⟨u, d, ⟨g, hm, _⟩, _⟩ := h
  exact hm.lt
theorem Sta.of_block {w w' : World} {b : Nat} {l : Nat → Nat} (h : Sta P k kv kl NN w b l) (e : w'.heap[b]? = w.heap[b]?) : Sta P k kv kl NN w' b l := by
  obtain ⟨u, d, ⟨g, hm, r⟩, q⟩ := h
  exact ⟨u, d, ⟨g, hm.of_block e, r⟩, q⟩
theorem Sta.below {w w' : World} {b : Nat} {l : Nat → Nat} (h : Sta P k kv kl NN w b l) (hb : Below w.heap.size w w') : Sta P k kv kl NN w' b l := h.of_block (hb.block b h.lt)
/-- The update of a map. -/
theorem Uni.upd {w' : World} {b : Nat} {u : Nat → Option Nat} {g : Lit → Option Value} (hinj : ∀ x y, x < NN → y < NN → kl x = kl y → x = y)
    (h1 : ∀ x, x < NN → g (kl x) = (u x).map kv) (h2 : ∀ l, (g l).isSome = true → ∃ x, x < NN ∧ l = kl x) {x y : Nat} (hx : x < NN) (hm : MapIs P k w' b (Mm.upd g (kl x) (kv y))) : Uni P k kv kl NN w' b (fun z => if z = x then some y else u z) :=
  ⟨_, hm, fun z hz => by
    show _ = Option.map kv (if z = x then some y else u z)
    by_cases e : z = x
    · subst e; rw [upd_same, if_pos rfl]; rfl
    · rw [upd_other _ _ (fun q => e (hinj _ _ hz hx q)), if_neg e]; exact h1 z hz, fun l hl => by
    by_cases e : l = kl x
    · exact ⟨x, hx, e⟩
    · rw [upd_other _ _ e] at hl; exact h2 l hl⟩
end

/-- The first index below i at which l tells z. -/
def fo (l x : Nat → Nat) : Nat → Nat → Option Nat
  | 0, _ => none
  | i + 1, z => match fo l x i z with
    | some q => some q
    | none => if l (x i) = z then some i else none
theorem fo_some {l x : Nat → Nat} {i z q : Nat} (h : fo l x i z = some q) : q < i ∧ l (x q) = z ∧ ∀ q', q' < q → l (x q') ≠ z := by
  induction i with
  | zero => cases h
  | succ i ih =>
    rw [fo] at h
    cases hf : fo l x i z with
    | some p =>
      rw [hf] at h
      injection h with h
      subst h
      obtain ⟨h1, h2, h3⟩ := ih hf
      exact ⟨by omega, h2, h3⟩
    | none =>
      rw [hf] at h
      dsimp only at h
      split at h
      · rename_i e
        injection h with h
        subst h
        refine ⟨by omega, e, fun q' hq' e' => ?_⟩
        clear ih
        have : ∀ j, fo l x j z = none → ∀ q', q' < j → l (x q') ≠ z := fun j => by
          induction j with
          | zero => intro _ q' h; omega
          | succ j ih =>
            intro hj q' hq'
            rw [fo] at hj
            cases hfj : fo l x j z with
            | some p => rw [hfj] at hj; cases hj
            | none =>
              rw [hfj] at hj
              dsimp only at hj
              split at hj
              · cases hj
              · rename_i hn
                by_cases e : q' = j
                · subst e; exact hn
                · exact ih hfj q' (by omega)
        exact this _ hf q' hq' e'
      · cases h
theorem fo_none {l x : Nat → Nat} {z : Nat} : ∀ {j : Nat}, fo l x j z = none → ∀ q', q' < j → l (x q') ≠ z
  | 0, _, q', h => by omega
  | j + 1, hj, q', hq' => by
    rw [fo] at hj
    cases hfj : fo l x j z with
    | some p => rw [hfj] at hj; cases hj
    | none =>
      rw [hfj] at hj
      dsimp only at hj
      split at hj
      · cases hj
      · rename_i hn
        by_cases e : q' = j
        · subst e; exact hn
        · exact fo_none hfj q' (by omega)
/-- The first index with the same leader. -/
def fi (l x : Nat → Nat) (i : Nat) : Nat := (fo l x i (l (x i))).getD i
theorem fi_of {l x : Nat → Nat} {i : Nat} : fi l x i ≤ i ∧ l (x (fi l x i)) = l (x i) ∧ ∀ q, q < fi l x i → l (x q) ≠ l (x i) := by
  unfold fi
  cases h : fo l x i (l (x i)) with
  | some q => obtain ⟨h1, h2, h3⟩ := fo_some h; exact ⟨by show q ≤ i; omega, h2, h3⟩
  | none => exact ⟨Nat.le_refl _, rfl, fo_none h⟩
/-- The least number of a class. -/
theorem fi_lab {X Y : Nat → Nat} {m i : Nat} : fi (ld X Y m) (fun z => z) i = lab X Y m i := by
  obtain ⟨h1, h2, h3⟩ := fi_of (l := ld X Y m) (x := fun z => z) (i := i)
  have hi : ∀ {z z'}, lab X Y m z = lab X Y m z' ↔ ld X Y m z = ld X Y m z' := lab_iff fun f => Iff.rfl
  have q1 := hi.2 h2
  have q2 := lab_le (X := X) (Y := Y) m (fi (ld X Y m) (fun z => z) i)
  rw [q1] at q2
  rcases Nat.lt_or_eq_of_le q2 with h | h
  · exact absurd (hi.1 (lab_idem m i)) (h3 _ h)
  · exact h.symm
end Go.Proofs.Ytpmmfalpcooenab.Uf
