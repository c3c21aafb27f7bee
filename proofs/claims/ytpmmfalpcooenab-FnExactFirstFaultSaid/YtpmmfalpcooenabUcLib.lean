/- Corners: the spec's pairs and the program's, and how many corners there are. -/
import Derived.Test.YtpmmfalpcooenabUfLib
import Derived.Test.YtpmmfalpcooenabSduLib
namespace Go.Proofs.Ytpmmfalpcooenab.Uc
set_option linter.unusedVariables false
open Go.RowKit Go.Maps Ft Is Ge Qb Pt Pv Za Mm Zb Sdq Uf

/-- The number of a place. -/
def pc (x : Nat × Nat) : Nat := 8 * x.1 + x.2
theorem pc_div {x : Nat × Nat} (h : x.2 < 8) : pc x / 8 = x.1 ∧ pc x % 8 = x.2 := by unfold pc; omega
def sX (ms : Nat → Nat) (S : Nat → Int) (i : Nat) : Nat := if i % 2 = 0 then pc (endA S (i / 2)) else pc (nxt ms (endA S (i / 2)))
def sY (ms : Nat → Nat) (S : Nat → Int) (i : Nat) : Nat := if i % 2 = 0 then pc (nxt ms (endB S (i / 2))) else pc (endB S (i / 2))
def eg (ms : Nat → Nat) (n t : Nat) : Nat × Nat := (plc ms n).getD t (0, 0)
def gX (ms : Nat → Nat) (n t : Nat) : Nat := pc (eg ms n t)
def gY (ms : Nat → Nat) (n : Nat) (S : Nat → Int) (k t : Nat) : Nat := match mate S k (eg ms n t) with
  | some y => pc (nxt ms y)
  | none => pc (eg ms n t)
theorem mate_some {S : Nat → Int} : ∀ {k : Nat} {x y : Nat × Nat}, mate S k x = some y → ∃ j, j < k ∧ ((endA S j = x ∧ endB S j = y) ∨ (endB S j = x ∧ endA S j = y))
  | 0, x, y, h => by cases h
  | k + 1, x, y, h => by
    rw [mate_succ] at h
    split at h
    · rename_i e; injection h with h; exact ⟨k, by omega, .inl ⟨e.symm, h⟩⟩
    · split at h
      · rename_i e; injection h with h; exact ⟨k, by omega, .inr ⟨e.symm, h⟩⟩
      · obtain ⟨j, hj, r⟩ := mate_some h
        exact ⟨j, by omega, r⟩
theorem mate_ends {n : Nat} {ms : Nat → Nat} {S : Nat → Int} : ∀ {k : Nat}, (∀ j, j < k → SwP n ms S j) → ∀ j, j < k → mate S k (endA S j) = some (endB S j) ∧ mate S k (endB S j) = some (endA S j)
  | 0, _, j, hj => by omega
  | k + 1, h, j, hj => by
    obtain ⟨_, n1, n2, n3⟩ := h k (by omega)
    by_cases e : j = k
    · subst e
      rw [mate_succ, mate_succ, if_pos rfl, if_neg (Ne.symm n3), if_pos rfl]
      exact ⟨rfl, rfl⟩
    · obtain ⟨h1, h2⟩ := mate_ends (k := k) (fun j hj => h j (by omega)) j (by omega)
      rw [mate_succ, mate_succ, if_neg (fun q => by rw [q, n1] at h1; cases h1), if_neg (fun q => by rw [q, n2] at h1; cases h1), if_neg (fun q => by rw [q, n1] at h2; cases h2), if_neg (fun q => by rw [q, n2] at h2; cases h2)]
      exact ⟨h1, h2⟩
theorem eg_mem {ms : Nat → Nat} {n t : Nat} (h : t < sumN ms n) : eg ms n t ∈ plc ms n := by
  unfold eg
  rw [List.getD_eq_getElem?_getD, List.getElem?_eq_getElem (by rw [plc_len]; exact h)]
  exact List.getElem_mem _
theorem eg_of {ms : Nat → Nat} {n : Nat} {x : Nat × Nat} (h : x ∈ plc ms n) : ∃ t, t < sumN ms n ∧ eg ms n t = x := by
  obtain ⟨t, ht, e⟩ := List.getElem_of_mem h
  refine ⟨t, by rw [← plc_len]; exact ht, ?_⟩
  unfold eg
  rw [List.getD_eq_getElem?_getD, List.getElem?_eq_getElem ht, ← e]; rfl
theorem plc_rise {ms : Nat → Nat} : ∀ {p : Nat}, (∀ i, i < p → ms i ≤ 8) → (plc ms p).Pairwise (fun a b => pc a < pc b)
  | 0, _ => List.Pairwise.nil
  | p + 1, h => by
    unfold plc
    rw [List.pairwise_append]
    refine ⟨plc_rise fun i hi => h i (by omega), ?_, fun a ha b hb => ?_⟩
    · rw [List.pairwise_map]
      exact (List.pairwise_lt_range (n := ms p)).imp fun {a b} hab => by unfold pc; simpa using hab
    · obtain ⟨j, hj, rfl⟩ := List.mem_map.1 hb
      obtain ⟨a1, a2⟩ := mem_plc.1 ha
      have := h a.1 (by omega)
      unfold pc
      show 8 * a.1 + a.2 < 8 * p + j
      omega
theorem gX_rise {ms : Nat → Nat} {n : Nat} (h : ∀ i, i < n → ms i ≤ 8) {t t' : Nat} (ht : t < t') (ht' : t' < sumN ms n) : gX ms n t < gX ms n t' := by
  have := List.pairwise_iff_getElem.1 (plc_rise h) t t' (by rw [plc_len]; omega) (by rw [plc_len]; omega) ht
  unfold gX eg
  rw [List.getD_eq_getElem?_getD, List.getElem?_eq_getElem (by rw [plc_len]; omega), List.getD_eq_getElem?_getD, List.getElem?_eq_getElem (by rw [plc_len]; omega)]
  exact this
/-- Both lists of pairs ask the same. -/
theorem pairs_iff {n : Nat} {ms : Nat → Nat} {S : Nat → Int} {k : Nat} (hs : ∀ j, j < k → SwP n ms S j) (hp : ∀ j, j < k → endA S j ∈ plc ms n ∧ endB S j ∈ plc ms n) (f : Nat → Nat) :
    (∀ i, i < 2 * k → f (sX ms S i) = f (sY ms S i)) ↔ (∀ t, t < sumN ms n → f (gX ms n t) = f (gY ms n S k t)) := by
  constructor
  · intro h t ht
    unfold gX gY
    cases hm : mate S k (eg ms n t) with
    | none => rfl
    | some y =>
      obtain ⟨j, hj, ⟨e1, e2⟩ | ⟨e1, e2⟩⟩ := mate_some hm
      · have := h (2 * j) (by omega)
        unfold sX sY at this
        rw [if_pos (by omega), if_pos (by omega), show 2 * j / 2 = j by omega, e1, e2] at this
        exact this
      · have := h (2 * j + 1) (by omega)
        unfold sX sY at this
        rw [if_neg (by omega), if_neg (by omega), show (2 * j + 1) / 2 = j by omega, e1, e2] at this
        exact this.symm
  · intro h i hi
    obtain ⟨m1, m2⟩ := mate_ends hs (i / 2) (by omega)
    obtain ⟨p1, p2⟩ := hp (i / 2) (by omega)
    unfold sX sY
    by_cases e : i % 2 = 0
    · rw [if_pos e, if_pos e]
      obtain ⟨t, ht, et⟩ := eg_of p1
      have := h t ht
      unfold gX gY at this
      rw [et, m1] at this
      exact this
    · rw [if_neg e, if_neg e]
      obtain ⟨t, ht, et⟩ := eg_of p2
      have := h t ht
      unfold gX gY at this
      rw [et, m2] at this
      exact this.symm
theorem nxt_mem {n : Nat} {ms : Nat → Nat} {x : Nat × Nat} (h : x ∈ plc ms n) : nxt ms x ∈ plc ms n := by
  obtain ⟨h1, h2⟩ := mem_plc.1 h
  exact mem_plc.2 ⟨h1, nx_lt (by omega)⟩
theorem corner_iff {n : Nat} {ms : Nat → Nat} {S : Nat → Int} {k : Nat} (hm : ∀ i, i < n → ms i ≤ 8) (hs : ∀ j, j < k → SwP n ms S j) (hp : ∀ j, j < k → endA S j ∈ plc ms n ∧ endB S j ∈ plc ms n) {t : Nat} (ht : t < sumN ms n) :
    fi (ld (gX ms n) (gY ms n S k) (sumN ms n)) (gX ms n) t = t ↔ lab (sX ms S) (sY ms S) (2 * k) (gX ms n t) = gX ms n t := by
  obtain ⟨h1, h2, h3⟩ := fi_of (l := ld (gX ms n) (gY ms n S k) (sumN ms n)) (x := gX ms n) (i := t)
  have hi : ∀ {z z'}, lab (sX ms S) (sY ms S) (2 * k) z = lab (sX ms S) (sY ms S) (2 * k) z' ↔ ld (gX ms n) (gY ms n S k) (sumN ms n) z = ld (gX ms n) (gY ms n S k) (sumN ms n) z' := lab_iff (pairs_iff hs hp)
  constructor
  · intro e
    rcases Nat.lt_or_eq_of_le (lab_le (X := sX ms S) (Y := sY ms S) (2 * k) (gX ms n t)) with hl | hl
    · exfalso
      have hpl : ∃ t', t' < sumN ms n ∧ gX ms n t' = lab (sX ms S) (sY ms S) (2 * k) (gX ms n t) := by
        have key := lab_of (X := sX ms S) (Y := sY ms S) (m := 2 * k) (f := fun z => open Classical in if ∃ t', t' < sumN ms n ∧ gX ms n t' = z then 1 else 0) (fun i hi => by
          obtain ⟨p1, p2⟩ := hp (i / 2) (by omega)
          have yes : ∀ x, x ∈ plc ms n → ∃ t', t' < sumN ms n ∧ gX ms n t' = pc x := fun x hx => by
            obtain ⟨t', ht', e'⟩ := eg_of hx
            exact ⟨t', ht', by unfold gX; rw [e']⟩
          unfold sX sY
          by_cases e : i % 2 = 0
          · rw [if_pos e, if_pos e]
            rw [if_pos (yes _ p1), if_pos (yes _ (nxt_mem p2))]
          · rw [if_neg e, if_neg e]
            rw [if_pos (yes _ (nxt_mem p1)), if_pos (yes _ p2)]) (gX ms n t)
        by_cases hh : ∃ t', t' < sumN ms n ∧ gX ms n t' = lab (sX ms S) (sY ms S) (2 * k) (gX ms n t)
        · exact hh
        · rw [if_neg hh, if_pos ⟨t, ht, rfl⟩] at key; omega
      obtain ⟨t', ht', e'⟩ := hpl
      have hlt : t' < t := by
        rcases Nat.lt_trichotomy t' t with h | h | h
        · exact h
        · rw [h] at e'; omega
        · have := gX_rise hm h ht'; omega
      exact h3 t' (by omega) (hi.1 (by rw [e']; exact lab_idem _ _))
    · exact hl
  · intro e
    rcases Nat.lt_or_eq_of_le h1 with hl | hl
    · exfalso
      have q1 := hi.2 h2
      have q2 := lab_le (X := sX ms S) (Y := sY ms S) (2 * k) (gX ms n (fi (ld (gX ms n) (gY ms n S k) (sumN ms n)) (gX ms n) t))
      have q3 := gX_rise hm hl ht
      omega
    · exact hl
/-- How many of the first t edges begin at a corner of their own. -/
def cc (p : Nat → Bool) : Nat → Nat
  | 0 => 0
  | t + 1 => cc p t + (if p t then 1 else 0)
theorem cc_congr {p q : Nat → Bool} : ∀ {t : Nat}, (∀ i, i < t → p i = q i) → cc p t = cc q t
  | 0, _ => rfl
  | t + 1, h => by rw [cc, cc, cc_congr (fun i hi => h i (by omega)), h t (by omega)]
theorem cc_le (p : Nat → Bool) : ∀ t, cc p t ≤ t
  | 0 => Nat.le_refl _
  | t + 1 => by have := cc_le p t; rw [cc]; split <;> omega
/-- The number of corners, as the spec counts. -/
def coB (ms : Nat → Nat) (n : Nat) (S : Nat → Int) (k t : Nat) : Bool := decide (lab (sX ms S) (sY ms S) (2 * k) (gX ms n t) = gX ms n t)
def coN (ms : Nat → Nat) (n : Nat) (S : Nat → Int) (k : Nat) : Nat := cc (coB ms n S k) (sumN ms n)
def fiB (ms : Nat → Nat) (n : Nat) (S : Nat → Int) (k t : Nat) : Bool := decide (fi (ld (gX ms n) (gY ms n S k) (sumN ms n)) (gX ms n) t = t)
theorem co_eq {n : Nat} {ms : Nat → Nat} {S : Nat → Int} {k : Nat} (hm : ∀ i, i < n → ms i ≤ 8) (hs : ∀ j, j < k → SwP n ms S j) (hp : ∀ j, j < k → endA S j ∈ plc ms n ∧ endB S j ∈ plc ms n) :
    cc (fiB ms n S k) (sumN ms n) = coN ms n S k := cc_congr fun t ht => by
  unfold fiB coB
  rw [Bool.eq_iff_iff, decide_eq_true_iff, decide_eq_true_iff]
  exact corner_iff hm hs hp ht
end Go.Proofs.Ytpmmfalpcooenab.Uc
