/- Openings, plain: the open edge that follows an open edge. -/
import Derived.Test.YtpmmfalpcooenabVoLib
namespace Go.Proofs.Ytpmmfalpcooenab.Vc
set_option linter.unusedVariables false
open Go.RowKit Go.Maps Ft Is Ge Qb Pt Pv Za Mm Zb Sdq Sdu Uf Uc Vo

/-- Where an edge is gone on from: at its mate, or at itself if it is open. -/
def sg (S : Nat → Int) (k : Nat) (x : Nat × Nat) : Nat × Nat := (mate S k x).getD x
def fw (ms : Nat → Nat) (S : Nat → Int) (k : Nat) (x : Nat × Nat) : Nat × Nat := nxt ms (sg S k x)
def it (ms : Nat → Nat) (S : Nat → Int) (k : Nat) : Nat → Nat × Nat → Nat × Nat
  | 0, x => x
  | r + 1, x => fw ms S k (it ms S k r x)
/-- What all of this leans on: a valid pattern's seams. -/
structure Good (n : Nat) (ms : Nat → Nat) (S : Nat → Int) (k : Nat) : Prop where
  m1 : ∀ i, i < n → 1 ≤ ms i ∧ ms i ≤ 8
  sew : ∀ j, j < k → SwP n ms S j
  ends : ∀ j, j < k → endA S j ∈ plc ms n ∧ endB S j ∈ plc ms n
theorem good_of {n : Nat} {N : Nat → ByteArray} {ms : Nat → Nat} {ds : Nat → Nat → Int} {k : Nat} {S : Nat → Int} {o : Int} (h : PatP n N ms ds k S o) : Good n ms S k := by
  obtain ⟨p1, p2, p3, p4⟩ := pat_in h
  exact ⟨fun i hi => by have := p2 i hi; omega, sew_iff.2 h.2.2, fun j hj => ⟨mem_plc.2 (p4 j hj).1, mem_plc.2 (p4 j hj).2⟩⟩
section
variable {n : Nat} {ms : Nat → Nat} {S : Nat → Int} {k : Nat}
theorem Good.back (h : Good n ms S k) {x y : Nat × Nat} (hm : mate S k x = some y) : mate S k y = some x ∧ y ∈ plc ms n := by
  obtain ⟨j, hj, ⟨e1, e2⟩ | ⟨e1, e2⟩⟩ := mate_some hm
  · obtain ⟨h1, h2⟩ := mate_ends h.sew j hj
    rw [← e1, ← e2]
    exact ⟨h2, (h.ends j hj).2⟩
  · obtain ⟨h1, h2⟩ := mate_ends h.sew j hj
    rw [← e1, ← e2]
    exact ⟨h1, (h.ends j hj).1⟩
theorem Good.sg_mem (h : Good n ms S k) {x : Nat × Nat} (hx : x ∈ plc ms n) : sg S k x ∈ plc ms n := by
  unfold sg
  cases hm : mate S k x with
  | none => exact hx
  | some y => exact (h.back hm).2
theorem Good.sg_sg (h : Good n ms S k) (x : Nat × Nat) : sg S k (sg S k x) = x := by
  unfold sg
  cases hm : mate S k x with
  | none => show (mate S k x).getD x = x; rw [hm]; rfl
  | some y => show (mate S k y).getD y = x; rw [(h.back hm).1]; rfl
theorem nxt_inj {x y : Nat × Nat} (hx : x ∈ plc ms n) (hy : y ∈ plc ms n) (e : nxt ms x = nxt ms y) : x = y := by
  obtain ⟨x1, x2⟩ := x
  obtain ⟨y1, y2⟩ := y
  obtain ⟨a1, a2⟩ := mem_plc.1 hx
  obtain ⟨b1, b2⟩ := mem_plc.1 hy
  unfold nxt nx at e
  injection e with e1 e2
  dsimp only at e1 e2 a1 a2 b1 b2
  subst e1
  have : x2 = y2 := by
    by_cases p : x2 + 1 = ms x1
    · by_cases q : y2 + 1 = ms x1
      · omega
      · rw [p, Nat.mod_self, Nat.mod_eq_of_lt (by omega)] at e2; omega
    · by_cases q : y2 + 1 = ms x1
      · rw [q, Nat.mod_self, Nat.mod_eq_of_lt (by omega)] at e2; omega
      · rw [Nat.mod_eq_of_lt (by omega), Nat.mod_eq_of_lt (by omega)] at e2; omega
  rw [this]
theorem Good.fw_mem (h : Good n ms S k) {x : Nat × Nat} (hx : x ∈ plc ms n) : fw ms S k x ∈ plc ms n := nxt_mem (h.sg_mem hx)
theorem Good.fw_inj (h : Good n ms S k) {x y : Nat × Nat} (hx : x ∈ plc ms n) (hy : y ∈ plc ms n) (e : fw ms S k x = fw ms S k y) : x = y := by
  have := nxt_inj (h.sg_mem hx) (h.sg_mem hy) e
  rw [← h.sg_sg x, ← h.sg_sg y, this]
theorem Good.it_mem (h : Good n ms S k) {x : Nat × Nat} (hx : x ∈ plc ms n) : ∀ r, it ms S k r x ∈ plc ms n
  | 0 => hx
  | r + 1 => h.fw_mem (h.it_mem hx r)
theorem Good.it_cut (h : Good n ms S k) {x : Nat × Nat} (hx : x ∈ plc ms n) : ∀ {i j : Nat}, it ms S k i x = it ms S k (i + j) x → it ms S k j x = x
  | 0, j, e => by rw [Nat.zero_add] at e; exact e.symm
  | i + 1, j, e => by
    rw [show i + 1 + j = i + j + 1 by omega] at e
    exact h.it_cut hx (h.fw_inj (h.it_mem hx _) (h.it_mem hx _) e)
/-- A walk comes back. -/
theorem Good.again (h : Good n ms S k) {x : Nat × Nat} (hx : x ∈ plc ms n) : ∃ p, 1 ≤ p ∧ p ≤ sumN ms n ∧ it ms S k p x = x := by
  refine Classical.byContradiction fun hno => ?_
  have := pigeon (eg ms n) (sumN ms n) ((List.range (sumN ms n + 1)).map fun r => it ms S k r x) (by
    rw [List.pairwise_map]
    refine (List.pairwise_lt_range (n := sumN ms n + 1)).imp_of_mem fun {a b} ha hb hab e => hno ⟨b - a, by omega, by have := List.mem_range.1 hb; omega, ?_⟩
    exact h.it_cut hx (i := a) (by rw [show a + (b - a) = b by omega]; exact e)) (fun y hy => by
    obtain ⟨r, _, rfl⟩ := List.mem_map.1 hy
    obtain ⟨t, ht, e⟩ := eg_of (h.it_mem hx r)
    exact ⟨t, ht, e.symm⟩)
  simp at this
  omega
end
/-- The open edge that follows an open edge lies r steps on. -/
def Fol (ms : Nat → Nat) (S : Nat → Int) (k : Nat) (x : Nat × Nat) (r : Nat) : Prop := 1 ≤ r ∧ mate S k (it ms S k r x) = none ∧ ∀ q, 1 ≤ q → q < r → mate S k (it ms S k q x) ≠ none
theorem fol_one {ms : Nat → Nat} {S : Nat → Int} {k : Nat} {x : Nat × Nat} {r s : Nat} (h : Fol ms S k x r) (h' : Fol ms S k x s) : r = s := by
  rcases Nat.lt_trichotomy r s with q | q | q
  · exact absurd h.2.1 (h'.2.2 r h.1 q)
  · exact q
  · exact absurd h'.2.1 (h.2.2 s h'.1 q)
theorem fol_at {ms : Nat → Nat} {S : Nat → Int} {k : Nat} {x : Nat × Nat} : ∀ {p : Nat}, 1 ≤ p → mate S k (it ms S k p x) = none → ∃ r, r ≤ p ∧ Fol ms S k x r
  | 0, h, _ => by omega
  | p + 1, _, ho => by
    by_cases hq : ∃ q, 1 ≤ q ∧ q ≤ p ∧ mate S k (it ms S k q x) = none
    · obtain ⟨q, q1, q2, q3⟩ := hq
      by_cases hp : 1 ≤ p
      · by_cases e : mate S k (it ms S k p x) = none
        · obtain ⟨r, hr, hf⟩ := fol_at hp e
          exact ⟨r, by omega, hf⟩
        · have : ∃ r, r ≤ q ∧ Fol ms S k x r := by
            clear hp e ho
            induction q using Nat.strongRecOn with
            | ind q ih =>
              by_cases hs : ∃ s, 1 ≤ s ∧ s < q ∧ mate S k (it ms S k s x) = none
              · obtain ⟨s, s1, s2, s3⟩ := hs
                obtain ⟨r, hr, hf⟩ := ih s s2 s1 (by omega) s3
                exact ⟨r, by omega, hf⟩
              · exact ⟨q, Nat.le_refl _, q1, q3, fun s s1 s2 s3 => hs ⟨s, s1, s2, s3⟩⟩
          obtain ⟨r, hr, hf⟩ := this
          exact ⟨r, by omega, hf⟩
      · omega
    · exact ⟨p + 1, Nat.le_refl _, by omega, ho, fun q q1 q2 q3 => hq ⟨q, q1, by omega, q3⟩⟩
/-- From an open edge another one is reached, or itself. -/
theorem Good.fol {n : Nat} {ms : Nat → Nat} {S : Nat → Int} {k : Nat} (h : Good n ms S k) {x : Nat × Nat} (hx : x ∈ plc ms n) (ho : mate S k x = none) : ∃ r, r ≤ sumN ms n ∧ Fol ms S k x r := by
  obtain ⟨p, p1, p2, p3⟩ := h.again hx
  obtain ⟨r, hr, hf⟩ := fol_at p1 (by rw [p3]; exact ho)
  exact ⟨r, by omega, hf⟩
open Classical in
noncomputable def fr (ms : Nat → Nat) (S : Nat → Int) (k : Nat) (x : Nat × Nat) : Nat := if h : ∃ r, Fol ms S k x r then Classical.choose h else 0
noncomputable def fol (ms : Nat → Nat) (S : Nat → Int) (k : Nat) (x : Nat × Nat) : Nat × Nat := it ms S k (fr ms S k x) x
theorem fr_of {ms : Nat → Nat} {S : Nat → Int} {k : Nat} {x : Nat × Nat} {r : Nat} (h : Fol ms S k x r) : fr ms S k x = r ∧ fol ms S k x = it ms S k r x := by
  have e : fr ms S k x = r := by
    unfold fr
    rw [dif_pos ⟨r, h⟩]
    exact fol_one (Classical.choose_spec (⟨r, h⟩ : ∃ r, Fol ms S k x r)) h
  exact ⟨e, by unfold fol; rw [e]⟩
end Go.Proofs.Ytpmmfalpcooenab.Vc
