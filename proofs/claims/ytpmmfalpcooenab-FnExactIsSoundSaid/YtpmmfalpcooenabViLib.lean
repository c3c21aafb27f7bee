/- OpeningsOf: the spec's openings. -/
import Derived.Test.YtpmmfalpcooenabVhLib
import Derived.Test.YtpmmfalpcooenabVpLib
namespace Go.Proofs.Ytpmmfalpcooenab.Vi
set_option linter.unusedVariables false
open Go.RowKit Go.Maps Ft Is Ge Qb Pt Pv Za Mm Zb Zc Zd Vq Sdq Sdu Uf Ug Uh Uc Ux Vo Vc Vd Vf Vg Vp

theorem info_bool : (Try.prog.info? 4).map (fun i => (i.zero, i.size, i.bytes)) = some (some (.bool false), 1, 1) := by kernel_rfl
/-- A row of truth values. -/
def SB (w : World) (g n : Nat) (C : Nat → Bool) : Prop := g < w.heap.size ∧ (∀ i, i < n → w.cell? ⟨g, i, none⟩ = some (.bool (C i))) ∧ ∀ i, w.frozen? ⟨g, i, none⟩ = false
theorem SB.below {w w' : World} {g n : Nat} {C : Nat → Bool} (h : SB w g n C) (hb : Below w.heap.size w w') : SB w' g n C :=
  ⟨Nat.lt_of_lt_of_le h.1 hb.size, fun i hi => (hb.cell (p := ⟨g, i, none⟩) h.1).trans (h.2.1 i hi), fun i => (hb.frozen (p := ⟨g, i, none⟩) h.1).trans (h.2.2 i)⟩
theorem SB.set {w : World} {g n k : Nat} {C : Nat → Bool} (h : SB w g n C) (hk : k < n) : SB (w.setCell ⟨g, k, none⟩ (.bool true)) g n (fun q => decide (q = k) || C q) :=
  ⟨by simpa using h.1, fun i hi => by
    by_cases e : i = k
    · subst e
      rw [World.cell?_setCell_same _ _ _ (h.2.1 i hi)]
      simp
    · rw [World.cell?_setCell_other _ _ _ _ (show (⟨g, k, none⟩ : Addr) ≠ ⟨g, i, none⟩ from fun q => by have := (Addr.mk.inj q).2.1; omega), h.2.1 i hi]
      simp [e], fun i => (World.frozen?_setCell _ _ _ _).trans (h.2.2 i)⟩
theorem SB.grown {w w' : World} {g n : Nat} {C : Nat → Bool} (h : SB w g n C) {b : Option Nat} (hg : w.grownBy w' b) (hne : some g ≠ b) : SB w' g n C := by
  have e := hg.block g h.1 hne
  exact ⟨Nat.lt_of_lt_of_le h.1 hg.size, fun i hi => (World.cell?_of_block (a := ⟨g, i, none⟩) e).trans (h.2.1 i hi), fun i => (World.frozen?_of_block (a := ⟨g, i, none⟩) e).trans (h.2.2 i)⟩
/-- The open edges rise. -/
theorem ol_rise {n : Nat} {ms : Nat → Nat} {S : Nat → Int} {k : Nat} (hm : ∀ i, i < n → ms i ≤ 8) : ∀ {t : Nat}, t ≤ sumN ms n → (ol ms n S k t).Pairwise (fun a b => pc a < pc b) ∧ ∀ x ∈ ol ms n S k t, ∃ q, q < t ∧ x = eg ms n q ∧ mate S k x = none
  | 0, _ => ⟨List.Pairwise.nil, fun x hx => by cases hx⟩
  | t + 1, ht => by
    obtain ⟨h1, h2⟩ := ol_rise hm (t := t) (by omega)
    rw [ol]
    by_cases ho : opB ms n S k t = true
    · rw [if_pos ho]
      refine ⟨List.pairwise_append.2 ⟨h1, List.pairwise_singleton _ _, fun a ha b hb => ?_⟩, fun x hx => ?_⟩
      · obtain ⟨q, hq, rfl, _⟩ := h2 a ha
        rw [List.mem_singleton] at hb
        subst hb
        exact gX_rise hm hq (by omega)
      · rcases List.mem_append.1 hx with hx | hx
        · obtain ⟨q, hq, r⟩ := h2 x hx
          exact ⟨q, by omega, r⟩
        · rw [List.mem_singleton] at hx
          exact ⟨t, by omega, hx, by rw [hx]; unfold opB at ho; exact Option.isNone_iff_eq_none.1 ho⟩
    · rw [if_neg ho]
      exact ⟨h1, fun x hx => by obtain ⟨q, hq, r⟩ := h2 x hx; exact ⟨q, by omega, r⟩⟩
theorem ol_has {n : Nat} {ms : Nat → Nat} {S : Nat → Int} {k : Nat} : ∀ {t q : Nat}, q < t → mate S k (eg ms n q) = none → eg ms n q ∈ ol ms n S k t
  | 0, q, h, _ => by omega
  | t + 1, q, h, ho => by
    rw [ol]
    by_cases e : q = t
    · subst e
      rw [if_pos (by unfold opB; rw [ho]; rfl)]
      simp
    · have := ol_has (n := n) (ms := ms) (t := t) (by omega) ho
      split
      · exact List.mem_append_left _ this
      · exact this
/-- The list of open edges, by places: what the spec's walk wants of it. -/
structure Lst (n : Nat) (ms : Nat → Nat) (S : Nat → Int) (k : Nat) (l : List (Nat × Nat)) : Prop where
  inj : ∀ i j (hi : i < l.length) (hj : j < l.length), pc l[i] = pc l[j] → i = j
  mem : ∀ i (hi : i < l.length), l[i] ∈ plc ms n ∧ mate S k l[i] = none
  has : ∀ x, x ∈ plc ms n → mate S k x = none → ∃ i, ∃ hi : i < l.length, l[i] = x
theorem lst_of {n : Nat} {ms : Nat → Nat} {S : Nat → Int} {k : Nat} (hm : ∀ i, i < n → ms i ≤ 8) : Lst n ms S k (ol ms n S k (sumN ms n)) := by
  obtain ⟨h1, h2⟩ := ol_rise (S := S) (k := k) hm (Nat.le_refl (sumN ms n))
  refine ⟨fun i j hi hj e => ?_, fun i hi => ?_, fun x hx ho => ?_⟩
  · have hp := List.pairwise_iff_getElem.1 h1
    rcases Nat.lt_trichotomy i j with q | q | q
    · have := hp i j hi hj q; omega
    · exact q
    · have := hp j i hj hi q; omega
  · obtain ⟨q, hq, e, ho⟩ := h2 _ (List.getElem_mem hi)
    exact ⟨by rw [e]; exact eg_mem hq, ho⟩
  · obtain ⟨t, ht, e⟩ := eg_of hx
    have := ol_has (n := n) (ms := ms) (S := S) (k := k) ht (by rw [e]; exact ho)
    rw [e] at this
    obtain ⟨i, hi, e'⟩ := List.getElem_of_mem this
    exact ⟨i, hi, e'⟩
end Go.Proofs.Ytpmmfalpcooenab.Vi
