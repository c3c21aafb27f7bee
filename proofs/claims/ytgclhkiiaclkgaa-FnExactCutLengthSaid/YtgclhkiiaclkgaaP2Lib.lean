/- Leathers: the least force for which something happens, nothing of any function. -/
import Derived.Test.YtgclhkiiaclkgaaJcLib
namespace Go.Proofs.Ytgclhkiiaclkgaa.P2
set_option linter.unusedVariables false
open Ja Jb Jc

theorem fi_before {p : Nat → Bool} : ∀ {n k j : Nat}, k ≤ j → j < fi p k n → p j = false
  | 0, k, j, h1, h2 => by unfold fi at h2; omega
  | n + 1, k, j, h1, h2 => by
    unfold fi at h2
    by_cases e : p k = true
    · rw [if_pos e] at h2; omega
    · rw [if_neg e] at h2
      by_cases c : k = j
      · subst c
        cases h : p k
        · rfl
        · exact absurd h e
      · exact fi_before (by omega) h2
theorem fi_top {p : Nat → Bool} : ∀ {n k : Nat}, k ≤ fi p k n ∧ fi p k n ≤ k + n
  | 0, k => by unfold fi; omega
  | n + 1, k => by
    unfold fi
    split
    · omega
    · have := fi_top (p := p) (n := n) (k := k + 1)
      omega
theorem fi_true {p : Nat → Bool} : ∀ {n k : Nat}, fi p k n < k + n → p (fi p k n) = true
  | 0, k, h => by unfold fi at h; omega
  | n + 1, k, h => by
    unfold fi at h ⊢
    by_cases e : p k = true
    · rw [if_pos e]; exact e
    · rw [if_neg e] at h ⊢
      exact fi_true (by omega)
/-- What happens with a force and all greater ones. -/
theorem cut_at {p : Nat → Bool} (hm : ∀ i j, i ≤ j → p i = true → p j = true) {i N : Nat} (hi : i < N) : decide (fi p 0 N ≤ i) = p i := by
  have h := fi_top (p := p) (n := N) (k := 0)
  by_cases c : fi p 0 N ≤ i
  · rw [decide_eq_true c]
    exact (hm _ _ c (fi_true (n := N) (k := 0) (by omega))).symm
  · rw [decide_eq_false c]
    exact (fi_before (n := N) (k := 0) (Nat.zero_le _) (by omega)).symm
/-- Whether leather tears under a force. -/
def teB (a c m d : Int) (k : Nat) : Bool := decide (40 * m < st a c d (k : Int))
theorem st_mono {a c d : Int} (h : 0 ≤ gv a c d) {i j : Nat} (hij : i ≤ j) : st a c d (i : Int) ≤ st a c d (j : Int) := by
  unfold st
  exact Int.mul_le_mul_of_nonneg_left (by omega) h
theorem te_mono {a c m d : Int} (h : 0 ≤ gv a c d) : ∀ i j, i ≤ j → teB a c m d i = true → teB a c m d j = true := fun i j hij e => by
  unfold teB at e ⊢
  have e1 := of_decide_eq_true e
  have := st_mono h hij
  exact decide_eq_true (by omega)
theorem hit_mono {a c d n t : Int} (h : 0 ≤ gv a c d) (hn : 0 ≤ n) : ∀ i j, i ≤ j → hitB a c d n t i = true → hitB a c d n t j = true := fun i j hij e => by
  unfold hitB at e ⊢
  have e1 := of_decide_eq_true e
  have := Int.mul_le_mul_of_nonneg_left (show 40000 + st a c d (i : Int) ≤ 40000 + st a c d (j : Int) by have := st_mono h hij; omega) hn
  exact decide_eq_true (by omega)
/-- The greatest force under which leather does not tear. -/
theorem gp_is {a c m d : Int} (h : 0 ≤ gv a c d) (hm : 1 ≤ m) : ((fi (teB a c m d) 0 1001 : Nat) : Int) - 1 = if gv a c d = 0 then 1000 else min 1000 (40 * m / gv a c d) := by
  have tk : ∀ k : Nat, teB a c m d k = decide (40 * m < gv a c d * (k : Int)) := fun _ => rfl
  by_cases e : gv a c d = 0
  · rw [if_pos e, fi_none fun j _ _ => ?_]
    · rfl
    · rw [tk, e]
      exact decide_eq_false (by omega)
  · rw [if_neg e]
    have hp : 0 < gv a c d := by omega
    generalize gv a c d = z at *
    have q0 : 0 ≤ 40 * m / z := Int.ediv_nonneg (by omega) (by omega)
    have qk : ∀ k : Nat, teB a c m d k = decide (40 * m / z < (k : Int)) := fun k => by
      rw [tk]
      have : 40 * m / z < (k : Int) ↔ 40 * m < (k : Int) * z := Int.ediv_lt_iff_lt_mul hp
      rw [Int.mul_comm z]
      exact decide_eq_decide.2 this.symm
    generalize 40 * m / z = q at *
    by_cases c : 1000 ≤ q
    · rw [fi_none fun j _ hj => ?_]
      · omega
      · rw [qk]
        exact decide_eq_false (by omega)
    · obtain ⟨u, rfl⟩ : ∃ u : Nat, q = (u : Int) := ⟨q.toNat, by omega⟩
      rw [fi_hit (t := u + 1) ?_ (by omega) (by omega) ?_]
      · omega
      · rw [qk]
        exact decide_eq_true (by omega)
      · intro j _ hj
        rw [qk]
        exact decide_eq_false (by omega)
end Go.Proofs.Ytgclhkiiaclkgaa.P2
