/- ReadSize: plain. -/
import Derived.Test.YtcnbnpeilkdfiaaDoorStLib
import Derived.Test.YtcnbnpeilkdfiaaDoorRiLib
namespace Go.Proofs.YtcnbnpeilkdfiaaDoor.Rz
open Go.RowKit Ba Go.Lib Dc Ds Rn Rs Tb Ri St

theorem rd_chars {L : List UInt8} (h : rdB L = true) : ∀ x ∈ L, x.toNat = 45 ∨ (48 ≤ x.toNat ∧ x.toNat ≤ 57) := by
  unfold rdB at h
  simp only [Bool.and_eq_true, decide_eq_true_eq] at h
  have ht := List.all_eq_true.1 h.2.1
  have hd : ∀ x ∈ tl L, 48 ≤ x.toNat ∧ x.toNat ≤ 57 := fun x hx => by simpa [dgt] using ht x hx
  intro x hx
  cases L with
  | nil => simp at hx
  | cons c r =>
    unfold tl at hd
    by_cases hc : isNeg (c :: r) = true
    · rw [if_pos hc] at hd
      rcases List.mem_cons.1 hx with rfl | h'
      · left; simpa [isNeg] using hc
      · exact .inr (hd x h')
    · rw [if_neg hc] at hd
      exact .inr (hd x hx)
theorem rd_free {L : List UInt8} (h : rdB L = true) (c : UInt8) (hc : c.toNat = 46 ∨ c.toNat = 47) : ∀ x ∈ L, x ≠ c := by
  intro x hx e
  subst e
  have := rd_chars h x hx
  omega
theorem rdN_bd (L : List UInt8) : -999999999999999999 ≤ rdN L ∧ rdN L ≤ 999999999999999999 := by
  unfold rdN
  split
  · rename_i h; exact (rd_is h).2
  · decide
theorem spl_inv {c : UInt8} {L p : List UInt8} {ps : List (List UInt8)} (h : spl c L = p :: ps) : (ps = [] ∧ p = L ∧ ∀ x ∈ L, x ≠ c) ∨ ∃ r, L = p ++ c :: r ∧ (∀ x ∈ p, x ≠ c) ∧ ps = spl c r := by
  by_cases hm : c ∈ L
  · obtain ⟨a, r, rfl, ha⟩ := List.eq_append_cons_of_mem hm
    have hn : ∀ x ∈ a, x ≠ c := fun x hx e => ha (e ▸ hx)
    rw [spl_hit c a r hn] at h
    obtain ⟨rfl, rfl⟩ := List.cons.inj h
    exact .inr ⟨r, rfl, hn, rfl⟩
  · have hn : ∀ x ∈ L, x ≠ c := fun x hx e => hm (e ▸ hx)
    rw [spl_none c L hn] at h
    obtain ⟨rfl, rfl⟩ := List.cons.inj h
    exact .inl ⟨rfl, rfl, hn⟩

/-- What stands before the half's mark, whether it is there, the half sizes, whether they are, and the answer. -/
def wh (L : List UInt8) : List UInt8 := trimSuffix L [46, 53]
def od (L : List UInt8) : Bool := hasSuffix L [46, 53]
def szH (L : List UInt8) : Int := 2 * rdN (wh L) + (if od L then 1 else 0)
def szB (L : List UInt8) : Bool := rdB (wh L) && inB (szH L) 0 120
def szN (L : List UInt8) : Int := if szB L then szH L else 0
theorem od_app (a : List UInt8) : od (a ++ [46, 53]) = true ∧ wh (a ++ [46, 53]) = a := by
  have h : hasSuffix (a ++ [46, 53]) [46, 53] = true := by
    unfold hasSuffix
    exact List.isSuffixOf_iff_suffix.2 ⟨a, rfl⟩
  refine ⟨h, ?_⟩
  unfold wh trimSuffix
  rw [if_pos h]
  simp
theorem od_yes {L : List UInt8} (h : od L = true) : L = wh L ++ [46, 53] := by
  obtain ⟨a, rfl⟩ := List.isSuffixOf_iff_suffix.1 h
  rw [(od_app a).2]
theorem od_no {L : List UInt8} (h : od L = false) : wh L = L := by
  unfold wh trimSuffix
  unfold od at h
  rw [h]
  rfl
theorem one {L p : List UInt8} (h : spl 46 L = [p]) : p = L ∧ od L = false ∧ wh L = L := by
  rcases spl_inv h with ⟨_, rfl, hn⟩ | ⟨r, _, _, hr⟩
  · have ho : od p = false := by
      cases ho : od p with
      | false => rfl
      | true => exact absurd rfl (hn 46 (by rw [od_yes ho]; simp))
    exact ⟨rfl, ho, od_no ho⟩
  · exact absurd hr.symm (spl_ne _ _)
theorem two {L p : List UInt8} (h : spl 46 L = [p, [53]]) : od L = true ∧ wh L = p := by
  rcases spl_inv h with ⟨h0, _, _⟩ | ⟨r, rfl, _, hr⟩
  · cases h0
  · rcases spl_inv hr.symm with ⟨_, rfl, _⟩ | ⟨_, _, _, hr'⟩
    · exact od_app p
    · exact absurd hr'.symm (spl_ne _ _)
theorem more {L p q : List UInt8} {ps : List (List UInt8)} (h : spl 46 L = p :: q :: ps) (hn : ps ≠ [] ∨ q ≠ [53]) : szB L = false := by
  cases hr : rdB (wh L) with
  | false => unfold szB; rw [hr]; rfl
  | true =>
    have hf := rd_free hr 46 (.inl (by decide))
    cases ho : od L with
    | false =>
      rw [od_no ho] at hf
      rw [spl_none _ _ hf] at h
      cases h
    | true =>
      have e := od_yes ho
      rw [e, spl_hit 46 _ [53] hf, spl_none 46 [53] (by decide)] at h
      cases h
      rcases hn with h | h <;> exact absurd rfl h
theorem sz_no {L : List UInt8} (h : szB L = false) : szB L = false ∧ szN L = 0 := ⟨h, by unfold szN; rw [h]; rfl⟩
theorem sz_rd {L : List UInt8} (h : rdB (wh L) = false) : szB L = false ∧ szN L = 0 := sz_no (by unfold szB; rw [h]; rfl)
theorem sz_in {L : List UInt8} (h : inB (szH L) 0 120 = false) : szB L = false ∧ szN L = 0 := sz_no (by unfold szB; rw [h, Bool.and_false])
theorem sz_yes {L : List UInt8} (h : rdB (wh L) = true) (h' : inB (szH L) 0 120 = true) : szB L = true ∧ szN L = szH L := by
  have hb : szB L = true := by unfold szB; rw [h, h']; rfl
  exact ⟨hb, by unfold szN; rw [hb]; rfl⟩
end Go.Proofs.YtcnbnpeilkdfiaaDoor.Rz
