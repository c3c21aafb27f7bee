/- Plain texts: which bytes are the decimal form of a number of at most 18 digits, and of which. -/
import Derived.Test.YtcnbnpeilkdfiaaDoorRows
import Derived.WalkKit
import Derived.Lib.ItoaNum
import Derived.Lib.ParseIntB
namespace Go.Proofs.YtcnbnpeilkdfiaaDoor.Rn
open Go.Lib

def dgt (c : UInt8) : Bool := decide (48 ≤ c.toNat ∧ c.toNat ≤ 57)
/-- The number that some digits are, behind others. -/
def val (acc : Nat) (l : List UInt8) : Nat := l.foldl (fun a c => a * 10 + (c.toNat - 48)) acc
theorem val_nil (acc : Nat) : val acc [] = acc := rfl
theorem val_cons (acc : Nat) (c : UInt8) (r : List UInt8) : val acc (c :: r) = val (acc * 10 + (c.toNat - 48)) r := by
  unfold val
  rw [List.foldl_cons]
theorem val_snoc (acc : Nat) (l : List UInt8) (c : UInt8) : val acc (l ++ [c]) = val acc l * 10 + (c.toNat - 48) := by
  induction l generalizing acc with
  | nil => rw [List.nil_append, val_cons, val_nil, val_nil]
  | cons d l ih => simp only [List.cons_append, val_cons]; exact ih _
theorem val_ge (acc : Nat) (l : List UInt8) : acc ≤ val acc l := by
  induction l generalizing acc with
  | nil => exact Nat.le_refl _
  | cons d l ih => simp only [val_cons]; exact Nat.le_trans (by omega) (ih _)
theorem val_lt (acc : Nat) (l : List UInt8) (h : l.all dgt = true) : val acc l < (acc + 1) * 10 ^ l.length := by
  induction l generalizing acc with
  | nil => simp [val_nil]
  | cons d l ih =>
    simp only [List.all_cons, Bool.and_eq_true] at h
    have hd : 48 ≤ d.toNat ∧ d.toNat ≤ 57 := by simpa [dgt] using h.1
    simp only [val_cons, List.length_cons]
    refine Nat.lt_of_lt_of_le (ih _ h.2) ?_
    rw [Nat.pow_succ, Nat.mul_comm (10 ^ l.length) 10, ← Nat.mul_assoc]
    exact Nat.mul_le_mul_right _ (by omega)
theorem dec_all (u : Nat) : (decDigits u).all dgt = true ∧ val 0 (decDigits u) = u := by
  induction u using Nat.strongRecOn with
  | _ u ih =>
    by_cases h : u < 10
    · rw [decDigits, dif_pos h]
      have : (UInt8.ofNat (48 + u)).toNat = 48 + u := by simp only [UInt8.toNat_ofNat']; omega
      refine ⟨?_, ?_⟩
      · simp only [List.all_cons, List.all_nil, Bool.and_true, dgt, this]; simp; omega
      · simp only [val_cons, val_nil, this]; omega
    · rw [decDigits, dif_neg h]
      obtain ⟨h1, h2⟩ := ih (u / 10) (by omega)
      have : (UInt8.ofNat (48 + u % 10)).toNat = 48 + u % 10 := by simp only [UInt8.toNat_ofNat']; omega
      refine ⟨?_, ?_⟩
      · rw [List.all_append, h1]; simp only [List.all_cons, List.all_nil, Bool.and_true, dgt, this, Bool.true_and]; simp; omega
      · rw [val_snoc, h2, this]; omega
theorem dec_len (k u : Nat) (hk : 1 ≤ k) (h : u < 10 ^ k) : nDigits u ≤ k := by
  induction k generalizing u with
  | zero => omega
  | succ k ih =>
    by_cases hu : u < 10
    · rw [nDigits_small hu]; omega
    · rw [nDigits_big hu]
      by_cases hk0 : k = 0
      · subst hk0; simp at h; omega
      · have := ih (u / 10) (by omega) (by rw [Nat.pow_succ] at h; omega)
        omega
theorem parseM (M acc : Nat) (l : List UInt8) (h : l.all dgt = true) (hv : val acc l ≤ M) (hM : M < 18446744073709551616) : parseUintM M acc l = .ok (val acc l) := by
  induction l generalizing acc with
  | nil => rfl
  | cons d l ih =>
    simp only [List.all_cons, Bool.and_eq_true] at h
    have hd : 48 ≤ d.toNat ∧ d.toNat ≤ 57 := by simpa [dgt] using h.1
    simp only [val_cons] at hv ⊢
    have hg := val_ge (acc * 10 + (d.toNat - 48)) l
    rw [parseUintM, if_pos hd, if_neg (by omega), if_neg (by omega)]
    exact ih _ h.2 hv
theorem dec_ne (u : Nat) : ∃ c r, decDigits u = c :: r ∧ dgt c = true := by
  have h := (dec_all u).1
  have hl := decDigits_length u
  have hp := nDigits_pos u
  cases hd : decDigits u with
  | nil => rw [hd] at hl; simp at hl; omega
  | cons c r => rw [hd] at h; simp only [List.all_cons, Bool.and_eq_true] at h; exact ⟨c, r, rfl, h.1⟩
theorem parse_itoa (n : Int) (h0 : -999999999999999999 ≤ n) (h1 : n ≤ 999999999999999999) : parseIntB 64 (itoa n) = .ok n := by
  have key : ∀ u : Nat, u ≤ 999999999999999999 → parseUintB 64 (decDigits u) = .ok u := fun u hu => by
    obtain ⟨c, r, e, _⟩ := dec_ne u
    obtain ⟨h2, h3⟩ := dec_all u
    unfold parseUintB
    rw [if_neg (by rw [e]; simp), parseM _ _ _ h2 (by rw [h3]; simp; omega) (by decide), h3]
  unfold itoa
  by_cases hn : n < 0
  · rw [if_pos hn]
    have hu : n.natAbs ≤ 999999999999999999 := by omega
    simp only [parseIntB]
    rw [if_pos (by decide), key _ hu]
    have e : (45 : UInt8).toNat = 45 := by decide
    simp only [e, not_true_eq_false, false_and, if_false, true_and, if_true]
    rw [if_neg (by simp; omega)]
    congr 1
    omega
  · rw [if_neg hn]
    have hu : n.toNat ≤ 999999999999999999 := by omega
    obtain ⟨c, r, e, hc⟩ := dec_ne n.toNat
    have hc' : 48 ≤ c.toNat ∧ c.toNat ≤ 57 := by simpa [dgt] using hc
    have hk := key _ hu
    rw [e] at hk ⊢
    simp only [parseIntB]
    rw [if_neg (by omega), hk]
    have e1 : ¬ c.toNat = 45 := by omega
    simp only [e1, not_false_eq_true, true_and, false_and, if_false]
    rw [if_neg (by simp; omega)]
    congr 1
    omega

/-- Whether the text begins with a minus sign. -/
def isNeg : List UInt8 → Bool
  | [] => false
  | c :: _ => decide (c.toNat = 45)
/-- What stands behind the sign. -/
def tl (L : List UInt8) : List UInt8 := if isNeg L then L.tail else L
def rdV (L : List UInt8) : Int := if isNeg L then -(val 0 (tl L) : Int) else (val 0 (tl L) : Int)
/-- Whether the text is the decimal form of a number of at most 18 digits. -/
def rdB (L : List UInt8) : Bool := decide (1 ≤ (tl L).length ∧ (tl L).length ≤ 18) && ((tl L).all dgt && decide (itoa (rdV L) = L))
def rdN (L : List UInt8) : Int := if rdB L then rdV L else 0
theorem rd_bd {L : List UInt8} (h1 : (tl L).length ≤ 18) (h2 : (tl L).all dgt = true) : -999999999999999999 ≤ rdV L ∧ rdV L ≤ 999999999999999999 ∧ val 0 (tl L) ≤ 999999999999999999 := by
  have h := val_lt 0 (tl L) h2
  have hp : 10 ^ (tl L).length ≤ 10 ^ 18 := Nat.pow_le_pow_right (by decide) h1
  have : (10 : Nat) ^ 18 = 1000000000000000000 := by decide
  unfold rdV
  split <;> omega
theorem rd_is {L : List UInt8} (h : rdB L = true) : L = itoa (rdV L) ∧ -999999999999999999 ≤ rdV L ∧ rdV L ≤ 999999999999999999 := by
  unfold rdB at h
  simp only [Bool.and_eq_true, decide_eq_true_eq] at h
  have hb := rd_bd h.1.2 h.2.1
  exact ⟨h.2.2.symm, hb.1, hb.2.1⟩
theorem is_rd {n : Int} (h0 : -999999999999999999 ≤ n) (h1 : n ≤ 999999999999999999) : rdB (itoa n) = true ∧ rdV (itoa n) = n := by
  have e18 : (10 : Nat) ^ 18 = 1000000000000000000 := by decide
  by_cases hn : n < 0
  · have hi : itoa n = 45 :: decDigits n.natAbs := by unfold itoa; rw [if_pos hn]
    have hneg : isNeg (itoa n) = true := by rw [hi]; rfl
    have ht : tl (itoa n) = decDigits n.natAbs := by unfold tl; rw [hneg, hi]; rfl
    obtain ⟨h2, h3⟩ := dec_all n.natAbs
    have hv : rdV (itoa n) = n := by unfold rdV; rw [hneg, ht, h3]; simp only [if_true]; omega
    refine ⟨?_, hv⟩
    unfold rdB
    rw [hv, ht, h2, decDigits_length]
    have h4 := nDigits_pos n.natAbs
    have h5 := dec_len 18 n.natAbs (by omega) (by omega)
    simp [h4, h5]
  · have hi : itoa n = decDigits n.toNat := by unfold itoa; rw [if_neg hn]
    obtain ⟨c, r, e, hc⟩ := dec_ne n.toNat
    have hc' : 48 ≤ c.toNat ∧ c.toNat ≤ 57 := by simpa [dgt] using hc
    have hneg : isNeg (itoa n) = false := by rw [hi, e]; simp [isNeg]; omega
    have ht : tl (itoa n) = decDigits n.toNat := by unfold tl; rw [hneg, hi]; rfl
    obtain ⟨h2, h3⟩ := dec_all n.toNat
    have hv : rdV (itoa n) = n := by unfold rdV; rw [hneg, ht, h3]; simp only [Bool.false_eq_true, if_false]; omega
    refine ⟨?_, hv⟩
    unfold rdB
    rw [hv, ht, h2, decDigits_length]
    have h4 := nDigits_pos n.toNat
    have h5 := dec_len 18 n.toNat (by omega) (by omega)
    simp [h4, h5]
end Go.Proofs.YtcnbnpeilkdfiaaDoor.Rn
