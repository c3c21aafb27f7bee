/- The spec's reading of a decimal form. -/
import Derived.Test.YtcnbnpeilkdfiaaDoorDsLib
import Derived.Test.YtcnbnpeilkdfiaaDoorRnLib
import Derived.Deep.DeepCutAuto
import Derived.WalkSpells
import Derived.Lib.ItoaLen
import Derived.Lib.IndexBytes
import Derived.Lib.IndexBytes
import Derived.Lib.IndexBytes
namespace Go.Proofs.YtcnbnpeilkdfiaaDoor.Rs
open Go.RowKit Ba Go.Lib Dc Ds Rn

theorem data_nil {s : ByteArray} (h : s.size = 0) : s.data.toList = [] := List.eq_nil_of_length_eq_zero (by simpa using h)
/-- What stands behind the sign, as a text. -/
def tlB (s : ByteArray) : ByteArray := if isNeg s.data.toList then s.extract 1 s.size else s
theorem tl_data (s : ByteArray) : (tlB s).data.toList = tl s.data.toList := by
  unfold tlB tl
  cases h : isNeg s.data.toList
  · rfl
  · simp only [if_true]
    exact (Go.Lib.extract_to_end s 1).trans (by cases s.data.toList <;> rfl)
theorem neg_of {s : ByteArray} (h : 0 < s.size) : isNeg s.data.toList = decide ((s[0]'h).toNat = 45) := by
  obtain ⟨⟨l⟩⟩ := s
  cases l with
  | nil => exact absurd h (by decide)
  | cons c r => rfl
theorem at_list (T : ByteArray) (k : Nat) (h : k < T.size) : T.data.toList.take (k + 1) = T.data.toList.take k ++ [T[k]'h] := by
  rw [List.take_succ_eq_append_getElem (by simpa using h)]; rfl
theorem at_all {T : ByteArray} {k : Nat} (h : k < T.size) (hd : dgt (T[k]'h) = false) : T.data.toList.all dgt = false := by
  rw [List.all_eq_false]
  exact ⟨T[k]'h, by
    have : T[k]'h = T.data.toList[k]'(by simpa using h) := rfl
    rw [this]; exact List.getElem_mem _, by simp [hd]⟩
theorem rd_no {L : List UInt8} (h : ¬ (1 ≤ (tl L).length ∧ (tl L).length ≤ 18) ∨ (tl L).all dgt = false ∨ ¬ itoa (rdV L) = L) : rdB L = false ∧ rdN L = 0 := by
  have hb : rdB L = false := by
    unfold rdB
    rcases h with h | h | h
    · simp [h]
    · simp [h]
    · simp [h]
  exact ⟨hb, by unfold rdN; rw [hb]; rfl⟩
theorem rd_yes {L : List UInt8} (h1 : 1 ≤ (tl L).length ∧ (tl L).length ≤ 18) (h2 : (tl L).all dgt = true) (h3 : itoa (rdV L) = L) : rdB L = true ∧ rdN L = rdV L := by
  have hb : rdB L = true := by
    unfold rdB
    simp [h1, h2, h3]
  exact ⟨hb, by unfold rdN; rw [hb]; rfl⟩
theorem size_list (T : ByteArray) : T.data.toList.length = T.size := by simp
theorem ret_rd {a b : Int} {x y : Bool} (h : a = b) (h' : x = y) : Ending.returned (.tuple #[.int .i64 a, .bool x]) = .returned (.tuple #[.int .i64 b, .bool y]) := by rw [h, h']
theorem val_take {T : ByteArray} {k : Nat} (_hk : k ≤ 18) (h : (T.data.toList.take k).all dgt = true) : val 0 (T.data.toList.take k) < 10 ^ k := by
  have h1 := val_lt 0 _ h
  have h2 : (T.data.toList.take k).length ≤ k := List.length_take_le _ _
  have h3 : 10 ^ (T.data.toList.take k).length ≤ 10 ^ k := Nat.pow_le_pow_right (by decide) h2
  omega
theorem mk_eq (s : ByteArray) {l : List UInt8} (h : l = s.data.toList) : (⟨l.toArray⟩ : ByteArray) = s := by
  subst h
  obtain ⟨⟨l⟩⟩ := s
  rfl
theorem mk_ne (s : ByteArray) {l : List UInt8} (h : ¬ l = s.data.toList) : ((⟨l.toArray⟩ : ByteArray).toList == s.toList) = false := by
  rw [ByteArray.toList_eq, ByteArray.toList_eq]
  simpa using h
end Go.Proofs.YtcnbnpeilkdfiaaDoor.Rs
