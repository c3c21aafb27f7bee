/- The walks of both IsName: each answers whether the text is a name; the law's walk. -/
import Derived.Test.YtongfgikkcieaaaRows
import Derived.WalkKit
import Derived.Below
import Derived.Laws.RangeAny
import Derived.Lib.Hide
import Derived.LoopTactic
namespace Go.Proofs.Ytongfgikkcieaaa.Nm
open Go.RowKit

/-- A small letter. -/
def smB (c : Int) : Bool := decide (97 ≤ c ∧ c ≤ 122)
/-- A digit. -/
def dgB (c : Int) : Bool := decide (48 ≤ c ∧ c ≤ 57)
/-- The byte at i as a number. -/
def byt (s : ByteArray) (i : Nat) : Int := if h : i < s.size then ((s[i]'h).toNat : Int) else 0
theorem byt_of (s : ByteArray) (i : Nat) (h : i < s.size) : byt s i = ((s[i]'h).toNat : Int) := by simp [byt, h]
/-- A byte that a name may have. -/
def okB (c : Int) : Bool := smB c || (dgB c || !(c != 45))
/-- A text that is a name. -/
def IsNm (s : ByteArray) : Prop := 1 ≤ s.size ∧ s.size ≤ 12 ∧ smB (byt s 0) = true ∧ ∀ j, j < s.size → okB (byt s j) = true
def Tells (P : Prop) (w : World) (e : Ending) (w' : World) : Prop := ∃ b : Bool, e = .returned (.bool b) ∧ (b = true ↔ P) ∧ Below w.heap.size w w'
theorem tells_yes {P : Prop} {w w' : World} (h : P) (hb : Below w.heap.size w w') : Tells P w (.returned (.bool true)) w' := ⟨true, rfl, by simp [h], hb⟩
theorem tells_no {P : Prop} {w w' : World} (h : ¬ P) (hb : Below w.heap.size w w') : Tells P w (.returned (.bool false)) w' := ⟨false, rfl, by simp [h], hb⟩

theorem nil_of_size (s : ByteArray) (h : s.size = 0) : s.toList = [] := by
  rw [ByteArray.toList_eq]
  exact List.eq_nil_of_length_eq_zero (by simpa using h)
theorem cons_of_size (s : ByteArray) (h : ¬ s.size = 0) : s.toList.isEmpty = false := by
  rw [ByteArray.toList_eq]
  cases hl : s.data.toList with
  | nil => exact absurd (by simpa using congrArg List.length hl) h
  | cons a l => rfl
theorem not_short {s : ByteArray} (h : s.size < 1) : ¬ IsNm s := fun e => by have := e.1; omega
theorem not_long {s : ByteArray} (h : 12 < s.size) : ¬ IsNm s := fun e => by have := e.2.1; omega
theorem not_first {s : ByteArray} (h : smB (byt s 0) = false) : ¬ IsNm s := fun e => by rw [e.2.2.1] at h; cases h
theorem not_at {s : ByteArray} {k : Nat} (hk : k < s.size) (h : okB (byt s k) = false) : ¬ IsNm s := fun e => by rw [e.2.2.2 k hk] at h; cases h

theorem step_all {p : Nat → Bool} {k : Nat} (h : ∀ j, j < k → p j = true) (hk : p k = true) : ∀ j, j < k + 1 → p j = true := fun j hj => by
  by_cases e : j = k
  · rw [e]; exact hk
  · exact h j (by omega)

theorem width_pos (s : ByteArray) (pos : Nat) (h : pos < s.size) : 1 ≤ (Utf8.decode s pos).2 := by
  by_cases ha : (s[pos]'h).toNat < 128
  · rw [decode_ascii s pos h ha]
    exact Nat.le_refl _
  · exact (decode_high s pos h (by omega)).2
theorem high_no {c : Int} (h : 128 ≤ c) : smB c = false ∧ dgB c = false ∧ okB c = false ∧ (c == 45) = false := by
  have h1 : smB c = false := by unfold smB; simp; omega
  have h2 : dgB c = false := by unfold dgB; simp; omega
  have h3 : c ≠ 45 := by omega
  exact ⟨h1, h2, by simp [okB, h1, h2, h3], by simp [h3]⟩

theorem tells_true {P : Prop} (h : P) {w w' : World} {e : Ending} (t : Tells P w e w') : e = .returned (.bool true) ∧ Below w.heap.size w w' := by
  obtain ⟨b, rfl, hb, hw⟩ := t
  cases b
  · exact absurd (hb.2 h) (by simp)
  · exact ⟨rfl, hw⟩
theorem tells_false {P : Prop} (h : ¬ P) {w w' : World} {e : Ending} (t : Tells P w e w') : e = .returned (.bool false) ∧ Below w.heap.size w w' := by
  obtain ⟨b, rfl, hb, hw⟩ := t
  cases b
  · exact ⟨rfl, hw⟩
  · exact absurd (hb.1 rfl) h

end Go.Proofs.Ytongfgikkcieaaa.Nm
