/- Hides: qualities, what is a hide, where a piece fits: nothing of any function. -/
import Derived.Test.YtongfgikkcieaaaGeLib
import Derived.Test.YtongfgikkcieaaaNmWalks
import Derived.Test.YtongfgikkcieaaaOwLib
import Derived.Test.YtongfgikkcieaaaBaLib
namespace Go.Proofs.Ytongfgikkcieaaa.Hd
set_option linter.unusedVariables false
open Go.RowKit Ft Is Ge
open Go.Proofs.Ytongfgikkcieaaa.Nm (byt)

/-- The quality of a letter. -/
def qI (c : Int) : Int := if c = 97 then 3 else if c = 98 then 2 else if c = 99 then 1 else if c = 120 then 0 else -1
theorem qI_in (c : Int) : -1 ≤ qI c ∧ qI c ≤ 3 := by
  unfold qI
  split
  · omega
  split
  · omega
  split
  · omega
  split <;> omega
/-- A row of a hide. -/
def RowP (f : Nat → ByteArray) (j : Nat) : Prop := (f j).size = (f 0).size ∧ (1 ≤ (f j).size ∧ (f j).size ≤ 6) ∧ ∀ x, x < (f j).size → 0 ≤ qI (byt (f j) x)
/-- Rows are a hide. -/
def HideP (n : Nat) (f : Nat → ByteArray) : Prop := (∀ j, j < n → RowP f j) ∧ 1 ≤ n ∧ n ≤ 6
theorem HideP.cols {n : Nat} {f : Nat → ByteArray} (h : HideP n f) : 1 ≤ (f 0).size ∧ (f 0).size ≤ 6 := (h.1 0 (by have := h.2; omega)).2.1
/-- The quality of a field. -/
def qf (f : Nat → ByteArray) (y x : Nat) : Int := qI (byt (f y) x)
/-- A piece fits at a field. -/
def FitP (n C : Nat) (q : Nat → Nat → Int) (W H Q : Int) (t : Nat) : Prop := ((t / C : Nat) : Int) + H ≤ (n : Int) ∧ ((t % C : Nat) : Int) + W ≤ (C : Int) ∧ ∀ y x : Nat, (y : Int) < H → (x : Int) < W → Q ≤ q (t / C + y) (t % C + x)
/-- A piece is valid. -/
def cuB (a b c d : Int) : Bool := Ba.inB a 1 6 && Ba.inB b 1 6 && Ba.inB c 1 3 && Ba.inB d 0 1000
theorem cu_in {a b c d : Int} (h : cuB a b c d = true) : (1 ≤ a ∧ a ≤ 6) ∧ (1 ≤ b ∧ b ≤ 6) ∧ (1 ≤ c ∧ c ≤ 3) ∧ (0 ≤ d ∧ d ≤ 1000) := by
  unfold cuB at h
  simp only [Bool.and_eq_true] at h
  obtain ⟨⟨⟨h1, h2⟩, h3⟩, h4⟩ := h
  exact ⟨Ba.in_of h1, Ba.in_of h2, Ba.in_of h3, Ba.in_of h4⟩
/-- Pieces are valid. -/
def CutsP (k : Nat) (g : Nat → Int) : Prop := (∀ i, i < k → cuB (g (i * 4)) (g (i * 4 + 1)) (g (i * 4 + 2)) (g (i * 4 + 3)) = true) ∧ k ≤ 4
/-- Numbers that hold, of the first k ones. -/
def flt (p : Nat → Bool) (k : Nat) : List Int := ((List.range k).filter p).map fun (t : Nat) => (t : Int)
theorem flt_zero (p : Nat → Bool) : flt p 0 = [] := rfl
theorem flt_yes {p : Nat → Bool} {k : Nat} (h : p k = true) : flt p (k + 1) = flt p k ++ [(k : Int)] := by simp [flt, List.range_succ, List.filter_append, h]
theorem flt_no {p : Nat → Bool} {k : Nat} (h : p k = false) : flt p (k + 1) = flt p k := by simp [flt, List.range_succ, List.filter_append, h]
theorem flt_le (p : Nat → Bool) (k : Nat) : (flt p k).length ≤ k := by
  have := List.length_filter_le p (List.range k)
  simpa [flt] using this
theorem flt_nil {p : Nat → Bool} {k : Nat} : flt p k = [] ↔ ∀ t, t < k → p t = false := by
  unfold flt
  rw [List.map_eq_nil_iff, List.filter_eq_nil_iff]
  simp
theorem mem_flt {p : Nat → Bool} {k : Nat} {x : Int} : x ∈ flt p k ↔ ∃ t : Nat, t < k ∧ p t = true ∧ x = (t : Int) := by
  unfold flt
  simp only [List.mem_map, List.mem_filter, List.mem_range]
  constructor
  · rintro ⟨t, ⟨h1, h2⟩, h3⟩; exact ⟨t, h1, h2, h3.symm⟩
  · rintro ⟨t, h1, h2, h3⟩; exact ⟨t, ⟨h1, h2⟩, h3.symm⟩
/-- A list of numbers, as cells and by place. -/
def cel (l : List Int) : List Value := l.map fun x => Value.int .i64 x
def ix (l : List Int) (i : Nat) : Int := l.getD i 0
theorem cel_snoc (l : List Int) (x : Int) : cel (l ++ [x]) = cel l ++ [.int .i64 x] := by simp [cel]
theorem cel_len (l : List Int) : (cel l).length = l.length := by simp [cel]
theorem cel_upto (l : List Int) : cel l = upto (ix l) l.length := by
  apply List.ext_getElem?
  intro i
  by_cases h : i < l.length
  · rw [upto_get _ h]
    simp [cel, ix, List.getD, h]
  · have h1 : (cel l).length ≤ i := by rw [cel_len]; omega
    have h2 : (upto (ix l) l.length).length ≤ i := by simp [upto]; omega
    rw [List.getElem?_eq_none h1, List.getElem?_eq_none h2]
theorem ix_of {l : List Int} {i : Nat} (h : i < l.length) : ix l i = l[i] := by simp [ix, List.getD, h]
theorem flt_ix {p : Nat → Bool} {k i : Nat} (h : i < (flt p k).length) : ∃ t : Nat, t < k ∧ p t = true ∧ ix (flt p k) i = (t : Int) := by
  rw [ix_of h]
  exact mem_flt.1 (List.getElem_mem h)
/-- They rise. -/
theorem flt_rise {p : Nat → Bool} {k : Nat} : ∀ {i j : Nat}, i < j → j < (flt p k).length → ix (flt p k) i < ix (flt p k) j := by
  intro i j hij hj
  have hs : (flt p k).Pairwise (· < ·) := by
    unfold flt
    rw [List.pairwise_map]
    refine List.Pairwise.imp ?_ (List.Pairwise.filter p (List.pairwise_lt_range (n := k)))
    intro a b h
    omega
  rw [ix_of hj, ix_of (by omega)]
  exact List.pairwise_iff_getElem.1 hs i j (by omega) hj hij
/-- Two pieces have a field in common. -/
def MeetP (C : Nat) (W H : Int) (t : Nat) (W' H' : Int) (u : Nat) : Prop :=
  ((t % C : Nat) : Int) < ((u % C : Nat) : Int) + W' ∧ ((u % C : Nat) : Int) < ((t % C : Nat) : Int) + W ∧ ((t / C : Nat) : Int) < ((u / C : Nat) : Int) + H' ∧ ((u / C : Nat) : Int) < ((t / C : Nat) : Int) + H
/-- Piece i makes a plan faulty. -/
def WrongP (n C : Nat) (q : Nat → Nat → Int) (g p : Nat → Int) (i : Nat) : Prop :=
  0 ≤ p i ∧ (¬ FitP n C q (g (i * 4)) (g (i * 4 + 1)) (g (i * 4 + 2)) (p i).toNat ∨ ∃ j, j < i ∧ 0 ≤ p j ∧ MeetP C (g (i * 4)) (g (i * 4 + 1)) (p i).toNat (g (j * 4)) (g (j * 4 + 1)) (p j).toNat)
/-- A plan's numbers are fields or -1. -/
def FieldsP (n C m : Nat) (p : Nat → Int) : Prop := ∀ i, i < m → Ba.inB (p i) (-1) ((n : Int) * (C : Int) - 1) = true
open Classical in
/-- The code of a hide, pieces and a plan. -/
noncomputable def plC (n : Nat) (f : Nat → ByteArray) (k : Nat) (g : Nat → Int) (m : Nat) (p : Nat → Int) : Int :=
  if ¬ (HideP n f ∧ CutsP k g) then 1 else if FieldsP n (f 0).size m p ∧ m = k then 0 else 2
theorem plc_ok {n : Nat} {f : Nat → ByteArray} {k : Nat} {g : Nat → Int} {m : Nat} {p : Nat → Int} (h : plC n f k g m p = 0) : HideP n f ∧ CutsP k g ∧ FieldsP n (f 0).size m p ∧ m = k := by
  unfold plC at h
  split at h
  · cases h
  · rename_i h1
    split at h
    · rename_i h2
      have := Classical.not_not.1 h1
      exact ⟨this.1, this.2, h2.1, h2.2⟩
    · cases h
end Go.Proofs.Ytongfgikkcieaaa.Hd
