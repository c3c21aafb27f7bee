/- SizeText: the spec's, the program's, the walk of the law. -/
import Derived.Test.YtcmjbpjeiaifoabDoorTbLib
import Derived.OpenShut
import Derived.Lib.ItoaLen
namespace Go.Proofs.YtcmjbpjeiaifoabDoor.Sz
open Go.RowKit Ba Go.Lib Dc Ds Tb
set_option linter.unusedVariables false

/-- The text of half sizes. -/
def szT (half : Int) : ByteArray := if inB half 0 120 then (if half % 2 = 1 then (⟨(itoa (half / 2)).toArray⟩ ++ ⟨#[46, 53]⟩ : ByteArray) else ⟨(itoa (half / 2)).toArray⟩) else ⟨#[]⟩
theorem spec_sz (half : Int) (w : World) : Calls Tryd.prog 9 #[.int .i64 half] w fun e w' => e = .returned (.string (szT half)) ∧ Below w.heap.size w w' := by
  cases r : inB half 0 120
  · have HE : Hid (szT half = ⟨#[]⟩) := Lib.hid (by unfold szT; rw [r]; rfl)
    go_enter Tryd.func9, Tryd.ntmps9
    go_wp2_with (go_at_call 13; refine (shalf_any _ _).mono ?_; rintro e w' ⟨rfl, rfl⟩)
    go_ret
    exact ⟨ret_str HE.out.symm, Below.refl _ _⟩
  · have hb := in_of r
    have D := Lib.hid fun w => dec_any (half / 2) (by omega) (by omega) w
    have HL : (itoa (half / 2)).toArray.size ≤ 21 := by have := itoa_length_le (half / 2) (by omega) (by omega); simpa using this
    have h1 : 0 ≤ half := by omega
    have h2 : half ≤ 120 := by omega
    have T : Hid (∀ w : World, Calls Tryd.prog 14 #[.int .i64 half] w fun e w' => e = .returned (.string (szT half)) ∧ Below w.heap.size w w') := by
      by_cases hodd : half % 2 = 1
      · have HE : Hid (szT half = ⟨(itoa (half / 2)).toArray⟩ ++ ⟨#[46, 53]⟩) := Lib.hid (by unfold szT; rw [r]; simp only [if_true]; rw [if_pos hodd])
        have hne : (half % 2 == 0) = false := by simp; omega
        generalize (itoa (half / 2)).toArray = s at D HE HL
        clear hodd r
        have HZ : (⟨s⟩ : ByteArray).size ≤ 21 := HL
        exact Lib.hid fun w => by
          go_enter Tryd.func14, Tryd.ntmps14
          go_wp2_with fail
          refine (D.out _).mono ?_
          rintro e w1 ⟨rfl, b1⟩
          go_wp2_with fail
          go_ret
          exact ⟨ret_str HE.out.symm, b1⟩
      · have HE : Hid (szT half = ⟨(itoa (half / 2)).toArray⟩) := Lib.hid (by unfold szT; rw [r]; simp only [if_true]; rw [if_neg hodd])
        have heq : (half % 2 == 0) = true := by simp; omega
        generalize (itoa (half / 2)).toArray = s at D HE HL
        clear hodd r
        have HZ : (⟨s⟩ : ByteArray).size ≤ 21 := HL
        exact Lib.hid fun w => by
          go_enter Tryd.func14, Tryd.ntmps14
          go_wp2_with fail
          refine (D.out _).mono ?_
          rintro e w1 ⟨rfl, b1⟩
          go_wp2_with fail
          go_ret
          exact ⟨ret_str HE.out.symm, b1⟩
    clear D
    generalize szT half = s at T ⊢
    go_enter Tryd.func9, Tryd.ntmps9
    go_wp2_with (go_at_call 13; refine (shalf_any _ _).mono ?_; rintro e w' ⟨rfl, rfl⟩)
    refine (T.out _).mono ?_
    rintro e w1 ⟨rfl, b1⟩
    go_wp2_with fail
    go_ret
    exact ⟨rfl, b1⟩
theorem impl_sz (half : Int) (w : World) (ht : Tab w) : Calls Tryd.prog 10 #[.int .i64 half] w fun e w' => e = .returned (.string (szT half)) ∧ Below w.heap.size w w' := by
  cases r : inB half 0 120
  · have HE : Hid (szT half = ⟨#[]⟩) := Lib.hid (by unfold szT; rw [r]; rfl)
    clear ht
    go_enter Tryd.func10, Tryd.ntmps10
    go_wp2_with (go_at_call 15; refine (half_any _ _).mono ?_; rintro e w' ⟨rfl, rfl⟩)
    go_ret
    exact ⟨ret_str HE.out.symm, Below.refl _ _⟩
  · have hb := in_of r
    have D := Lib.hid (idec (half / 2) (by omega) (by omega) w ht)
    have HL : (itoa (half / 2)).toArray.size ≤ 21 := by have := itoa_length_le (half / 2) (by omega) (by omega); simpa using this
    have h1 : 0 ≤ half := by omega
    have h2 : half ≤ 120 := by omega
    clear ht
    by_cases hodd : half % 2 = 1
    · have HE : Hid (szT half = ⟨(itoa (half / 2)).toArray⟩ ++ ⟨#[46, 53]⟩) := Lib.hid (by unfold szT; rw [r]; simp only [if_true]; rw [if_pos hodd])
      have hne : (half % 2 == 1) = true := by simpa using hodd
      generalize (itoa (half / 2)).toArray = s at D HE HL
      clear hodd hb
      have HZ : (⟨s⟩ : ByteArray).size ≤ 21 := HL
      go_enter Tryd.func10, Tryd.ntmps10
      go_wp2_with (go_at_call 15; refine (half_any _ _).mono ?_; rintro e w' ⟨rfl, rfl⟩)
      refine D.out.mono ?_
      rintro e w1 ⟨rfl, b1⟩
      go_wp2_with fail
      go_ret
      exact ⟨ret_str HE.out.symm, b1⟩
    · have HE : Hid (szT half = ⟨(itoa (half / 2)).toArray⟩) := Lib.hid (by unfold szT; rw [r]; simp only [if_true]; rw [if_neg hodd])
      have hne : (half % 2 == 1) = false := by simpa using hodd
      generalize (itoa (half / 2)).toArray = s at D HE HL
      clear hodd hb
      have HZ : (⟨s⟩ : ByteArray).size ≤ 21 := HL
      go_enter Tryd.func10, Tryd.ntmps10
      go_wp2_with (go_at_call 15; refine (half_any _ _).mono ?_; rintro e w' ⟨rfl, rfl⟩)
      refine D.out.mono ?_
      rintro e w1 ⟨rfl, b1⟩
      go_wp2_with fail
      go_ret
      exact ⟨ret_str HE.out.symm, b1⟩
theorem law (half : Int) (w : World) (ht : Tab w) (hw : (Lit.int .i64 half).wf = true) : Calls Tryd.prog 4 #[.int .i64 half] w fun e w' => e = .returned (.bool true) ∧ Below w.heap.size w w' := by
  have S := Lib.hid fun w => spec_sz half w
  have I := Lib.hid fun w ht => impl_sz half w ht
  have HT := Lib.hid ht
  generalize szT half = s at S I
  clear ht hw
  go_enter Tryd.func4, Tryd.ntmps4
  go_wp2_with fail
  refine (S.out _).mono ?_
  rintro e w1 ⟨rfl, b1⟩
  have HT1 := Lib.hid (HT.out.below b1)
  go_wp2_with fail
  refine (I.out _ HT1.out).mono ?_
  rintro e w2 ⟨rfl, b2⟩
  have HB := Lib.hid (below_then b1 b2)
  clear b1 b2
  go_wp2_with fail
  go_ret
  exact ⟨rfl, HB.out⟩
end Go.Proofs.YtcmjbpjeiaifoabDoor.Sz
