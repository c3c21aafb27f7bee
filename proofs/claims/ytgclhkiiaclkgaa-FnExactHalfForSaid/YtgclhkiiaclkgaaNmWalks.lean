/- The walks of both IsName: each answers whether the text is a name; the law's walk. -/
import Derived.Test.YtgclhkiiaclkgaaRows
import Derived.WalkKit
import Derived.Below
import Derived.Laws.RangeAny
import Derived.Lib.Hide
import Derived.LoopTactic
namespace Go.Proofs.Ytgclhkiiaclkgaa.Nm
open Go.RowKit

/-- A small letter. -/
def smB (c : Int) : Bool := decide (97 ≤ c ∧ c ≤ 122)
/-- A digit. -/
def dgB (c : Int) : Bool := decide (48 ≤ c ∧ c ≤ 57)
/-- The byte at i as a number. -/
def byt (s : ByteArray) (i : Nat) : Int := if h : i < s.size then ((s[i]'h).toNat : Int) else 0
theorem byt_of (s : ByteArray) (i : Nat) (h : i < s.size) : byt s i = ((s[i]'h).toNat : Int) := by simp [byt, h]
/-- A byte that a name may have. -/
def okB (c : Int) : Bool := smB c || (dgB c || !(c != 45))
/-- A text that is a name. -/
def IsNm (s : ByteArray) : Prop := 1 ≤ s.size ∧ s.size ≤ 12 ∧ smB (byt s 0) = true ∧ ∀ j, j < s.size → okB (byt s j) = true
def Tells (P : Prop) (w : World) (e : Ending) (w' : World) : Prop := ∃ b : Bool, e = .returned (.bool b) ∧ (b = true ↔ P) ∧ Below w.heap.size w w'
theorem tells_yes {P : Prop} {w w' : World} (h : P) (hb : Below w.heap.size w w') : Tells P w (.returned (.bool true)) w' := ⟨true, rfl, by simp [h], hb⟩
theorem tells_no {P : Prop} {w w' : World} (h : ¬ P) (hb : Below w.heap.size w w') : Tells P w (.returned (.bool false)) w' := ⟨false, rfl, by simp [h], hb⟩

theorem small_u8 (c : Int) (w : World) : Calls Try.prog 100 #[.int .u8 c] w fun e w' => e = .returned (.bool (smB c)) ∧ w = w' := by
  by_cases h1 : 97 ≤ c <;> by_cases h2 : c ≤ 122
  all_goals
    go_enter Try.func100, Try.ntmps100
    go_wp2
    go_ret
    exact ⟨by simp [smB, h1, h2], rfl⟩
theorem digit_u8 (c : Int) (w : World) : Calls Try.prog 101 #[.int .u8 c] w fun e w' => e = .returned (.bool (dgB c)) ∧ w = w' := by
  by_cases h1 : 48 ≤ c <;> by_cases h2 : c ≤ 57
  all_goals
    go_enter Try.func101, Try.ntmps101
    go_wp2
    go_ret
    exact ⟨by simp [dgB, h1, h2], rfl⟩
theorem small_i32 (c : Int) (w : World) : Calls Try.prog 96 #[.int .i32 c] w fun e w' => e = .returned (.bool (smB c)) ∧ w = w' := by
  by_cases h1 : 97 ≤ c <;> by_cases h2 : c ≤ 122
  all_goals
    go_enter Try.func96, Try.ntmps96
    go_wp2
    go_ret
    exact ⟨by simp [smB, h1, h2], rfl⟩
theorem digit_i32 (c : Int) (w : World) : Calls Try.prog 97 #[.int .i32 c] w fun e w' => e = .returned (.bool (dgB c || c == 45)) ∧ w = w' := by
  by_cases h3 : c = 45
  · subst h3
    go_enter Try.func97, Try.ntmps97
    go_wp2
    go_ret
    exact ⟨by simp, rfl⟩
  by_cases h1 : 48 ≤ c <;> by_cases h2 : c ≤ 57
  all_goals
    have h4 : (c == 45) = false := by simpa using h3
    go_enter Try.func97, Try.ntmps97
    go_wp2
    go_ret
    exact ⟨by simp [dgB, h1, h2, h4], rfl⟩

theorem nil_of_size (s : ByteArray) (h : s.size = 0) : s.toList = [] := by
  rw [ByteArray.toList_eq]
  exact List.eq_nil_of_length_eq_zero (by simpa using h)
theorem cons_of_size (s : ByteArray) (h : ¬ s.size = 0) : s.toList.isEmpty = false := by
  rw [ByteArray.toList_eq]
  cases hl : s.data.toList with
  | nil => exact absurd (by simpa using congrArg List.length hl) h
  | cons a l => rfl
theorem not_short {s : ByteArray} (h : s.size < 1) : ¬ IsNm s := fun e => by have := e.1; omega
theorem not_long {s : ByteArray} (h : 12 < s.size) : ¬ IsNm s := fun e => by have := e.2.1; omega
theorem not_first {s : ByteArray} (h : smB (byt s 0) = false) : ¬ IsNm s := fun e => by rw [e.2.2.1] at h; cases h
theorem not_at {s : ByteArray} {k : Nat} (hk : k < s.size) (h : okB (byt s k) = false) : ¬ IsNm s := fun e => by rw [e.2.2.2 k hk] at h; cases h

theorem step_all {p : Nat → Bool} {k : Nat} (h : ∀ j, j < k → p j = true) (hk : p k = true) : ∀ j, j < k + 1 → p j = true := fun j hj => by
  by_cases e : j = k
  · rw [e]; exact hk
  · exact h j (by omega)

/-- The spec's IsName. -/
theorem spec_is (s : ByteArray) (w : World) (hs : s.size ≤ maxLen) : Calls Try.prog 95 #[.string s] w (Tells (IsNm s) w) := by
  unfold maxLen at hs
  by_cases h0 : s.size = 0
  · have he : s.toList = [] := nil_of_size s h0
    go_enter Try.func95, Try.ntmps95
    go_wp2_with fail
    go_ret
    exact tells_no (not_short (by omega)) (Below.refl _ _)
  · have hne : s.toList.isEmpty = false := cons_of_size s h0
    by_cases h12 : s.size ≤ 12
    · have hp : 0 < s.size := by omega
      have HB0 := Lib.hid (byt_of s 0 hp)
      by_cases hsm : smB ((s[0]'hp).toNat : Int) = true
      · have HS := Lib.hid hsm
        go_enter Try.func95, Try.ntmps95
        go_wp2_with (go_at_call 100; refine (small_u8 _ _).mono ?_; rintro e w' ⟨rfl, rfl⟩)
        clear hsm
        go_loop [3] (fun i => ∃ k : Nat, k ≤ s.size ∧ i = .int .i64 k ∧ Hid (∀ j, j < k → okB (byt s j) = true)) (fun i => s.size - (intOf i).toNat)
        case atStart => exact ⟨0, Nat.zero_le _, rfl, Lib.hid fun j hj => by omega⟩
        case round =>
          obtain ⟨k, hk, rfl, hall⟩ := hrel
          by_cases hlt : k < s.size
          · have hbk := Lib.hid (byt_of s k hlt)
            cases c1 : smB ((s[k]'hlt).toNat : Int) <;> cases c2 : dgB ((s[k]'hlt).toNat : Int) <;> cases c3 : (((s[k]'hlt).toNat : Int) != 45)
            all_goals
              go_wp2_with (first | (go_at_call 100; refine (small_u8 _ _).mono ?_; rintro e w' ⟨rfl, rfl⟩) | (go_at_call 101; refine (digit_u8 _ _).mono ?_; rintro e w' ⟨rfl, rfl⟩))
            all_goals first
              | (go_ret; exact tells_no (not_at hlt (by rw [hbk.out]; simp [okB, c1, c2, c3])) (Below.refl _ _))
              | (go_round
                 case rel => exact ⟨k + 1, by omega, by go_num, Lib.hid (step_all hall.out (by rw [hbk.out]; simp [okB, c1, c2, c3]))⟩
                 case measure => simp [intOf]; omega)
          · have hfin : IsNm s := ⟨by omega, h12, by rw [HB0.out]; exact HS.out, fun j hj => hall.out j (by omega)⟩
            have HF := Lib.hid hfin
            clear hfin
            go_wp2_with fail
            go_ret
            exact tells_yes HF.out (Below.refl _ _)
      · have hsm' : smB ((s[0]'hp).toNat : Int) = false := by simpa using hsm
        clear hsm
        go_enter Try.func95, Try.ntmps95
        go_wp2_with (go_at_call 100; refine (small_u8 _ _).mono ?_; rintro e w' ⟨rfl, rfl⟩)
        go_ret
        exact tells_no (not_first (by rw [HB0.out]; exact hsm')) (Below.refl _ _)
    · go_enter Try.func95, Try.ntmps95
      go_wp2_with fail
      go_ret
      exact tells_no (not_long (by omega)) (Below.refl _ _)

theorem width_pos (s : ByteArray) (pos : Nat) (h : pos < s.size) : 1 ≤ (Utf8.decode s pos).2 := by
  by_cases ha : (s[pos]'h).toNat < 128
  · rw [decode_ascii s pos h ha]
    exact Nat.le_refl _
  · exact (decode_high s pos h (by omega)).2
theorem high_no {c : Int} (h : 128 ≤ c) : smB c = false ∧ dgB c = false ∧ okB c = false ∧ (c == 45) = false := by
  have h1 : smB c = false := by unfold smB; simp; omega
  have h2 : dgB c = false := by unfold dgB; simp; omega
  have h3 : c ≠ 45 := by omega
  exact ⟨h1, h2, by simp [okB, h1, h2, h3], by simp [h3]⟩

/-- The program's IsName. -/
theorem impl_is (s : ByteArray) (w : World) (hs : s.size ≤ maxLen) : Calls Try.prog 90 #[.string s] w (Tells (IsNm s) w) := by
  unfold maxLen at hs
  by_cases h0 : s.size < 1
  · go_enter Try.func90, Try.ntmps90
    go_wp2_with fail
    go_ret
    exact tells_no (not_short h0) (Below.refl _ _)
  by_cases h12 : s.size ≤ 12
  · have hge : 1 ≤ s.size := by omega
    clear h0
    go_enter Try.func90, Try.ntmps90
    go_wp2_with fail
    go_loopw [3, 4] (fun _ _ wr => ∃ k : Nat, k ≤ s.size ∧ wr = w.iter s k ∧ Hid (0 < k → smB (byt s 0) = true) ∧ Hid (∀ j, j < k → okB (byt s j) = true)) (fun _ _ wr => s.size - wr.iterPos w.heap.size)
    case atStart => exact ⟨0, Nat.zero_le _, rfl, Lib.hid fun h => by omega, Lib.hid fun j hj => by omega⟩
    case round =>
      obtain ⟨k, hk, rfl, hfst, hall⟩ := hrel
      by_cases hlt : k < s.size
      · have hbk := Lib.hid (byt_of s k hlt)
        by_cases ha : (s[k]'hlt).toNat < 128
        · have hnx : ∀ ty, (Instr.next (.pointer (some ⟨w.heap.size, 0, none⟩)) true ty).run Try.prog (w.iter s k) = _ := fun ty => run_next_ascii w s k ty hlt ha
          by_cases hk0 : k = 0
          · subst hk0
            cases c1 : smB ((s[0]'hlt).toNat : Int)
            all_goals
              go_wp2_with (first | (go_at_call 96; refine (small_i32 _ _).mono ?_; rintro e w' ⟨rfl, rfl⟩) | (go_at_call 97; refine (digit_i32 _ _).mono ?_; rintro e w' ⟨rfl, rfl⟩))
            · go_ret
              exact tells_no (not_first (by rw [hbk.out]; exact c1)) ((Below.refl _ _).alloc (Nat.le_refl _) _)
            · go_roundw
              case rel => exact ⟨1, by omega, rfl, Lib.hid fun _ => by rw [hbk.out]; exact c1, Lib.hid (step_all hall.out (by rw [hbk.out]; simp [okB, c1]))⟩
              case measure => simp; omega
          · have hk1 : ((k : Int) == 0) = false := by simpa using hk0
            clear hk0
            cases c1 : smB ((s[k]'hlt).toNat : Int) <;> cases c2 : dgB ((s[k]'hlt).toNat : Int) <;> cases c3 : (((s[k]'hlt).toNat : Int) == 45)
            all_goals
              go_wp2_with (first | (go_at_call 96; refine (small_i32 _ _).mono ?_; rintro e w' ⟨rfl, rfl⟩) | (go_at_call 97; refine (digit_i32 _ _).mono ?_; rintro e w' ⟨rfl, rfl⟩))
            all_goals have c4 : (((s[k]'hlt).toNat : Int) != 45) = !(((s[k]'hlt).toNat : Int) == 45) := rfl
            all_goals first
              | (go_ret; exact tells_no (not_at hlt (by rw [hbk.out]; simp only [okB, c1, c2, c4, c3]; rfl)) ((Below.refl _ _).alloc (Nat.le_refl _) _))
              | (go_roundw
                 case rel => exact ⟨k + 1, by omega, rfl, Lib.hid fun _ => hfst.out (by have : ¬ k = 0 := by simpa using hk1
                                                                                        omega), Lib.hid (step_all hall.out (by rw [hbk.out]; simp only [okB, c1, c2, c4, c3]; rfl))⟩
                 case measure => simp; omega)
        · have hnx : ∀ ty, (Instr.next (.pointer (some ⟨w.heap.size, 0, none⟩)) true ty).run Try.prog (w.iter s k) = _ := fun ty => run_next_any w s k ty hlt
          have hd := (decode_high s k hlt (by omega)).1
          have hno : okB (byt s k) = false := by rw [hbk.out]; exact (high_no (by omega)).2.2.1
          have HN := Lib.hid (not_at hlt hno)
          generalize Utf8.decode s k = d at *
          obtain ⟨c1, c2, _, c3⟩ := high_no (c := (d.1 : Int)) (by omega)
          have c5 : (dgB (d.1 : Int) || (d.1 : Int) == 45) = false := by rw [c2, c3]; rfl
          clear hno hbk
          by_cases hk0 : k = 0
          · subst hk0
            go_wp2_with (first | (go_at_call 96; refine (small_i32 _ _).mono ?_; rintro e w' ⟨rfl, rfl⟩) | (go_at_call 97; refine (digit_i32 _ _).mono ?_; rintro e w' ⟨rfl, rfl⟩))
            go_ret
            exact tells_no HN.out ((Below.refl _ _).alloc (Nat.le_refl _) _)
          · have hk1 : ((k : Int) == 0) = false := by simpa using hk0
            clear hk0
            go_wp2_with (first | (go_at_call 96; refine (small_i32 _ _).mono ?_; rintro e w' ⟨rfl, rfl⟩) | (go_at_call 97; refine (digit_i32 _ _).mono ?_; rintro e w' ⟨rfl, rfl⟩))
            go_ret
            exact tells_no HN.out ((Below.refl _ _).alloc (Nat.le_refl _) _)
      · have hnx : ∀ ty, (Instr.next (.pointer (some ⟨w.heap.size, 0, none⟩)) true ty).run Try.prog (w.iter s k) = _ := fun ty => run_next_end w s k ty hlt
        have HF := Lib.hid (show IsNm s from ⟨hge, h12, hfst.out (by omega), fun j hj => hall.out j (by omega)⟩)
        go_wp2_with fail
        go_ret
        exact tells_yes HF.out ((Below.refl _ _).alloc (Nat.le_refl _) _)
  · go_enter Try.func90, Try.ntmps90
    go_wp2_with fail
    go_ret
    exact tells_no (not_long (by omega)) (Below.refl _ _)

theorem tells_true {P : Prop} (h : P) {w w' : World} {e : Ending} (t : Tells P w e w') : e = .returned (.bool true) ∧ Below w.heap.size w w' := by
  obtain ⟨b, rfl, hb, hw⟩ := t
  cases b
  · exact absurd (hb.2 h) (by simp)
  · exact ⟨rfl, hw⟩
theorem tells_false {P : Prop} (h : ¬ P) {w w' : World} {e : Ending} (t : Tells P w e w') : e = .returned (.bool false) ∧ Below w.heap.size w w' := by
  obtain ⟨b, rfl, hb, hw⟩ := t
  cases b
  · exact ⟨rfl, hw⟩
  · exact absurd (hb.1 rfl) h

end Go.Proofs.Ytgclhkiiaclkgaa.Nm
