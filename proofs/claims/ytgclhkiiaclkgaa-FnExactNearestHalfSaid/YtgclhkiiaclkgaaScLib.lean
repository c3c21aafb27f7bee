/- Scales: whether they are valid (spec and program), the law's copy of a scale. -/
import Derived.Test.YtgclhkiiaclkgaaBaLib
import Derived.Test.YtgclhkiiaclkgaaNhLib
import Derived.Test.YtgclhkiiaclkgaaNmWalks
import Derived.RegionTactic
import Derived.IntWalk
namespace Go.Proofs.Ytgclhkiiaclkgaa.Sc
open Go.RowKit Ba Nh Nm

instance (s : ByteArray) : Decidable (IsNm s) := by unfold IsNm; infer_instance
/-- A text that is a name. -/
def nmB (s : ByteArray) : Bool := decide (IsNm s)
theorem tells_nm {s : ByteArray} {w w' : World} {e : Ending} (t : Tells (IsNm s) w e w') : e = .returned (.bool (nmB s)) ∧ Below w.heap.size w w' := by
  obtain ⟨b, rfl, hb, hw⟩ := t
  refine ⟨?_, hw⟩
  by_cases h : IsNm s
  · rw [hb.2 h]; simp [nmB, h]
  · have : b = false := by cases b with
      | false => rfl
      | true => exact absurd (hb.1 rfl) h
    rw [this]; simp [nmB, h]
/-- A scale that is valid. -/
def scB (s : ByteArray) (b n d : Int) : Bool := nmB s && (inB b 0 100 && (inB n 1 1000 && inB d 1 100))
theorem sc_of {s : ByteArray} {b n d : Int} (v : scB s b n d = true) : 0 ≤ b ∧ b ≤ 100 ∧ 1 ≤ n ∧ n ≤ 1000 ∧ 1 ≤ d ∧ d ≤ 100 := by
  simp [scB, inB] at v; omega
/-- A scale as a value. -/
abbrev scV (s : ByteArray) (b n d : Int) : Value := .agg #[.string s, .int .i64 b, .int .i64 n, .int .i64 d]
theorem to_any (s : ByteArray) (b n d : Int) (w : World) : Calls Try.prog 43 #[.agg #[.string s, .int .i64 b, .int .i64 n, .int .i64 d]] w fun e w' => e = .returned (.agg #[.string s, .int .i64 b, .int .i64 n, .int .i64 d]) ∧ Below w.heap.size w w' := by
  go_enter Try.func43, Try.ntmps43
  go_wp2
  exact bodyPost_ret (v := .agg #[.string s, .int .i64 b, .int .i64 n, .int .i64 d]) (by simp [results, Try.results43, go_sem]) rfl ⟨rfl, by repeat (first | exact Below.refl _ _ | exact below_box _ _ | refine Below.setCell ?_ (by simp <;> omega) _ | refine Below.alloc ?_ (by simp <;> omega) _)⟩
/-- What is left of the measure behind a scale. -/
theorem size_yes (s : ByteArray) (b n d : Int) (k : Int) (h0 : s.size ≤ k) (h1 : k ≤ 1048576) (w : World) : Calls Try.prog 41 #[.agg #[.string s, .int .i64 b, .int .i64 n, .int .i64 d], .int .i64 k] w fun e w' => e = .returned (.int .i64 (k - s.size)) ∧ Below w.heap.size w w' := by
  have hk : 0 ≤ k - s.size := by omega
  go_enter Try.func41, Try.ntmps41
  go_wp2
  go_ret
  exact ⟨rfl, below_box _ _⟩
theorem size_no (s : ByteArray) (b n d : Int) (k : Int) (h0 : k < s.size) (h1 : 0 ≤ k) (h2 : s.size ≤ 9223372036854775807) (h3 : k ≤ 1048576) (w : World) : Calls Try.prog 41 #[.agg #[.string s, .int .i64 b, .int .i64 n, .int .i64 d], .int .i64 k] w fun e w' => e = .returned (.int .i64 (-1)) ∧ Below w.heap.size w w' := by
  have hk : k - s.size < 0 := by omega
  go_enter Try.func41, Try.ntmps41
  go_wp2
  go_ret
  exact ⟨rfl, below_box _ _⟩
theorem ok_any (s : ByteArray) (b n d : Int) (hs : s.size ≤ maxLen) (w : World) : Calls Try.prog 89 #[.agg #[.string s, .int .i64 b, .int .i64 n, .int .i64 d]] w fun e w' => e = .returned (.bool (scB s b n d)) ∧ Below w.heap.size w w' := by
  have C := Lib.hid fun w => (Nm.spec_is s w hs).mono fun _ _ t => tells_nm t
  clear hs
  cases c0 : nmB s <;> rw [c0] at C
  · go_enter Try.func89, Try.ntmps89
    go_wp2_with fail
    refine (C.out _).mono ?_
    rintro e w1 ⟨rfl, b1⟩
    go_wp2_with fail
    go_ret
    exact ⟨ret_bool (by unfold scB; rw [c0]; rfl), below_then (below_box _ _) b1⟩
  · cases c1 : inB b 0 100 <;> cases c2 : inB n 1 1000 <;> cases c3 : inB d 1 100
    all_goals
      go_enter Try.func89, Try.ntmps89
      go_wp2_with fail
      refine (C.out _).mono ?_
      rintro e w1 ⟨rfl, b1⟩
      obtain ⟨x0, x1, x2, x3⟩ := box4 b1
      have HB := Lib.hid (below_then (below_box _ _) b1)
      clear b1
      go_wp2_with (go_at_call 67; refine (in_any _ _ _ _).mono ?_; rintro e w' ⟨rfl, rfl⟩)
      go_ret
      exact ⟨ret_bool (by unfold scB; rw [c0, c1, c2, c3]; rfl), HB.out⟩
theorem impl_ok (s : ByteArray) (b n d : Int) (hs : s.size ≤ maxLen) (w : World) : Calls Try.prog 76 #[.agg #[.string s, .int .i64 b, .int .i64 n, .int .i64 d]] w fun e w' => e = .returned (.bool (scB s b n d)) ∧ Below w.heap.size w w' := by
  have C := Lib.hid fun w => (Nm.impl_is s w hs).mono fun _ _ t => tells_nm t
  clear hs
  cases c0 : nmB s <;> rw [c0] at C
  · go_enter Try.func76, Try.ntmps76
    go_wp2_with fail
    refine (C.out _).mono ?_
    rintro e w1 ⟨rfl, b1⟩
    go_wp2_with fail
    go_ret
    exact ⟨ret_bool (by unfold scB; rw [c0]; rfl), below_then (below_box _ _) b1⟩
  · cases c1 : inB b 0 100 <;> cases c2 : inB n 1 1000 <;> cases c3 : inB d 1 100
    all_goals
      go_enter Try.func76, Try.ntmps76
      go_wp2_with fail
      refine (C.out _).mono ?_
      rintro e w1 ⟨rfl, b1⟩
      obtain ⟨x0, x1, x2, x3⟩ := box4 b1
      have HB := Lib.hid (below_then (below_box _ _) b1)
      clear b1
      go_wp2_with (go_at_call 68; refine (within_any _ _ _ _).mono ?_; rintro e w' ⟨rfl, rfl⟩)
      go_ret
      exact ⟨ret_bool (by unfold scB; rw [c0, c1, c2, c3]; rfl), HB.out⟩
end Go.Proofs.Ytgclhkiiaclkgaa.Sc
