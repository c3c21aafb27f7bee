/- Widths: whether they are valid, the girth of a width, the first width that is wide enough (spec and program). -/
import Derived.Test.YtcmjbpjeiaifoabBaLib
import Derived.Test.YtcmjbpjeiaifoabNhLib
import Derived.RegionTactic
import Derived.IntWalk
namespace Go.Proofs.Ytcmjbpjeiaifoab.Wd
open Go.RowKit Ba Nh

/-- Widths that are valid. -/
def wdB (f h s c : Int) : Bool := inB f 1000 3000 && (inB h 0 50 && (inB s 1 200 && inB c 1 12))
theorem wd_of {f h s c : Int} (v : wdB f h s c = true) : 1000 ≤ f ∧ f ≤ 3000 ∧ 0 ≤ h ∧ h ≤ 50 ∧ 1 ≤ s ∧ s ≤ 200 ∧ 1 ≤ c ∧ c ≤ 12 := by
  simp [wdB, inB] at v; omega
theorem to_any (f h s c : Int) (w : World) : Calls Try.prog 31 #[.agg #[.int .i64 f, .int .i64 h, .int .i64 s, .int .i64 c]] w fun e w' => e = .returned (.agg #[.int .i64 f, .int .i64 h, .int .i64 s, .int .i64 c]) ∧ Below w.heap.size w w' := by
  go_enter Try.func31, Try.ntmps31
  go_wp2
  exact bodyPost_ret (v := .agg #[.int .i64 f, .int .i64 h, .int .i64 s, .int .i64 c]) (by simp [results, Try.results31, go_sem]) rfl ⟨rfl, by repeat (first | exact Below.refl _ _ | exact below_box _ _ | refine Below.setCell ?_ (by simp <;> omega) _ | refine Below.alloc ?_ (by simp <;> omega) _)⟩
theorem ok_any (f h s c : Int) (w : World) : Calls Try.prog 52 #[.agg #[.int .i64 f, .int .i64 h, .int .i64 s, .int .i64 c]] w fun e w' => e = .returned (.bool (wdB f h s c)) ∧ Below w.heap.size w w' := by
  cases c1 : inB f 1000 3000 <;> cases c2 : inB h 0 50 <;> cases c3 : inB s 1 200 <;> cases c4 : inB c 1 12
  all_goals
    go_enter Try.func52, Try.ntmps52
    go_wp2_with (go_at_call 51; refine (in_any _ _ _ _).mono ?_; rintro e w' ⟨rfl, rfl⟩)
    go_ret
    exact ⟨ret_bool (by unfold wdB; rw [c1, c2, c3, c4]; rfl), (Below.refl _ _).alloc (Nat.le_refl _) _⟩
theorem impl_ok (f h s c : Int) (w : World) : Calls Try.prog 32 #[.agg #[.int .i64 f, .int .i64 h, .int .i64 s, .int .i64 c]] w fun e w' => e = .returned (.bool (wdB f h s c)) ∧ Below w.heap.size w w' := by
  cases c1 : inB f 1000 3000 <;> cases c2 : inB h 0 50 <;> cases c3 : inB s 1 200 <;> cases c4 : inB c 1 12
  all_goals
    go_enter Try.func32, Try.ntmps32
    go_wp2_with (go_at_call 39; refine (within_any _ _ _ _).mono ?_; rintro e w' ⟨rfl, rfl⟩)
    go_ret
    exact ⟨ret_bool (by unfold wdB; rw [c1, c2, c3, c4]; rfl), (Below.refl _ _).alloc (Nat.le_refl _) _⟩
theorem spec_ok (f h s c : Int) (w : World) : Calls Try.prog 30 #[.agg #[.int .i64 f, .int .i64 h, .int .i64 s, .int .i64 c]] w fun e w' => e = .returned (.bool (wdB f h s c)) ∧ Below w.heap.size w w' := by
  go_enter Try.func30, Try.ntmps30
  go_wp2_with fail
  refine (ok_any _ _ _ _ _).mono ?_
  rintro e w1 ⟨rfl, b1⟩
  go_wp2_with fail
  go_ret
  exact ⟨rfl, below_then (below_box _ _) b1⟩
/-- The girth of a width. -/
def gir (f h s half k : Int) : Int := f + half * h + k * s
theorem gir_bd {f h s c half k : Int} (v : wdB f h s c = true) (hh : inB half 0 120 = true) (h0 : 0 ≤ k) (h1 : k ≤ 12) :
    0 ≤ half * h ∧ half * h ≤ 6000 ∧ 0 ≤ k * s ∧ k * s ≤ 2400 := by
  have hv := wd_of v
  have hb := in_of hh
  have a := Int.mul_nonneg (show 0 ≤ half by omega) (show 0 ≤ h by omega)
  have b := Int.mul_nonneg h0 (show 0 ≤ s by omega)
  have c1 := Int.mul_le_mul (show half ≤ 120 by omega) (show h ≤ 50 by omega) (by omega) (by omega)
  have c2 := Int.mul_le_mul h1 (show s ≤ 200 by omega) (by omega) (by omega)
  omega
end Go.Proofs.Ytcmjbpjeiaifoab.Wd
