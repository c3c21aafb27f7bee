/- Quotients of numbers that may be less than 0: rounded down, and in lowest terms. -/
import Derived.Test.YtpmmfalpcooenaaDoorFrLib
import Derived.Test.YtpmmfalpcooenaaDoorQbLib
namespace Go.Proofs.YtpmmfalpcooenaaDoor.Fg
open Go.RowKit Ba Nh Fr

/-- A quotient, rounded down; b is positive. -/
def fl (a b : Int) : Int := if a.tmod b < 0 then a.tdiv b - 1 else a.tdiv b
theorem tdiv_bd {a : Int} (b : Int) (h1 : -1000000000000000000 ≤ a) (h2 : a ≤ 1000000000000000000) : -1000000000000000000 ≤ a.tdiv b ∧ a.tdiv b ≤ 1000000000000000000 := by
  have h : (a.tdiv b).natAbs ≤ a.natAbs := by
    rw [Int.natAbs_tdiv]
    exact Nat.div_le_self _ _
  omega
theorem ifloor (a b : Int) (hb : 0 < b) (hb' : b ≤ 1000000000000000000) (h1 : -1000000000000000000 ≤ a) (h2 : a ≤ 1000000000000000000) (w : World) : Calls Tryd.prog 88 #[.int .i64 a, .int .i64 b] w fun e w' => e = .returned (.int .i64 (fl a b)) ∧ w = w' := by
  have hz : (b == 0) = false := by simp; omega
  have hn : ¬ b = 0 := by omega
  obtain ⟨q1, q2⟩ := tdiv_bd b h1 h2
  by_cases h : a.tmod b < 0
  · have HF : Hid (fl a b = a.tdiv b - 1) := Lib.hid (if_pos h)
    go_enter Tryd.func88, Tryd.ntmps88
    go_wp2_with fail
    go_ret
    exact ⟨by rw [HF.out]; rfl, rfl⟩
  · have HF : Hid (fl a b = a.tdiv b) := Lib.hid (if_neg h)
    go_enter Tryd.func88, Tryd.ntmps88
    go_wp2_with fail
    go_ret
    exact ⟨by rw [HF.out]; rfl, rfl⟩
theorem sfloor (a b : Int) (hb : 0 < b) (hb' : b ≤ 1000000000000000000) (h1 : -1000000000000000000 ≤ a) (h2 : a ≤ 1000000000000000000) (w : World) : Calls Tryd.prog 86 #[.int .i64 a, .int .i64 b] w fun e w' => e = .returned (.int .i64 (fl a b)) ∧ w = w' := by
  have hz : (b == 0) = false := by simp; omega
  have hn : ¬ b = 0 := by omega
  obtain ⟨q1, q2⟩ := tdiv_bd b h1 h2
  by_cases h : a.tmod b < 0
  · have HF : Hid (fl a b = a.tdiv b - 1) := Lib.hid (if_pos h)
    go_enter Tryd.func86, Tryd.ntmps86
    go_wp2_with fail
    go_ret
    exact ⟨by rw [HF.out]; rfl, rfl⟩
  · have HF : Hid (fl a b = a.tdiv b) := Lib.hid (if_neg h)
    go_enter Tryd.func86, Tryd.ntmps86
    go_wp2_with fail
    go_ret
    exact ⟨by rw [HF.out]; rfl, rfl⟩
theorem near_impl (a b : Int) (hb : 0 < b) (hb' : b ≤ 100000000000000000) (h1 : -100000000000000000 ≤ a) (h2 : a ≤ 100000000000000000) (w : World) : Calls Tryd.prog 60 #[.int .i64 a, .int .i64 b] w fun e w' => e = .returned (.int .i64 (fl (2 * a + b) (2 * b))) ∧ w = w' := by
  have C := Lib.hid (fun w => ifloor (2 * a + b) (2 * b) (by omega) (by omega) (by omega) (by omega) w)
  generalize fl (2 * a + b) (2 * b) = r at C ⊢
  go_enter Tryd.func60, Tryd.ntmps60
  go_wp2_with fail
  refine (C.out _).mono ?_
  rintro e w' ⟨rfl, rfl⟩
  go_wp2_with fail
  go_ret
  exact ⟨rfl, rfl⟩
theorem near_spec (a b : Int) (hb : 0 < b) (hb' : b ≤ 100000000000000000) (h1 : -100000000000000000 ≤ a) (h2 : a ≤ 100000000000000000) (w : World) : Calls Tryd.prog 58 #[.int .i64 a, .int .i64 b] w fun e w' => e = .returned (.int .i64 (fl (2 * a + b) (2 * b))) ∧ w = w' := by
  have C := Lib.hid (fun w => sfloor (2 * a + b) (2 * b) (by omega) (by omega) (by omega) (by omega) w)
  generalize fl (2 * a + b) (2 * b) = r at C ⊢
  go_enter Tryd.func58, Tryd.ntmps58
  go_wp2_with fail
  refine (C.out _).mono ?_
  rintro e w' ⟨rfl, rfl⟩
  go_wp2_with fail
  go_ret
  exact ⟨rfl, rfl⟩
theorem ab_neg {x : Int} (h : x < 0) : ab x = -x := by unfold ab; rw [if_pos h]
/-- A fraction in lowest terms. -/
def nm (a b : Int) : Int := if 0 ≤ a then a / gc a b else a.tdiv (gc (-a) b)
def dn (a b : Int) : Int := if 0 ≤ a then b / gc a b else b / gc (-a) b
end Go.Proofs.YtpmmfalpcooenaaDoor.Fg
