/- The greatest and the least of some numbers: slices.Max, slices.Min at []int64. -/
import Derived.Test.YtcnbnpeilkdfiaaDoorIsLib
namespace Go.Proofs.YtcnbnpeilkdfiaaDoor.Mx
open Go.RowKit Ft Is

/-- The greatest of the first k + 1 numbers. -/
def mxTo (f : Nat → Int) : Nat → Int
  | 0 => f 0
  | k + 1 => max (mxTo f k) (f (k + 1))
theorem max_ints (A : Option Addr) (n c : Nat) (f : Nat → Int) (hn : n ≤ 1048576) (h0 : 0 < n) (B : Nat) (w : World) (hA : Nums w B A n f) :
    Calls Tryd.prog 35 #[.slice A n c] w fun e w' => e = .returned (.int .i64 (mxTo f (n - 1))) ∧ w = w' := by
  obtain ⟨b, off, rfl, _, hc⟩ := hA h0
  have x0 : w.cell? ⟨b, off, none⟩ = some (.int .i64 (f 0)) := hc 0 h0
  have HC := Lib.hid hc
  have e1 : (0 : Int) < (n : Int) := by omega
  clear hc hA
  have HM0 : Hid (mxTo f 0 = f 0) := Lib.hid rfl
  have HMS : Hid (∀ k, mxTo f (k + 1) = max (mxTo f k) (f (k + 1))) := Lib.hid fun _ => rfl
  generalize mxTo f = M at HM0 HMS
  go_enter Tryd.func35, Tryd.ntmps35
  go_wp2_with fail
  clear x0
  go_loop [3, 4] (fun m i => ∃ k : Nat, k + 1 ≤ n ∧ i = .int .i64 ((k + 1 : Nat) : Int) ∧ m = .int .i64 (M k)) (fun _ i => n - (intOf i).toNat)
  case atStart => exact ⟨0, by omega, rfl, by rw [HM0.out]⟩
  case round =>
    obtain ⟨k, hk, rfl, rfl⟩ := hrel
    by_cases hlt : k + 1 < n
    · have x1 : w.cell? ⟨b, off + (k + 1), none⟩ = some (.int .i64 (f (k + 1))) := HC.out (k + 1) hlt
      have HS := Lib.hid (HMS.out k)
      generalize f (k + 1) = y at x1 HS
      generalize M k = m at HS ⊢
      by_cases hy : m < y
      · have HX : Hid (max m y = y) := Lib.hid (by omega)
        go_wp2_with fail
        go_round
        case rel => exact ⟨k + 1, by omega, by go_num, by rw [HS.out, HX.out]⟩
        case measure => simp [intOf]; omega
      · have HX : Hid (max m y = m) := Lib.hid (by omega)
        go_wp2_with fail
        go_round
        case rel => exact ⟨k + 1, by omega, by go_num, by rw [HS.out, HX.out]⟩
        case measure => simp [intOf]; omega
    · obtain rfl : n = k + 1 := by omega
      go_wp2_with fail
      go_ret
      exact ⟨rfl, rfl⟩

/-- The least of the first k + 1 numbers. -/
def mnTo (f : Nat → Int) : Nat → Int
  | 0 => f 0
  | k + 1 => min (mnTo f k) (f (k + 1))
theorem min_ints (A : Option Addr) (n c : Nat) (f : Nat → Int) (hn : n ≤ 1048576) (h0 : 0 < n) (B : Nat) (w : World) (hA : Nums w B A n f) :
    Calls Tryd.prog 36 #[.slice A n c] w fun e w' => e = .returned (.int .i64 (mnTo f (n - 1))) ∧ w = w' := by
  obtain ⟨b, off, rfl, _, hc⟩ := hA h0
  have x0 : w.cell? ⟨b, off, none⟩ = some (.int .i64 (f 0)) := hc 0 h0
  have HC := Lib.hid hc
  have e1 : (0 : Int) < (n : Int) := by omega
  clear hc hA
  have HM0 : Hid (mnTo f 0 = f 0) := Lib.hid rfl
  have HMS : Hid (∀ k, mnTo f (k + 1) = min (mnTo f k) (f (k + 1))) := Lib.hid fun _ => rfl
  generalize mnTo f = M at HM0 HMS
  go_enter Tryd.func36, Tryd.ntmps36
  go_wp2_with fail
  clear x0
  go_loop [3, 4] (fun m i => ∃ k : Nat, k + 1 ≤ n ∧ i = .int .i64 ((k + 1 : Nat) : Int) ∧ m = .int .i64 (M k)) (fun _ i => n - (intOf i).toNat)
  case atStart => exact ⟨0, by omega, rfl, by rw [HM0.out]⟩
  case round =>
    obtain ⟨k, hk, rfl, rfl⟩ := hrel
    by_cases hlt : k + 1 < n
    · have x1 : w.cell? ⟨b, off + (k + 1), none⟩ = some (.int .i64 (f (k + 1))) := HC.out (k + 1) hlt
      have HS := Lib.hid (HMS.out k)
      generalize f (k + 1) = y at x1 HS
      generalize M k = m at HS ⊢
      by_cases hy : y < m
      · have HX : Hid (min m y = y) := Lib.hid (by omega)
        go_wp2_with fail
        go_round
        case rel => exact ⟨k + 1, by omega, by go_num, by rw [HS.out, HX.out]⟩
        case measure => simp [intOf]; omega
      · have HX : Hid (min m y = m) := Lib.hid (by omega)
        go_wp2_with fail
        go_round
        case rel => exact ⟨k + 1, by omega, by go_num, by rw [HS.out, HX.out]⟩
        case measure => simp [intOf]; omega
    · obtain rfl : n = k + 1 := by omega
      go_wp2_with fail
      go_ret
      exact ⟨rfl, rfl⟩
end Go.Proofs.YtcnbnpeilkdfiaaDoor.Mx
