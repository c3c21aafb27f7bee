/- Fractions in lowest terms: both greatest common divisors, the spec's and the program's fraction. -/
import Derived.Test.YtggbdpamjjgakaaBaLib
import Derived.Test.YtggbdpamjjgakaaNhLib
import Derived.RegionTactic
import Derived.IntWalk
namespace Go.Proofs.Ytggbdpamjjgakaa.Fr
open Go.RowKit Ba Nh

theorem sgcd (a b : Int) (h : 0 ≤ a) (h' : 0 ≤ b) (hm : a ≤ 1000000000000000000) (hm' : b ≤ 1000000000000000000) (w : World) : Calls Try.prog 72 #[.int .i64 a, .int .i64 b] w fun e w' => e = .returned (.int .i64 (gc a b)) ∧ w = w' := by
  have HZ : Hid (gc a b = gc a b) := Lib.hid rfl
  generalize hg : gc a b = g at HZ ⊢
  have HG := Lib.hid hg
  clear HZ hg
  go_enter Try.func72, Try.ntmps72
  go_wp2_with fail
  go_loop [0, 1] (fun s t => ∃ x y : Int, 0 ≤ x ∧ 0 ≤ y ∧ x ≤ 1000000000000000000 ∧ y ≤ 1000000000000000000 ∧ s = .int .i64 x ∧ t = .int .i64 y ∧ Hid (gc x y = g)) (fun _ t => (intOf t).toNat)
  case atStart => exact ⟨a, b, h, h', hm, hm', rfl, rfl, HG⟩
  case round =>
    obtain ⟨x, y, hx, hy, hx', hy', rfl, rfl, HX⟩ := hrel
    by_cases hz : y = 0
    · subst hz
      have HE := Lib.hid ((gc_zero x hx).symm.trans HX.out)
      go_wp2_with fail
      go_ret
      exact ⟨ret_int HE.out, rfl⟩
    · have hne : (y != 0) = true := by simpa using hz
      have hpos : 0 < y := by omega
      have HN := Lib.hid ((gc_step hx hpos).trans HX.out)
      have b1 := Int.emod_nonneg x (show y ≠ 0 by omega)
      have b2 := Int.emod_lt_of_pos x hpos
      clear hz
      go_wp2_with fail
      go_round
      case rel => exact ⟨y, x % y, by omega, b1, hy', by omega, rfl, rfl, HN⟩
      case measure => simp [intOf]; omega
theorem icd (a b : Int) (h : 0 ≤ a) (h' : 0 ≤ b) (hm : a ≤ 1000000000000000000) (hm' : b ≤ 1000000000000000000) (w : World) : Calls Try.prog 88 #[.int .i64 a, .int .i64 b] w fun e w' => e = .returned (.int .i64 (gc a b)) ∧ Below w.heap.size w w' := by
  have HZ : Hid (gc a b = gc a b) := Lib.hid rfl
  generalize hg : gc a b = g at HZ ⊢
  have HG := Lib.hid hg
  clear HZ hg
  go_enter Try.func88, Try.ntmps88
  go_wp2_with fail
  go_loopw [0, 1] (fun s t wr => ∃ x y : Int, 0 ≤ x ∧ 0 ≤ y ∧ x ≤ 1000000000000000000 ∧ y ≤ 1000000000000000000 ∧ s = .int .i64 x ∧ t = .int .i64 y ∧ Hid (gc x y = g) ∧ Hid (Below w.heap.size w wr)) (fun _ t _ => (intOf t).toNat)
  case atStart => exact ⟨a, b, h, h', hm, hm', rfl, rfl, HG, Lib.hid (Below.refl _ _)⟩
  case round =>
    obtain ⟨x, y, hx, hy, hx', hy', rfl, rfl, HX, HB⟩ := hrel
    by_cases hz : y = 0
    · subst hz
      have HE := Lib.hid ((gc_zero x hx).symm.trans HX.out)
      go_wp2_with fail
      go_ret
      exact ⟨ret_int HE.out, HB.out⟩
    · have hne : (y != 0) = true := by simpa using hz
      have hne' : (y == 0) = false := by simpa using hz
      have hpos : 0 < y := by omega
      have HN := Lib.hid ((gc_step hx hpos).trans HX.out)
      have b1 := Int.emod_nonneg x (show y ≠ 0 by omega)
      have b2 := Int.emod_lt_of_pos x hpos
      clear hz
      go_wp2_with fail
      go_region
      all_goals
        have HQ := Lib.hid HB.out.drew
        go_wp2_with fail
        go_roundw
        case rel => exact ⟨y, x % y, by omega, b1, hy', by omega, rfl, rfl, HN, HQ⟩
        case measure => simp [intOf]; omega
theorem ssize (a : Int) (hm : -1000000000000000000 ≤ a) (w : World) : Calls Try.prog 49 #[.int .i64 a] w fun e w' => e = .returned (.int .i64 (ab a)) ∧ w = w' := by
  by_cases h : a < 0
  · have HE : Hid (ab a = -a) := Lib.hid (by unfold ab; rw [if_pos h])
    have n3 : -a ≤ 1000000000000000000 := by omega
    go_enter Try.func49, Try.ntmps49
    go_wp2
    go_ret
    exact ⟨ret_int (by rw [HE.out]), rfl⟩
  · have HE : Hid (ab a = a) := Lib.hid (by unfold ab; rw [if_neg h])
    go_enter Try.func49, Try.ntmps49
    go_wp2
    go_ret
    exact ⟨ret_int (by rw [HE.out]), rfl⟩
end Go.Proofs.Ytggbdpamjjgakaa.Fr
