/- Lists of numbers between two others (the program's). -/
import Derived.Test.YtgclhkiiaclkgabGeLib
import Derived.Test.YtgclhkiiaclkgabIsLib
import Derived.Test.YtgclhkiiaclkgabQbLib
import Derived.Test.YtgclhkiiaclkgabBaLib
import Derived.RegionTactic
namespace Go.Proofs.Ytgclhkiiaclkgab.Ly
open Go.RowKit Ft Is Ge Qb

theorem within_any (n a b : Int) (w : World) : Calls Try.prog 54 #[.int .i64 n, .int .i64 a, .int .i64 b] w fun e w' => e = .returned (.bool (inB n a b)) ∧ w = w' := Ba.within_any n a b w
theorem in_of {n a b : Int} (h : inB n a b = true) : a ≤ n ∧ n ≤ b := Ba.in_of h
/-- All between two others. -/
def Al (lo hi : Int) (n : Nat) (d : Nat → Int) : Prop := ∀ i, i < n → inB (d i) lo hi = true
set_option maxRecDepth 100000 in
theorem are_any (lo hi : Int) (A : Option Addr) (n c : Nat) (d : Nat → Int) (hn : n ≤ 1048576) (w : World) (hA : Nums w w.heap.size A n d) :
    Calls Try.prog 83 #[.slice A n c, .int .i64 lo, .int .i64 hi] w fun e w' => e = .returned (.bool (tv (Al lo hi n d))) ∧ w = w' := by
  have HA := Lib.hid hA
  have HY : Hid (∀ k, k < n → inB (d k) lo hi = false → tv (Al lo hi n d) = false) := Lib.hid fun k hk h => tv_no fun e => by rw [e k hk] at h; cases h
  have HZ : Hid (Al lo hi n d → tv (Al lo hi n d) = true) := Lib.hid fun h => tv_yes h
  generalize tv (Al lo hi n d) = r at HY HZ ⊢
  clear hA
  go_enter Try.func83, Try.ntmps83
  go_wp2_with fail
  go_loop [8, 11] (fun _ i => ∃ k : Nat, k ≤ n ∧ i = .int .i64 k ∧ Hid (∀ j, j < k → inB (d j) lo hi = true)) (fun _ i => n - (intOf i).toNat)
  case atStart => exact ⟨0, Nat.zero_le _, rfl, Lib.hid fun j hj => by omega⟩
  case round =>
    obtain ⟨k, hk, rfl, hall⟩ := hrel
    by_cases hlt : k < n
    · obtain ⟨b, off, rfl, hb, hc⟩ := HA.out (by omega)
      have y0 : w.cell? ⟨b, off + k, none⟩ = some (.int .i64 (d k)) := hc k hlt
      have HNk := Lib.hid (HY.out k hlt)
      have HS := Lib.hid (fun h => step_all (p := fun j => inB (d j) lo hi) hall.out (k := k) h)
      have C := Lib.hid (fun w => within_any (d k) lo hi w)
      generalize inB (d k) lo hi = q at HNk HS C
      generalize d k = u at y0 C
      clear hc hk
      go_wp2_with fail
      refine (C.out _).mono ?_
      rintro e w' ⟨rfl, rfl⟩
      cases q
      · have HF := Lib.hid (HNk.out rfl)
        go_wp2_with fail
        go_ret
        exact ⟨Ba.ret_bool HF.out.symm, rfl⟩
      · have HD := Lib.hid (HS.out rfl)
        go_wp2_with fail
        go_round
        case rel => exact ⟨k + 1, by omega, by go_num, HD⟩
        case measure => simp [intOf]; omega
    · obtain rfl : k = n := by omega
      have HF := Lib.hid (HZ.out hall.out)
      go_wp2_with fail
      go_ret
      exact ⟨Ba.ret_bool HF.out.symm, rfl⟩
end Go.Proofs.Ytgclhkiiaclkgab.Ly
