/- Numbers that increase (the program's). -/
import Derived.Test.YtpmmfalpcooenaaDoorAwLib
import Derived.RegionTactic
namespace Go.Proofs.YtpmmfalpcooenaaDoor.Ic
open Go.RowKit Ft Is Ge Qb

/-- Each number is greater than the one before it. -/
def Up (n : Nat) (d : Nat → Int) : Prop := ∀ i, i + 1 < n → d i < d (i + 1)
theorem up_step {d : Nat → Int} {k : Nat} (h : ∀ j, j + 1 < k + 1 → d j < d (j + 1)) (hk : d k < d (k + 1)) : ∀ j, j + 1 < k + 1 + 1 → d j < d (j + 1) := fun j hj => by
  by_cases e : j = k
  · rw [e]; exact hk
  · exact h j (by omega)
set_option maxRecDepth 100000 in
set_option maxHeartbeats 1000000 in
theorem inc_any (A : Option Addr) (n c : Nat) (d : Nat → Int) (hn : n ≤ 1048576) (w : World) (hA : Nums w w.heap.size A n d) :
    Calls Tryd.prog 101 #[.slice A n c] w fun e w' => e = .returned (.bool (tv (Up n d))) ∧ Below w.heap.size w w' := by
  have HA := Lib.hid hA
  have HN : Hid (∀ k, k + 1 < n → d (k + 1) ≤ d k → tv (Up n d) = false) := Lib.hid fun k hk h => tv_no fun e => by have := e k hk; omega
  have HY : Hid ((∀ j, j + 1 < n → d j < d (j + 1)) → tv (Up n d) = true) := Lib.hid fun h => tv_yes h
  generalize tv (Up n d) = r at HN HY ⊢
  clear hA
  go_enter Tryd.func101, Tryd.ntmps101
  go_wp2_with fail
  go_loopw [3] (fun i wr => ∃ k : Nat, i = .int .i64 ((k + 1 : Nat) : Int) ∧ (k ≤ n) ∧ Below w.heap.size w wr ∧ Hid (∀ j, j + 1 < k + 1 → j + 1 < n → d j < d (j + 1))) (fun i _ => n - (intOf i).toNat)
  case atStart => exact ⟨0, rfl, by omega, Below.refl _ _, Lib.hid fun j hj => by omega⟩
  case round =>
    obtain ⟨k, rfl, hk, hbel, hord⟩ := hrel
    have HB := Lib.hid hbel
    by_cases hlt : k + 1 < n
    · obtain ⟨b, off, rfl, hb, hc⟩ := (HA.out.below hbel (Nat.le_refl _)) (by omega)
      have x0 := hc (k + 1) hlt
      have y0 := hc k (by omega)
      have e0 : (0 : Int) ≤ ((k + 1 : Nat) : Int) := Int.natCast_nonneg _
      have e1 : ((k + 1 : Nat) : Int) < (n : Int) := by omega
      have e2 : ((k + 1 : Nat) : Int) - 1 = (k : Int) := by omega
      have e3 : (0 : Int) ≤ (k : Int) := by omega
      have e4 : (k : Int) < (n : Int) := by omega
      have HNk := Lib.hid (HN.out k hlt)
      clear hc hbel
      by_cases hq : d (k + 1) ≤ d k
      · have HF := Lib.hid (HNk.out hq)
        generalize d k = u at y0 hq
        generalize d (k + 1) = v at x0 hq
        go_wp2_with fail
        all_goals (try go_quiet (fail))
        all_goals (try go_wp2_with fail)
        go_ret
        exact ⟨Ba.ret_bool HF.out.symm, by first | exact HB.out | exact ⟨HB.out.os, HB.out.tape, HB.out.output, HB.out.size, HB.out.block⟩⟩
      · have HD : Hid (∀ j, j + 1 < k + 1 + 1 → j + 1 < n → d j < d (j + 1)) := Lib.hid fun j h1 h2 => up_step (fun j hj => hord.out j hj (by omega)) (by omega) j h1
        generalize d k = u at y0 hq
        generalize d (k + 1) = v at x0 hq
        go_wp2_with fail
        all_goals (try go_quiet (fail))
        all_goals (try go_wp2_with fail)
        go_roundw
        case rel => exact ⟨k + 1, by go_num, by omega, by first | exact HB.out | exact ⟨HB.out.os, HB.out.tape, HB.out.output, HB.out.size, HB.out.block⟩, HD⟩
        case measure => simp [intOf]; omega
    · have HF := Lib.hid (HY.out (fun j hj => hord.out j (by omega) hj))
      have e1 : ¬ ((k + 1 : Nat) : Int) < (n : Int) := by omega
      go_wp2_with fail
      go_ret
      exact ⟨Ba.ret_bool HF.out.symm, HB.out⟩
end Go.Proofs.YtpmmfalpcooenaaDoor.Ic
