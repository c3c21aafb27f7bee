/- Blocks on a roll: the spec's valid blocks, the code of blocks and rows, HeightBound. -/
import Derived.Test.YtgclhkiiaclkgabBlkLib
import Derived.Test.YtgclhkiiaclkgabOwLib
import Derived.Test.YtgclhkiiaclkgabBaLib
namespace Go.Proofs.Ytgclhkiiaclkgab.Jr
set_option linter.unusedVariables false
open Go.RowKit Is Ge Qb
open Go.Proofs.Ytgclhkiiaclkgab.Ba (inB below_then below_box ret_bool)

theorem inb {n a b : Int} (h : inB n a b = true) : a ≤ n ∧ n ≤ b := by unfold inB at h; simpa using h
/-- Blocks that fit on a roll. -/
def blkB (roll w h : Int) : Bool := inB w 1 roll && inB h 1 5000
def BlP (roll : Int) (n : Nat) (g : Nat → Int) : Prop := (inB roll 1 5000 = true ∧ n ≤ 9) ∧ ∀ k, k < n → blkB roll (g (k * 2)) (g (k * 2 + 1)) = true
theorem blk_in {roll w h : Int} (e : blkB roll w h = true) : (1 ≤ w ∧ w ≤ roll) ∧ (1 ≤ h ∧ h ≤ 5000) := by
  unfold blkB at e
  simp only [Bool.and_eq_true] at e
  exact ⟨inb e.1, inb e.2⟩
theorem in_any (n a b : Int) (w : World) : Calls Try.prog 82 #[.int .i64 n, .int .i64 a, .int .i64 b] w fun e w' => e = .returned (.bool (inB n a b)) ∧ w = w' := Ba.in_any n a b w
theorem max_any (a b : Int) (w : World) : Calls Try.prog 72 #[.int .i64 a, .int .i64 b] w fun e w' => e = .returned (.int .i64 (max a b)) ∧ w = w' := by
  by_cases h : b < a
  · have HE : Hid (max a b = a) := Lib.hid (by omega)
    generalize max a b = r at HE ⊢
    go_enter Try.func72, Try.ntmps72
    go_wp2_with fail
    go_ret
    exact ⟨ret_int HE.out.symm, rfl⟩
  · have HE : Hid (max a b = b) := Lib.hid (by omega)
    generalize max a b = r at HE ⊢
    go_enter Try.func72, Try.ntmps72
    go_wp2_with fail
    go_ret
    exact ⟨ret_int HE.out.symm, rfl⟩
set_option maxHeartbeats 1000000 in
theorem spec_ok (A : Option Addr) (n c : Nat) (g : Nat → Int) (roll : Int) (hn : n ≤ 1048576) (w : World) (hA : Nums w w.heap.size A (n * 2) g) :
    Calls Try.prog 52 #[.slice A n c, .int .i64 roll] w fun e w' => e = .returned (.bool (tv (BlP roll n g))) ∧ w = w' := by
  have HA := Lib.hid hA
  have HN : Hid (∀ k, k < n → blkB roll (g (k * 2)) (g (k * 2 + 1)) = false → tv (BlP roll n g) = false) := Lib.hid fun k hk h => tv_no fun e => by rw [e.2 k hk] at h; cases h
  have H0 : Hid (inB roll 1 5000 = false → tv (BlP roll n g) = false) := Lib.hid fun h => tv_no fun e => by rw [e.1.1] at h; cases h
  have H9 : Hid (9 < n → tv (BlP roll n g) = false) := Lib.hid fun h => tv_no fun e => by have := e.1.2; omega
  have HY : Hid (inB roll 1 5000 = true → n ≤ 9 → (∀ k, k < n → blkB roll (g (k * 2)) (g (k * 2 + 1)) = true) → tv (BlP roll n g) = true) := Lib.hid fun h1 h2 h3 => tv_yes ⟨⟨h1, h2⟩, h3⟩
  have CR := Lib.hid (fun w => in_any roll 1 5000 w)
  generalize tv (BlP roll n g) = r at HN H0 H9 HY ⊢
  generalize inB roll 1 5000 = rb at CR H0 HY
  clear hA
  cases rb
  · have HF := Lib.hid (H0.out rfl)
    go_enter Try.func52, Try.ntmps52
    go_wp2_with (go_at_call 82; refine (CR.out _).mono ?_; rintro e w' ⟨rfl, rfl⟩)
    go_ret
    exact ⟨ret_bool HF.out.symm, rfl⟩
  by_cases h9 : 9 < n
  · have HF := Lib.hid (H9.out h9)
    have h9' : (9 : Int) < (n : Int) := by omega
    go_enter Try.func52, Try.ntmps52
    go_wp2_with (go_at_call 82; refine (CR.out _).mono ?_; rintro e w' ⟨rfl, rfl⟩)
    go_ret
    exact ⟨ret_bool HF.out.symm, rfl⟩
  have h9' : ¬ (9 : Int) < (n : Int) := by omega
  have HYY := Lib.hid (HY.out rfl (by omega))
  clear HY H9 H0
  go_enter Try.func52, Try.ntmps52
  go_wp2_with (go_at_call 82; refine (CR.out _).mono ?_; rintro e w' ⟨rfl, rfl⟩)
  clear CR
  go_loopw [5] (fun i wr => ∃ k : Nat, k ≤ n ∧ i = .int .i64 (k : Int) ∧ Hid (wr = w) ∧ Hid (∀ j, j < k → blkB roll (g (j * 2)) (g (j * 2 + 1)) = true)) (fun i _ => n - (intOf i).toNat)
  case atStart => exact ⟨0, Nat.zero_le _, rfl, Lib.hid rfl, Lib.hid fun j hj => by omega⟩
  case round =>
    obtain ⟨k, hk, rfl, HB, hall⟩ := hrel
    have e0 : (0 : Int) ≤ (k : Int) := Int.natCast_nonneg _
    by_cases hlt : k < n
    · obtain ⟨b, off, rfl, hb, hc⟩ := HA.out (by omega)
      obtain ⟨x0, x1⟩ := Blk.cells_at hc hlt
      rw [← HB.out] at x0 x1
      have HNk := Lib.hid (HN.out k hlt)
      have HS : Hid (blkB roll (g (k * 2)) (g (k * 2 + 1)) = true → ∀ j, j < k + 1 → blkB roll (g (j * 2)) (g (j * 2 + 1)) = true) := Lib.hid fun h j hj => by
        by_cases e : j = k
        · subst e; exact h
        · exact hall.out j (by omega)
      have e1 : (k : Int) < (n : Int) := by omega
      have hk1 : k + 1 ≤ n := by omega
      clear hc hk hall HYY HN
      generalize g (k * 2) = u0 at *
      generalize g (k * 2 + 1) = u1 at *
      have C0 := Lib.hid (fun w => in_any u0 1 roll w)
      have C1 := Lib.hid (fun w => in_any u1 1 5000 w)
      unfold blkB at HNk HS
      generalize inB u0 1 roll = q0 at *
      generalize inB u1 1 5000 = q1 at *
      cases q0 <;> cases q1
      case true.true =>
        have HD : Hid (∀ j, j < k + 1 → (inB (g (j * 2)) 1 roll && inB (g (j * 2 + 1)) 1 5000) = true) := Lib.hid (HS.out rfl)
        go_wp2_with (first | (go_at_call_of 82 u0; refine (C0.out _).mono ?_; rintro e w' ⟨rfl, rfl⟩) | (go_at_call_of 82 u1; refine (C1.out _).mono ?_; rintro e w' ⟨rfl, rfl⟩))
        go_roundw
        case rel => exact ⟨k + 1, hk1, by go_num, HB, HD⟩
        case measure => simp [intOf]; omega
      all_goals
        have HF := Lib.hid (HNk.out rfl)
        go_wp2_with (first | (go_at_call_of 82 u0; refine (C0.out _).mono ?_; rintro e w' ⟨rfl, rfl⟩) | (go_at_call_of 82 u1; refine (C1.out _).mono ?_; rintro e w' ⟨rfl, rfl⟩))
        go_ret
        exact ⟨ret_bool HF.out.symm, HB.out.symm⟩
    · obtain rfl : k = n := by omega
      have HF := Lib.hid (HYY.out hall.out)
      go_wp2_with fail
      go_ret
      exact ⟨ret_bool HF.out.symm, HB.out.symm⟩
theorem spec_vb (A : Option Addr) (n c : Nat) (g : Nat → Int) (roll : Int) (hn : n ≤ 1048576) (w : World) (hA : Nums w w.heap.size A (n * 2) g) :
    Calls Try.prog 16 #[.slice A n c, .int .i64 roll] w fun e w' => e = .returned (.bool (tv (BlP roll n g))) ∧ Below w.heap.size w w' := by
  have C := Lib.hid (spec_ok A n c g roll hn w hA)
  go_enter Try.func16, Try.ntmps16
  go_wp2_with fail
  refine C.out.mono ?_
  rintro e w1 ⟨rfl, rfl⟩
  go_wp2_with fail
  go_ret
  exact ⟨rfl, Below.refl _ _⟩
/-- The code of blocks and rows. -/
noncomputable def roC (roll : Int) (n : Nat) (g : Nat → Int) (m : Nat) (p : Nat → Int) : Int := if tv (BlP roll n g) = false then 1 else if tv ((∀ j, j < m → inB (p j) 0 8 = true) ∧ m = n) = false then 2 else 0
theorem ro_ok {roll : Int} {n : Nat} {g : Nat → Int} {m : Nat} {p : Nat → Int} (h : roC roll n g m p = 0) : BlP roll n g ∧ (∀ j, j < m → inB (p j) 0 8 = true) ∧ m = n := by
  unfold roC at h
  split at h
  · omega
  · split at h
    · omega
    · rename_i h1 h2
      exact ⟨tv_iff.1 (by simpa using h1), tv_iff.1 (by simpa using h2)⟩
set_option maxHeartbeats 1000000 in
theorem spec_ro (A : Option Addr) (n c : Nat) (g : Nat → Int) (roll : Int) (P : Option Addr) (m pc : Nat) (p : Nat → Int) (hn : n ≤ 1048576) (hm : m ≤ 1048576) (w : World) (hA : Nums w w.heap.size A (n * 2) g) (hP : Nums w w.heap.size P m p) :
    Calls Try.prog 58 #[.slice A n c, .int .i64 roll, .slice P m pc] w fun e w' => e = .returned (.int .i64 (roC roll n g m p)) ∧ w = w' := by
  have HP := Lib.hid hP
  have C := Lib.hid (spec_ok A n c g roll hn w hA)
  have H0 : Hid (tv (BlP roll n g) = false → roC roll n g m p = 1) := Lib.hid fun h => if_pos h
  have HN : Hid (tv (BlP roll n g) = true → ∀ j, j < m → inB (p j) 0 8 = false → roC roll n g m p = 2) := Lib.hid fun h j hj h2 => by
    unfold roC
    rw [if_neg (by rw [h]; simp), if_pos (tv_no fun e => by rw [e.1 j hj] at h2; cases h2)]
  have HE : Hid (tv (BlP roll n g) = true → ¬ m = n → roC roll n g m p = 2) := Lib.hid fun h h2 => by
    unfold roC
    rw [if_neg (by rw [h]; simp), if_pos (tv_no fun e => h2 e.2)]
  have HY : Hid (tv (BlP roll n g) = true → (∀ j, j < m → inB (p j) 0 8 = true) → m = n → roC roll n g m p = 0) := Lib.hid fun h h2 h3 => by
    unfold roC
    rw [if_neg (by rw [h]; simp), if_neg (by rw [tv_yes ⟨h2, h3⟩]; simp)]
  clear hA hP
  generalize tv (BlP roll n g) = ok at C H0 HN HE HY
  generalize roC roll n g m p = r at H0 HN HE HY ⊢
  go_enter Try.func58, Try.ntmps58
  go_wp2_with fail
  refine C.out.mono ?_
  rintro e w1 ⟨rfl, rfl⟩
  cases ok
  · have HF := Lib.hid (H0.out rfl)
    go_wp2_with fail
    go_ret
    exact ⟨ret_int HF.out.symm, rfl⟩
  have HN1 := Lib.hid (HN.out rfl)
  have HE1 := Lib.hid (HE.out rfl)
  have HY1 := Lib.hid (HY.out rfl)
  clear HN HE HY H0 C
  go_wp2_with fail
  go_loopw [7] (fun i wr => ∃ k : Nat, k ≤ m ∧ i = .int .i64 (k : Int) ∧ Hid (wr = w) ∧ Hid (∀ j, j < k → inB (p j) 0 8 = true)) (fun i _ => m - (intOf i).toNat)
  case atStart => exact ⟨0, Nat.zero_le _, rfl, Lib.hid rfl, Lib.hid fun j hj => by omega⟩
  case round =>
    obtain ⟨k, hk, rfl, HB, hall⟩ := hrel
    have e0 : (0 : Int) ≤ (k : Int) := Int.natCast_nonneg _
    by_cases hlt : k < m
    · obtain ⟨b, off, rfl, hb, hc⟩ := HP.out (by omega)
      have x0 := hc k hlt
      rw [← HB.out] at x0
      have HNk := Lib.hid (HN1.out k hlt)
      have HS : Hid (inB (p k) 0 8 = true → ∀ j, j < k + 1 → inB (p j) 0 8 = true) := Lib.hid fun h j hj => by
        by_cases e : j = k
        · subst e; exact h
        · exact hall.out j (by omega)
      have e1 : (k : Int) < (m : Int) := by omega
      have hk1 : k + 1 ≤ m := by omega
      have C0 := Lib.hid (fun w => in_any (p k) 0 8 w)
      clear hc hk hall HY1 HE1 HN1
      generalize inB (p k) 0 8 = q at *
      generalize p k = x at *
      cases q
      · have HF := Lib.hid (HNk.out rfl)
        go_wp2_with (go_at_call 82; refine (C0.out _).mono ?_; rintro e w' ⟨rfl, rfl⟩)
        go_ret
        exact ⟨ret_int HF.out.symm, HB.out.symm⟩
      · have HD := Lib.hid (HS.out rfl)
        go_wp2_with (go_at_call 82; refine (C0.out _).mono ?_; rintro e w' ⟨rfl, rfl⟩)
        go_roundw
        case rel => exact ⟨k + 1, hk1, by go_num, HB, HD⟩
        case measure => simp [intOf]; omega
    · obtain rfl : k = m := by omega
      by_cases hkn : k = n
      · have HF := Lib.hid (HY1.out hall.out hkn)
        have e2 : ((k : Int) != (n : Int)) = false := by simp; omega
        clear HN1 HE1 HY1 hall hkn
        go_wp2_with fail
        go_ret
        exact ⟨ret_int HF.out.symm, HB.out.symm⟩
      · have HF := Lib.hid (HE1.out hkn)
        have e2 : ((k : Int) != (n : Int)) = true := by simp; omega
        clear HN1 HE1 HY1 hall hkn
        go_wp2_with fail
        go_ret
        exact ⟨ret_int HF.out.symm, HB.out.symm⟩
end Go.Proofs.Ytgclhkiiaclkgab.Jr
