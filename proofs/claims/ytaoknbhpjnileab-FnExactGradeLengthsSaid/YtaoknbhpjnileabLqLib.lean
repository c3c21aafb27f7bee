/- Both functions that grade lengths to a sum. -/
import Derived.Test.YtaoknbhpjnileabLcLib
namespace Go.Proofs.Ytaoknbhpjnileab.Lq
open Go.RowKit Ft Is Ge Qb Fg Gm Le Lc

theorem sm_bd {n : Nat} {f : Nat → Int} (h : LenOk n f) : ∀ k, k ≤ n → (k : Int) ≤ sm f k ∧ sm f k ≤ 10000 * (k : Int)
  | 0, _ => by simp [sm]
  | k + 1, hk => by
    obtain ⟨a, b⟩ := sm_bd h k (by omega)
    obtain ⟨l1, l2⟩ := len_at h (show k < n by omega)
    simp only [sm]
    omega
/-- What the first k lengths get of the sum. -/
def G (f : Nat → Int) (n : Nat) (sum : Int) : Nat → Int
  | 0 => 0
  | k + 1 => fl (2 * (sum * sm f (k + 1)) + sm f n) (2 * sm f n)
/-- A length's share. -/
def gs (f : Nat → Int) (n : Nat) (sum : Int) (k : Nat) : Int := G f n sum (k + 1) - G f n sum k
/-- Lengths and a sum. -/
def GsOk (n : Nat) (f : Nat → Int) (sum : Int) : Prop := LenOk n f ∧ inB sum 1 1000000 = true
theorem prod_sum {n : Nat} {f : Nat → Int} {sum : Int} (h : GsOk n f sum) {k : Nat} (hk : k ≤ n) : 0 ≤ sum * sm f k ∧ sum * sm f k ≤ 200000000000 := by
  obtain ⟨a, b⟩ := sm_bd h.1 k hk
  obtain ⟨c, d⟩ := Lc.in_of h.2
  have h20 := h.1.1.2
  have e := Int.mul_nonneg (show 0 ≤ sum by omega) (show 0 ≤ sm f k by omega)
  have g := Int.mul_le_mul d (show sm f k ≤ 200000 by omega) (by omega) (by omega)
  omega
theorem fl_bd {a : Int} (b : Int) (h1 : -1000000000000000000 ≤ a) (h2 : a ≤ 1000000000000000000) : -1000000000000000001 ≤ fl a b ∧ fl a b ≤ 1000000000000000000 := by
  have h := tdiv_bd b h1 h2
  unfold fl
  split <;> omega
theorem G_bd {n : Nat} {f : Nat → Int} {sum : Int} (h : GsOk n f sum) {k : Nat} (hk : k ≤ n) : -1000000000000000001 ≤ G f n sum k ∧ G f n sum k ≤ 1000000000000000000 := by
  cases k with
  | zero => simp [G]
  | succ k =>
    obtain ⟨a, b⟩ := prod_sum h hk
    obtain ⟨c, d⟩ := sm_bd h.1 n (Nat.le_refl _)
    have h20 := h.1.1.2
    exact fl_bd _ (by omega) (by omega)
theorem sum_spec (A : Option Addr) (n c : Nat) (f : Nat → Int) (ho : LenOk n f) (w : World) (hA : Nums w w.heap.size A n f) : Calls Try.prog 94 #[.slice A n c] w fun e w' => e = .returned (.int .i64 (sm f n)) ∧ w = w' := by
  have HA := Lib.hid hA
  have HL := Lib.hid (fun k hk => sm_bd ho k hk)
  have HF := Lib.hid (fun i hi => len_at ho (i := i) hi)
  have h20 := ho.1.2
  clear hA ho
  go_enter Try.func94, Try.ntmps94
  go_wp2_with fail
  go_loop [3, 4] (fun s i => ∃ k : Nat, k ≤ n ∧ i = .int .i64 k ∧ s = .int .i64 (sm f k)) (fun _ i => n - (intOf i).toNat)
  case atStart => exact ⟨0, Nat.zero_le _, rfl, rfl⟩
  case round =>
    obtain ⟨k, hk, rfl, rfl⟩ := hrel
    by_cases hlt : k < n
    · obtain ⟨g, off, rfl, _, hc⟩ := HA.out (by omega)
      have x0 := hc k hlt
      obtain ⟨s1, s2⟩ := HL.out k hk
      obtain ⟨f1, f2⟩ := HF.out k hlt
      have HS : Hid (sm f (k + 1) = sm f k + f k) := Lib.hid rfl
      have e0 : (0 : Int) ≤ (k : Int) := Int.natCast_nonneg _
      have e1 : (k : Int) < (n : Int) := by omega
      clear hc
      have hws : IntKind.i64.wrap (sm f k + f k) = sm f k + f k := IntWalk.i64_in _ (by omega)
      generalize hS : sm f (k + 1) = S' at HS
      generalize sm f k = S at *
      generalize f k = u at *
      go_wp2_with fail
      all_goals (try go_quiet (fail))
      all_goals (try go_wp2_with fail)
      go_round
      case rel => exact ⟨k + 1, by omega, by go_num, by rw [hS, HS.out]⟩
      case measure => simp [intOf]; omega
    · obtain rfl : k = n := by omega
      go_wp2_with fail
      go_ret
      exact ⟨rfl, rfl⟩
theorem sum_impl (A : Option Addr) (n c : Nat) (f : Nat → Int) (ho : LenOk n f) (w : World) (hA : Nums w w.heap.size A n f) : Calls Try.prog 95 #[.slice A n c] w fun e w' => e = .returned (.int .i64 (sm f n)) ∧ w = w' := by
  have HA := Lib.hid hA
  have HL := Lib.hid (fun k hk => sm_bd ho k hk)
  have HF := Lib.hid (fun i hi => len_at ho (i := i) hi)
  have h20 := ho.1.2
  clear hA ho
  go_enter Try.func95, Try.ntmps95
  go_wp2_with fail
  go_loop [3, 8] (fun s i => ∃ k : Nat, k ≤ n ∧ i = .int .i64 k ∧ s = .int .i64 (sm f k)) (fun _ i => n - (intOf i).toNat)
  case atStart => exact ⟨0, Nat.zero_le _, rfl, rfl⟩
  case round =>
    obtain ⟨k, hk, rfl, rfl⟩ := hrel
    by_cases hlt : k < n
    · obtain ⟨g, off, rfl, _, hc⟩ := HA.out (by omega)
      have x0 := hc k hlt
      obtain ⟨s1, s2⟩ := HL.out k hk
      obtain ⟨f1, f2⟩ := HF.out k hlt
      have HS : Hid (sm f (k + 1) = sm f k + f k) := Lib.hid rfl
      have e0 : (0 : Int) ≤ (k : Int) := Int.natCast_nonneg _
      have e1 : (k : Int) < (n : Int) := by omega
      clear hc
      have hws : IntKind.i64.wrap (sm f k + f k) = sm f k + f k := IntWalk.i64_in _ (by omega)
      generalize hS : sm f (k + 1) = S' at HS
      generalize sm f k = S at *
      generalize f k = u at *
      go_wp2_with fail
      all_goals (try go_quiet (fail))
      all_goals (try go_wp2_with fail)
      go_round
      case rel => exact ⟨k + 1, by omega, by go_num, by rw [hS, HS.out]⟩
      case measure => simp [intOf]; omega
    · obtain rfl : k = n := by omega
      go_wp2_with fail
      go_ret
      exact ⟨rfl, rfl⟩
end Go.Proofs.Ytaoknbhpjnileab.Lq
