/- Fractions in lowest terms: both greatest common divisors, the spec's and the program's fraction. -/
import Derived.Test.YtgclhkiiaclkgabBaLib
import Derived.Test.YtgclhkiiaclkgabNhLib
import Derived.RegionTactic
import Derived.IntWalk
namespace Go.Proofs.Ytgclhkiiaclkgab.Fr
open Go.RowKit Ba Nh

theorem sgcd (a b : Int) (h : 0 ≤ a) (h' : 0 ≤ b) (hm : a ≤ 1000000000000000000) (hm' : b ≤ 1000000000000000000) (w : World) : Calls Try.prog 93 #[.int .i64 a, .int .i64 b] w fun e w' => e = .returned (.int .i64 (gc a b)) ∧ w = w' := by
  have HZ : Hid (gc a b = gc a b) := Lib.hid rfl
  generalize hg : gc a b = g at HZ ⊢
  have HG := Lib.hid hg
  clear HZ hg
  go_enter Try.func93, Try.ntmps93
  go_wp2_with fail
  go_loop [0, 1] (fun s t => ∃ x y : Int, 0 ≤ x ∧ 0 ≤ y ∧ x ≤ 1000000000000000000 ∧ y ≤ 1000000000000000000 ∧ s = .int .i64 x ∧ t = .int .i64 y ∧ Hid (gc x y = g)) (fun _ t => (intOf t).toNat)
  case atStart => exact ⟨a, b, h, h', hm, hm', rfl, rfl, HG⟩
  case round =>
    obtain ⟨x, y, hx, hy, hx', hy', rfl, rfl, HX⟩ := hrel
    by_cases hz : y = 0
    · subst hz
      have HE := Lib.hid ((gc_zero x hx).symm.trans HX.out)
      go_wp2_with fail
      go_ret
      exact ⟨ret_int HE.out, rfl⟩
    · have hne : (y != 0) = true := by simpa using hz
      have hpos : 0 < y := by omega
      have HN := Lib.hid ((gc_step hx hpos).trans HX.out)
      have b1 := Int.emod_nonneg x (show y ≠ 0 by omega)
      have b2 := Int.emod_lt_of_pos x hpos
      clear hz
      go_wp2_with fail
      go_round
      case rel => exact ⟨y, x % y, by omega, b1, hy', by omega, rfl, rfl, HN⟩
      case measure => simp [intOf]; omega
theorem icd (a b : Int) (h : 0 ≤ a) (h' : 0 ≤ b) (hm : a ≤ 1000000000000000000) (hm' : b ≤ 1000000000000000000) (w : World) : Calls Try.prog 95 #[.int .i64 a, .int .i64 b] w fun e w' => e = .returned (.int .i64 (gc a b)) ∧ Below w.heap.size w w' := by
  have HZ : Hid (gc a b = gc a b) := Lib.hid rfl
  generalize hg : gc a b = g at HZ ⊢
  have HG := Lib.hid hg
  clear HZ hg
  go_enter Try.func95, Try.ntmps95
  go_wp2_with fail
  go_loopw [0, 1] (fun s t wr => ∃ x y : Int, 0 ≤ x ∧ 0 ≤ y ∧ x ≤ 1000000000000000000 ∧ y ≤ 1000000000000000000 ∧ s = .int .i64 x ∧ t = .int .i64 y ∧ Hid (gc x y = g) ∧ Hid (Below w.heap.size w wr)) (fun _ t _ => (intOf t).toNat)
  case atStart => exact ⟨a, b, h, h', hm, hm', rfl, rfl, HG, Lib.hid (Below.refl _ _)⟩
  case round =>
    obtain ⟨x, y, hx, hy, hx', hy', rfl, rfl, HX, HB⟩ := hrel
    by_cases hz : y = 0
    · subst hz
      have HE := Lib.hid ((gc_zero x hx).symm.trans HX.out)
      go_wp2_with fail
      go_ret
      exact ⟨ret_int HE.out, HB.out⟩
    · have hne : (y != 0) = true := by simpa using hz
      have hne' : (y == 0) = false := by simpa using hz
      have hpos : 0 < y := by omega
      have HN := Lib.hid ((gc_step hx hpos).trans HX.out)
      have b1 := Int.emod_nonneg x (show y ≠ 0 by omega)
      have b2 := Int.emod_lt_of_pos x hpos
      clear hz
      go_wp2_with fail
      go_region
      all_goals
        have HQ := Lib.hid HB.out.drew
        go_wp2_with fail
        go_roundw
        case rel => exact ⟨y, x % y, by omega, b1, hy', by omega, rfl, rfl, HN, HQ⟩
        case measure => simp [intOf]; omega
set_option maxHeartbeats 1000000 in
theorem low_any (a b : Int) (h : 0 ≤ a) (h' : 0 < b) (hm : a ≤ 1000000000000000000) (hm' : b ≤ 1000000000000000000) (w : World) : Calls Try.prog 75 #[.int .i64 a, .int .i64 b] w fun e w' => e = .returned (.agg #[.int .i64 (a / gc a b), .int .i64 (b / gc a b)]) ∧ Below w.heap.size w w' := by
  have hgp := gc_pos (num := a) h'
  have hgl := gc_le (num := a) h'
  have G := Lib.hid fun w => icd a b h (by omega) hm hm' w
  generalize gc a b = x at hgp hgl G ⊢
  have i1 : 0 ≤ a / x := Int.ediv_nonneg h (by omega)
  have i2 : 0 ≤ b / x := Int.ediv_nonneg (by omega) (by omega)
  have i3 : a / x ≤ a := Int.ediv_le_self _ h
  have i4 : b / x ≤ b := Int.ediv_le_self _ (by omega)
  have x0 : (x == 0) = false := by simp; omega
  have n1 : -a ≤ a := by omega
  have n2 : ¬ (a < -a) := by omega
  have n3 : -1000000000000000000 ≤ -a := by omega
  go_enter Try.func75, Try.ntmps75
  go_wp2_with fail
  refine (G.out _).mono ?_
  rintro e w3 ⟨rfl, b3⟩
  have k3 := Lib.hid (blk_keep b3 (blk_new w (.cells #[.int .i64 0, .int .i64 0] 42)))
  have HB3 := Lib.hid (below_then (below_box w (.cells #[.int .i64 0, .int .i64 0] 42)) b3)
  clear b3 G
  have z0 := blk_free k3.out 0
  have z1 := blk_free k3.out 1
  obtain ⟨c0, c1⟩ := blk2 k3.out
  have hb0 := lt_of_heap k3.out
  go_wp2_with fail
  go_region
  all_goals
    go_wp2_with fail
    exact bodyPost_ret (v := .agg #[.int .i64 (a / x), .int .i64 (b / x)]) (by simp [results, Try.results75, go_sem, c0, c1]) rfl ⟨rfl, by repeat (first | exact HB3.out | exact HB3.out.drew | refine Below.drew ?_ | refine Below.setCell ?_ (by simp) _)⟩
theorem ssize (a : Int) (hm : -1000000000000000000 ≤ a) (w : World) : Calls Try.prog 94 #[.int .i64 a] w fun e w' => e = .returned (.int .i64 (ab a)) ∧ w = w' := by
  by_cases h : a < 0
  · have HE : Hid (ab a = -a) := Lib.hid (by unfold ab; rw [if_pos h])
    have n3 : -a ≤ 1000000000000000000 := by omega
    go_enter Try.func94, Try.ntmps94
    go_wp2
    go_ret
    exact ⟨ret_int (by rw [HE.out]), rfl⟩
  · have HE : Hid (ab a = a) := Lib.hid (by unfold ab; rw [if_neg h])
    go_enter Try.func94, Try.ntmps94
    go_wp2
    go_ret
    exact ⟨ret_int (by rw [HE.out]), rfl⟩
set_option maxHeartbeats 1000000 in
theorem make_any (a b : Int) (h : 0 ≤ a) (h' : 0 < b) (hm : a ≤ 1000000000000000000) (hm' : b ≤ 1000000000000000000) (w : World) : Calls Try.prog 74 #[.int .i64 a, .int .i64 b] w fun e w' => e = .returned (.agg #[.int .i64 (a / gc a b), .int .i64 (b / gc a b)]) ∧ Below w.heap.size w w' := by
  have hgp := gc_pos (num := a) h'
  have hgl := gc_le (num := a) h'
  have G := Lib.hid fun w => sgcd a b h (by omega) hm hm' w
  have S := Lib.hid fun w => (ssize a (by omega) w).mono fun _ _ t => by rw [ab_le h] at t; exact t
  generalize gc a b = x at hgp hgl G ⊢
  have i1 : 0 ≤ a / x := Int.ediv_nonneg h (by omega)
  have i2 : 0 ≤ b / x := Int.ediv_nonneg (by omega) (by omega)
  have i3 : a / x ≤ a := Int.ediv_le_self _ h
  have i4 : b / x ≤ b := Int.ediv_le_self _ (by omega)
  have x0 : (x == 0) = false := by simp; omega
  go_enter Try.func74, Try.ntmps74
  go_wp2_with (first | (go_at_call 94; refine (S.out _).mono ?_; rintro e w' ⟨rfl, rfl⟩) | (go_at_call 93; refine (G.out _).mono ?_; rintro e w' ⟨rfl, rfl⟩))
  all_goals (try go_region)
  all_goals
    go_wp2_with fail
    exact bodyPost_ret (v := .agg #[.int .i64 (a / x), .int .i64 (b / x)]) (by simp [results, Try.results74, go_sem]) rfl ⟨rfl, by repeat (first | exact Below.refl _ _ | exact below_box _ _ | refine Below.drew ?_ | refine Below.setCell ?_ (by simp) _ | refine Below.alloc ?_ (by simp) _)⟩
end Go.Proofs.Ytgclhkiiaclkgab.Fr
