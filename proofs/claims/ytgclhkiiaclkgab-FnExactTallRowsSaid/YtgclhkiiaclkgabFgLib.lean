/- Quotients of numbers that may be less than 0: rounded down, and in lowest terms. -/
import Derived.Test.YtgclhkiiaclkgabFrLib
import Derived.Test.YtgclhkiiaclkgabQbLib
namespace Go.Proofs.Ytgclhkiiaclkgab.Fg
open Go.RowKit Ba Nh Fr

/-- A quotient, rounded down; b is positive. -/
def fl (a b : Int) : Int := if a.tmod b < 0 then a.tdiv b - 1 else a.tdiv b
theorem tdiv_bd {a : Int} (b : Int) (h1 : -1000000000000000000 ≤ a) (h2 : a ≤ 1000000000000000000) : -1000000000000000000 ≤ a.tdiv b ∧ a.tdiv b ≤ 1000000000000000000 := by
  have h : (a.tdiv b).natAbs ≤ a.natAbs := by
    rw [Int.natAbs_tdiv]
    exact Nat.div_le_self _ _
  omega
theorem ab_neg {x : Int} (h : x < 0) : ab x = -x := by unfold ab; rw [if_pos h]
set_option maxHeartbeats 1000000 in
theorem low_neg (a b : Int) (h : a < 0) (h' : 0 < b) (hm : -1000000000000000000 ≤ a) (hm' : b ≤ 1000000000000000000) (w : World) : Calls Try.prog 75 #[.int .i64 a, .int .i64 b] w fun e w' => e = .returned (.agg #[.int .i64 (a.tdiv (gc (-a) b)), .int .i64 (b / gc (-a) b)]) ∧ Below w.heap.size w w' := by
  have hgp := gc_pos (num := -a) h'
  have hgl := gc_le (num := -a) h'
  have n1 : a < -a := by omega
  have n3 : -a ≤ 1000000000000000000 := by omega
  have n4 : 0 ≤ -a := by omega
  have G := Lib.hid fun w => icd (-a) b n4 (by omega) n3 hm' w
  generalize gc (-a) b = x at hgp hgl G ⊢
  obtain ⟨i1, i3⟩ := tdiv_bd x hm (show a ≤ 1000000000000000000 by omega)
  have i2 : 0 ≤ b / x := Int.ediv_nonneg (by omega) (by omega)
  have i4 : b / x ≤ b := Int.ediv_le_self _ (by omega)
  have x0 : (x == 0) = false := by simp; omega
  go_enter Try.func75, Try.ntmps75
  go_wp2_with fail
  refine (G.out _).mono ?_
  rintro e w3 ⟨rfl, b3⟩
  have k3 := Lib.hid (blk_keep b3 (blk_new w (.cells #[.int .i64 0, .int .i64 0] 42)))
  have HB3 := Lib.hid (below_then (below_box w (.cells #[.int .i64 0, .int .i64 0] 42)) b3)
  clear b3 G
  have z0 := blk_free k3.out 0
  have z1 := blk_free k3.out 1
  obtain ⟨c0, c1⟩ := blk2 k3.out
  have hb0 := lt_of_heap k3.out
  go_wp2_with fail
  go_region
  all_goals
    go_wp2_with fail
    exact bodyPost_ret (v := .agg #[.int .i64 (a.tdiv x), .int .i64 (b / x)]) (by simp [results, Try.results75, go_sem, c0, c1]) rfl ⟨rfl, by repeat (first | exact HB3.out | exact HB3.out.drew | refine Below.drew ?_ | refine Below.setCell ?_ (by simp) _)⟩
set_option maxHeartbeats 1000000 in
theorem make_neg (a b : Int) (h : a < 0) (h' : 0 < b) (hm : -1000000000000000000 ≤ a) (hm' : b ≤ 1000000000000000000) (w : World) : Calls Try.prog 74 #[.int .i64 a, .int .i64 b] w fun e w' => e = .returned (.agg #[.int .i64 (a.tdiv (gc (-a) b)), .int .i64 (b / gc (-a) b)]) ∧ Below w.heap.size w w' := by
  have hgp := gc_pos (num := -a) h'
  have hgl := gc_le (num := -a) h'
  have G := Lib.hid fun w => sgcd (-a) b (by omega) (by omega) (by omega) hm' w
  have S := Lib.hid fun w => (ssize a (by omega) w).mono fun _ _ t => by rw [ab_neg h] at t; exact t
  generalize gc (-a) b = x at hgp hgl G ⊢
  obtain ⟨i1, i3⟩ := tdiv_bd x hm (show a ≤ 1000000000000000000 by omega)
  have i2 : 0 ≤ b / x := Int.ediv_nonneg (by omega) (by omega)
  have i4 : b / x ≤ b := Int.ediv_le_self _ (by omega)
  have x0 : (x == 0) = false := by simp; omega
  go_enter Try.func74, Try.ntmps74
  go_wp2_with (first | (go_at_call 94; refine (S.out _).mono ?_; rintro e w' ⟨rfl, rfl⟩) | (go_at_call 93; refine (G.out _).mono ?_; rintro e w' ⟨rfl, rfl⟩))
  all_goals (try go_region)
  all_goals
    go_wp2_with fail
    exact bodyPost_ret (v := .agg #[.int .i64 (a.tdiv x), .int .i64 (b / x)]) (by simp [results, Try.results74, go_sem]) rfl ⟨rfl, by repeat (first | exact Below.refl _ _ | exact below_box _ _ | refine Below.drew ?_ | refine Below.setCell ?_ (by simp) _ | refine Below.alloc ?_ (by simp) _)⟩

/-- A fraction in lowest terms. -/
def nm (a b : Int) : Int := if 0 ≤ a then a / gc a b else a.tdiv (gc (-a) b)
def dn (a b : Int) : Int := if 0 ≤ a then b / gc a b else b / gc (-a) b
theorem low_gen (a b : Int) (h' : 0 < b) (h1 : -1000000000000000000 ≤ a) (h2 : a ≤ 1000000000000000000) (hm' : b ≤ 1000000000000000000) (w : World) : Calls Try.prog 75 #[.int .i64 a, .int .i64 b] w fun e w' => e = .returned (.agg #[.int .i64 (nm a b), .int .i64 (dn a b)]) ∧ Below w.heap.size w w' := by
  unfold nm dn
  by_cases h : 0 ≤ a
  · rw [if_pos h, if_pos h]
    exact low_any a b h h' h2 hm' w
  · rw [if_neg h, if_neg h]
    exact low_neg a b (by omega) h' h1 hm' w
theorem make_gen (a b : Int) (h' : 0 < b) (h1 : -1000000000000000000 ≤ a) (h2 : a ≤ 1000000000000000000) (hm' : b ≤ 1000000000000000000) (w : World) : Calls Try.prog 74 #[.int .i64 a, .int .i64 b] w fun e w' => e = .returned (.agg #[.int .i64 (nm a b), .int .i64 (dn a b)]) ∧ Below w.heap.size w w' := by
  unfold nm dn
  by_cases h : 0 ≤ a
  · rw [if_pos h, if_pos h]
    exact make_any a b h h' h2 hm' w
  · rw [if_neg h, if_neg h]
    exact make_neg a b (by omega) h' h1 hm' w
end Go.Proofs.Ytgclhkiiaclkgab.Fg
