/- What a build takes, and which of two takes less: the program's. -/
import Derived.Test.YtpmmfalpcooenabUmLib
import Derived.Deep.RegionWith
import Derived.Deep.RegionHeld3
import Derived.Deep.DeepCutAuto
import Derived.IntWalk
namespace Go.Proofs.Ytpmmfalpcooenab.Bg
open Go.RowKit Ft Is Ge Qb

theorem nan_any (a : Int) (w : World) : Calls Try.prog 164 #[.int .i64 a] w fun e w' => e = .returned (.bool false) ∧ w = w' := by
  have h : (a != a) = false := by simp
  go_enter Try.func164, Try.ntmps164
  go_wp2_with fail
  go_ret
  exact ⟨rfl, rfl⟩
/-- Less, equal, greater. -/
def cmpI (a b : Int) : Int := if a < b then -1 else if b < a then 1 else 0
theorem cmp_any (a b : Int) (w : World) : Calls Try.prog 151 #[.int .i64 a, .int .i64 b] w fun e w' => e = .returned (.int .i64 (cmpI a b)) ∧ w = w' := by
  have HV : Hid (cmpI a b = if a < b then -1 else if b < a then 1 else 0) := Lib.hid rfl
  generalize cmpI a b = r at HV ⊢
  by_cases h1 : a < b
  · have HE := Lib.hid (show r = -1 by rw [HV.out, if_pos h1])
    go_enter Try.func151, Try.ntmps151
    go_wp2_with (go_at_call 164; refine (nan_any _ _).mono ?_; rintro e w' ⟨rfl, rfl⟩)
    go_ret
    exact ⟨Ba.ret_int HE.out.symm, rfl⟩
  · by_cases h2 : b < a
    · have HE := Lib.hid (show r = 1 by rw [HV.out, if_neg h1, if_pos h2])
      go_enter Try.func151, Try.ntmps151
      go_wp2_with (go_at_call 164; refine (nan_any _ _).mono ?_; rintro e w' ⟨rfl, rfl⟩)
      go_ret
      exact ⟨Ba.ret_int HE.out.symm, rfl⟩
    · have HE := Lib.hid (show r = 0 by rw [HV.out, if_neg h1, if_neg h2])
      go_enter Try.func151, Try.ntmps151
      go_wp2_with (go_at_call 164; refine (nan_any _ _).mono ?_; rintro e w' ⟨rfl, rfl⟩)
      go_ret
      exact ⟨Ba.ret_int HE.out.symm, rfl⟩
/-- The first that is not zero. -/
def orI (a b : Int) : Int := if a = 0 then b else a
theorem or_any (a b : Int) (g cap : Nat) (w : World) (h0 : w.cell? ⟨g, 0, none⟩ = some (.int .i64 a)) (h1 : w.cell? ⟨g, 1, none⟩ = some (.int .i64 b)) :
    Calls Try.prog 150 #[.slice (some ⟨g, 0, none⟩) 2 cap] w fun e w' => e = .returned (.int .i64 (orI a b)) ∧ w = w' := by
  have HV : Hid (orI a b = if a = 0 then b else a) := Lib.hid rfl
  generalize orI a b = r at HV ⊢
  have hlt := World.block_lt_of_cell? w _ h0
  by_cases ha : a = 0
  · subst ha
    by_cases hb : b = 0
    · subst hb
      have HE := Lib.hid (show r = 0 by rw [HV.out, if_pos rfl])
      go_enter Try.func150, Try.ntmps150
      go_wp2_with fail
      refine wp_loop_rounds 3 ?_
      rw [rounds_succ]
      go_wp2
      rw [rounds_succ]
      go_wp2
      rw [rounds_succ]
      go_wp2
      go_ret
      exact ⟨Ba.ret_int HE.out.symm, rfl⟩
    · have HE := Lib.hid (show r = b by rw [HV.out, if_pos rfl])
      have hb' : (b != 0) = true := by simpa using hb
      go_enter Try.func150, Try.ntmps150
      go_wp2_with fail
      refine wp_loop_rounds 2 ?_
      rw [rounds_succ]
      go_wp2
      rw [rounds_succ]
      go_wp2
      go_ret
      exact ⟨Ba.ret_int HE.out.symm, rfl⟩
  · have HE := Lib.hid (show r = a by rw [HV.out, if_neg ha])
    have ha' : (a != 0) = true := by simpa using ha
    go_enter Try.func150, Try.ntmps150
    go_wp2_with fail
    refine wp_loop_rounds 1 ?_
    rw [rounds_succ]
    go_wp2
    go_ret
    exact ⟨Ba.ret_int HE.out.symm, rfl⟩
theorem with_any (a b p : Int) (h0 : 0 ≤ a ∧ a ≤ 1000000000) (h1 : 0 ≤ b ∧ b ≤ 1000000000) (h2 : 0 ≤ p ∧ p ≤ 1000000000) (w : World) :
    Calls Try.prog 121 #[.agg #[.int .i64 a, .int .i64 b], .int .i64 p] w fun e w' => e = .returned (.agg #[.int .i64 (a + p), .int .i64 (b + 1)]) ∧ Below w.heap.size w w' := by
  obtain ⟨a1, a2⟩ := h0
  obtain ⟨b1, b2⟩ := h1
  obtain ⟨p1, p2⟩ := h2
  go_enter Try.func121, Try.ntmps121
  go_wp2
  exact bodyPost_ret (v := .agg #[.int .i64 (a + p), .int .i64 (b + 1)]) (by simp [results, Try.results121, go_sem]) rfl ⟨rfl, by repeat (first | exact Below.refl _ _ | exact below_box _ _ | refine Below.drew ?_ | refine Below.setCell ?_ (by simp <;> omega) _ | refine Below.alloc ?_ (by simp <;> omega) _)⟩
theorem keep_of {w2 W : World} {g o : Nat} {v : Value} (hb : Below w2.heap.size w2 W) (hg : g < w2.heap.size) (h : w2.cell? ⟨g, o, none⟩ = some v) : W.cell? ⟨g, o, none⟩ = some v := (hb.cell (p := ⟨g, o, none⟩) hg).trans h
/-- Which of two takes less. -/
def cpV (a b c d : Int) : Int := orI (cmpI a c) (cmpI b d)
theorem cp_le {a b c d : Int} (hb : 0 ≤ b ∧ b < 2000) (hd : 0 ≤ d ∧ d < 2000) : cpV a b c d ≤ 0 ↔ 2000 * a + b ≤ 2000 * c + d := by
  unfold cpV orI cmpI
  by_cases h1 : a < c
  · simp [h1]; omega
  · by_cases h2 : c < a
    · simp [h1, h2]; omega
    · obtain rfl : a = c := by omega
      by_cases h3 : b < d
      · simp [h3]
        try omega
      · by_cases h4 : d < b
        · simp [h3, h4]
        · simp [h3, h4]
          omega
set_option maxRecDepth 100000 in
set_option maxHeartbeats 2000000 in
theorem cp_any (a b c d : Int) (w : World) : Calls Try.prog 122 #[.agg #[.int .i64 a, .int .i64 b], .agg #[.int .i64 c, .int .i64 d]] w fun e w' => e = .returned (.int .i64 (cpV a b c d)) ∧ Below w.heap.size w w' := by
  have C1 := Lib.hid (fun w => cmp_any a c w)
  have C2 := Lib.hid (fun w => cmp_any b d w)
  have CO := Lib.hid (fun g w h0 h1 => or_any (cmpI a c) (cmpI b d) g 2 w h0 h1)
  have HV : Hid (cpV a b c d = orI (cmpI a c) (cmpI b d)) := Lib.hid rfl
  rw [← HV.out] at CO
  clear HV
  generalize cpV a b c d = r at CO ⊢
  generalize cmpI a c = u at C1 CO
  generalize cmpI b d = v at C2 CO
  obtain ⟨ka, kb⟩ := Ge.two w (.cells #[.int .i64 a, .int .i64 b] 113) (.cells #[.int .i64 c, .int .i64 d] 113)
  have B0 := Lib.hid (Ge.below2 w (.cells #[.int .i64 a, .int .i64 b] 113) (.cells #[.int .i64 c, .int .i64 d] 113))
  obtain ⟨x0, x1⟩ := Ba.blk2 ka
  obtain ⟨y0, y1⟩ := Ba.blk2 kb
  go_enter Try.func122, Try.ntmps122
  go_upto_region 1 with fail
  generalize hw2 : (w.alloc _).alloc _ = w2 at ka kb x0 x1 y0 y1 B0 ⊢
  clear hw2
  have lx := lt_of_heap ka
  have ly := lt_of_heap kb
  clear ka kb
  go_region_held3 (fun w' => w'.cell? ⟨w.heap.size, 0, none⟩ = some (.int .i64 a) ∧ w'.cell? ⟨w.heap.size, 1, none⟩ = some (.int .i64 b) ∧ w'.cell? ⟨w.heap.size + 1, 0, none⟩ = some (.int .i64 c) ∧ w'.cell? ⟨w.heap.size + 1, 1, none⟩ = some (.int .i64 d))
    (first | (refine ⟨?_, ?_, ?_, ?_⟩ <;> (refine keep_of (w2 := w2) ?_ (by omega) (by assumption); (repeat (first | (with_reducible exact Below.refl _ _) | (with_reducible refine Below.drew ?_) | (with_reducible refine Below.alloc ?_ (by simp <;> omega) _))))))
    (first | (go_at_call_of 151 a; (with_reducible refine (C1.out _).mono ?_); rintro e wn ⟨rfl, rfl⟩) | (go_at_call_of 151 b; (with_reducible refine (C2.out _).mono ?_); rintro e wn ⟨rfl, rfl⟩) | (go_at_call 150; (with_reducible refine (CO.out _ _ ?_ ?_).mono ?_); (focus (exact cell_of_row _ _ _ _ _ _ (heap_alloc_new _ _))); (focus (exact cell_of_row _ _ _ _ _ _ (heap_alloc_new _ _))); rintro e wn ⟨rfl, rfl⟩))
  all_goals
    go_wp2_with fail
    go_ret
    exact ⟨rfl, by repeat (first | (with_reducible exact B0.out) | (with_reducible refine Below.drew ?_) | (with_reducible refine Below.alloc ?_ (by omega) _))⟩
end Go.Proofs.Ytpmmfalpcooenab.Bg
