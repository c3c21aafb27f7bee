/- Leathers: the law's copy of a leather, its comparison of fractions. -/
import Derived.Test.YtgclhkiiaclkgaaJaLib
namespace Go.Proofs.Ytgclhkiiaclkgaa.Jg
set_option linter.unusedVariables false
open Go.RowKit Qb Ja
open Go.Proofs.Ytgclhkiiaclkgaa.Ba (inB below_then below_box)

theorem to_le (a c s m : Int) (w : World) : Calls Try.prog 16 #[leV a c s m] w fun e w' => e = .returned (leV a c s m) ∧ Below w.heap.size w w' := by
  go_enter Try.func16, Try.ntmps16
  go_wp2
  exact bodyPost_ret (v := leV a c s m) (by simp [results, Try.results16, go_sem]) rfl ⟨rfl, by repeat (first | exact Below.refl _ _ | exact below_box _ _ | refine Below.setCell ?_ (by simp <;> omega) _ | refine Below.alloc ?_ (by simp <;> omega) _)⟩
theorem eq_fr (a b : Int) (w : World) : Calls Try.prog 20 #[.agg #[.int .i64 a, .int .i64 b], .agg #[.int .i64 a, .int .i64 b]] w fun e w' => e = .returned (.bool true) ∧ Below w.heap.size w w' := by
  go_enter Try.func20, Try.ntmps20
  go_wp2_with fail
  go_ret
  exact ⟨rfl, by repeat (first | exact Below.refl _ _ | refine Below.alloc ?_ (by simp) _)⟩
abbrev laO (a c s m : Int) : Obj := .cells #[.int .i64 a, .int .i64 c, .int .i64 s, .int .i64 m] 23
set_option maxHeartbeats 1000000 in
/-- The walk of the law, once both sides tell the same. -/
theorem law_so (a c s m d f x y z : Int) (w : World)
    (CS : ∀ w, Calls Try.prog 18 #[leV a c s m, .int .i64 d, .int .i64 f] w fun e w' => e = .returned (.tuple #[.agg #[.int .i64 x, .int .i64 y], .int .i64 z]) ∧ Below w.heap.size w w')
    (CI : ∀ w, Calls Try.prog 19 #[leV a c s m, .int .i64 d, .int .i64 f] w fun e w' => e = .returned (.tuple #[.agg #[.int .i64 x, .int .i64 y], .int .i64 z]) ∧ Below w.heap.size w w') :
    Calls Try.prog 4 #[leV a c s m, .int .i64 d, .int .i64 f] w fun e w' => e = .returned (.bool true) ∧ Below w.heap.size w w' := by
  have HS := Lib.hid CS
  have HI := Lib.hid CI
  have BX := Lib.hid (Bx.of w (laO a c s m))
  have ne : (z != z) = false := by simp
  clear CS CI
  go_enter Try.func4, Try.ntmps4
  go_upto_region 1 with fail
  generalize hw9 : World.alloc _ _ = w0 at BX ⊢
  clear hw9
  obtain ⟨z0, z1, z2, z3⟩ := Ba.blk4 BX.out.box
  go_wp2_with fail
  refine (to_le _ _ _ _ _).mono ?_
  rintro e w1 ⟨rfl, b1⟩
  have BX1 := Lib.hid (BX.out.below b1)
  clear b1 BX z0 z1 z2 z3
  go_wp2_with fail
  refine (HS.out _).mono ?_
  rintro e w2 ⟨rfl, b2⟩
  have BX2 := Lib.hid ((BX1.out.below b2).below (below_box w2 (.cells #[.int .i64 x, .int .i64 y] 29)))
  have KF := Lib.hid (heap_alloc_new w2 (.cells #[.int .i64 x, .int .i64 y] 29))
  clear b2 BX1 HS
  go_upto_region 2 with fail
  generalize hw9 : World.alloc _ _ = w3 at BX2 KF ⊢
  clear hw9
  generalize w2.heap.size = g2 at *
  obtain ⟨z0, z1, z2, z3⟩ := Ba.blk4 BX2.out.box
  go_wp2_with fail
  refine (to_le _ _ _ _ _).mono ?_
  rintro e w4 ⟨rfl, b4⟩
  have BX4 := Lib.hid (BX2.out.below b4)
  have KF4 := Lib.hid (Ba.blk_keep b4 KF.out)
  clear b4 BX2 KF z0 z1 z2 z3
  go_wp2_with fail
  refine (HI.out _).mono ?_
  rintro e w5 ⟨rfl, b5⟩
  have BX5 := Lib.hid ((BX4.out.below b5).below (below_box w5 (.cells #[.int .i64 x, .int .i64 y] 29)))
  have KF5 := Lib.hid (Ba.blk_old (.cells #[.int .i64 x, .int .i64 y] 29) (Ba.blk_keep b5 KF4.out))
  have KG := Lib.hid (heap_alloc_new w5 (.cells #[.int .i64 x, .int .i64 y] 29))
  clear b5 BX4 KF4 HI
  go_upto_region 3 with fail
  generalize hw9 : World.alloc _ _ = w6 at BX5 KF5 KG ⊢
  clear hw9
  generalize w5.heap.size = g5 at *
  obtain ⟨y0, y1⟩ := Ba.blk2 KF5.out
  obtain ⟨x0, x1⟩ := Ba.blk2 KG.out
  go_wp2_with fail
  refine (eq_fr _ _ _).mono ?_
  rintro e w7 ⟨rfl, b7⟩
  have HF := Lib.hid (below_then BX5.out.bel b7)
  clear b7 x0 x1 y0 y1
  go_wp2_with fail
  go_ret
  exact ⟨rfl, HF.out⟩
end Go.Proofs.Ytgclhkiiaclkgaa.Jg
