/- Leathers: the walks of the laws, from the contracts of both sides. -/
import Derived.Test.YtgclhkiiaclkgaaJgLib
import Derived.Test.YtgclhkiiaclkgaaJbLib
namespace Go.Proofs.Ytgclhkiiaclkgaa.Jgq
set_option linter.unusedVariables false
open Go.RowKit Qb Ja Jg
open Go.Proofs.Ytgclhkiiaclkgaa.Jb (Bx2 Bx2.of Bx2.below)
open Go.Proofs.Ytgclhkiiaclkgaa.Ba (inB below_then below_box)

set_option maxHeartbeats 1000000 in
theorem law_vl (a c s m  : Int) (b : Bool) (w : World)
    (CS : ∀ w, Calls Try.prog 15 #[leV a c s m] w fun e w' => e = .returned (.bool b) ∧ Below w.heap.size w w')
    (CI : ∀ w, Calls Try.prog 17 #[leV a c s m] w fun e w' => e = .returned (.bool b) ∧ Below w.heap.size w w') :
    Calls Try.prog 3 #[leV a c s m] w fun e w' => e = .returned (.bool true) ∧ Below w.heap.size w w' := by
  have HS := Lib.hid CS
  have HI := Lib.hid CI
  have BX := Lib.hid (Bx.of w (laO a c s m))
  clear CS CI
  go_enter Try.func3, Try.ntmps3
  go_upto_region 1 with fail
  generalize hw9 : World.alloc _ _ = w0 at BX ⊢
  clear hw9
  obtain ⟨z0, z1, z2, z3⟩ := Ba.blk4 BX.out.box
  go_wp2_with fail
  refine (to_le _ _ _ _ _).mono ?_
  rintro e w1 ⟨rfl, b1⟩
  have BX1 := Lib.hid (BX.out.below b1)
  clear b1 BX
  clear z0 z1 z2 z3
  go_wp2_with fail
  refine (HS.out _).mono ?_
  rintro e w2 ⟨rfl, b2⟩
  have BX2 := Lib.hid (BX1.out.below b2)
  clear b2 BX1
  clear HS
  obtain ⟨z0, z1, z2, z3⟩ := Ba.blk4 BX2.out.box
  go_wp2_with fail
  refine (to_le _ _ _ _ _).mono ?_
  rintro e w3 ⟨rfl, b3⟩
  have BX3 := Lib.hid (BX2.out.below b3)
  clear b3 BX2
  clear z0 z1 z2 z3
  go_wp2_with fail
  refine (HI.out _).mono ?_
  rintro e w4 ⟨rfl, b4⟩
  have BX4 := Lib.hid (BX3.out.below b4)
  clear b4 BX3
  clear HI
  cases b
  all_goals
    go_wp2_with fail
    go_ret
    exact ⟨rfl, BX4.out.bel⟩
set_option maxHeartbeats 1000000 in
theorem law_so (a c s m d f x y z : Int) (w : World)
    (CS : ∀ w, Calls Try.prog 18 #[leV a c s m, .int .i64 d, .int .i64 f] w fun e w' => e = .returned (.tuple #[.agg #[.int .i64 x, .int .i64 y], .int .i64 z]) ∧ Below w.heap.size w w')
    (CI : ∀ w, Calls Try.prog 19 #[leV a c s m, .int .i64 d, .int .i64 f] w fun e w' => e = .returned (.tuple #[.agg #[.int .i64 x, .int .i64 y], .int .i64 z]) ∧ Below w.heap.size w w') :
    Calls Try.prog 4 #[leV a c s m, .int .i64 d, .int .i64 f] w fun e w' => e = .returned (.bool true) ∧ Below w.heap.size w w' := by
  have HS := Lib.hid CS
  have HI := Lib.hid CI
  have BX := Lib.hid (Bx.of w (laO a c s m))
  have ne_z : (z != z) = false := by simp
  clear CS CI
  go_enter Try.func4, Try.ntmps4
  go_upto_region 1 with fail
  generalize hw9 : World.alloc _ _ = w0 at BX ⊢
  clear hw9
  obtain ⟨z0, z1, z2, z3⟩ := Ba.blk4 BX.out.box
  go_wp2_with fail
  refine (to_le _ _ _ _ _).mono ?_
  rintro e w1 ⟨rfl, b1⟩
  have BX1 := Lib.hid (BX.out.below b1)
  clear b1 BX
  clear z0 z1 z2 z3
  go_wp2_with fail
  refine (HS.out _).mono ?_
  rintro e w2 ⟨rfl, b2⟩
  have BX2 := Lib.hid (BX1.out.below b2)
  clear b2 BX1
  clear HS
  have BY2 := Lib.hid (BX2.out.below (below_box w2 (.cells #[.int .i64 x, .int .i64 y] 29)))
  have KF := Lib.hid (heap_alloc_new w2 (.cells #[.int .i64 x, .int .i64 y] 29))
  clear BX2
  go_upto_region 2 with fail
  generalize hw9 : World.alloc _ _ = v2 at BY2 KF  ⊢
  clear hw9
  generalize w2.heap.size = g2 at *
  obtain ⟨z0, z1, z2, z3⟩ := Ba.blk4 BY2.out.box
  go_wp2_with fail
  refine (to_le _ _ _ _ _).mono ?_
  rintro e w3 ⟨rfl, b3⟩
  have BX3 := Lib.hid (BY2.out.below b3)
  have KFn := Lib.hid (Ba.blk_keep b3 KF.out)
  clear b3 BY2 KF
  have KF := KFn
  clear KFn
  clear z0 z1 z2 z3
  go_wp2_with fail
  refine (HI.out _).mono ?_
  rintro e w4 ⟨rfl, b4⟩
  have BX4 := Lib.hid (BX3.out.below b4)
  have KFn := Lib.hid (Ba.blk_keep b4 KF.out)
  clear b4 BX3 KF
  have KF := KFn
  clear KFn
  clear HI
  have BY4 := Lib.hid (BX4.out.below (below_box w4 (.cells #[.int .i64 x, .int .i64 y] 29)))
  have KFo := Lib.hid (Ba.blk_old (.cells #[.int .i64 x, .int .i64 y] 29) KF.out)
  clear KF
  have KF := KFo
  clear KFo
  have KG := Lib.hid (heap_alloc_new w4 (.cells #[.int .i64 x, .int .i64 y] 29))
  clear BX4
  go_upto_region 3 with fail
  generalize hw9 : World.alloc _ _ = v4 at BY4 KG KF ⊢
  clear hw9
  generalize w4.heap.size = g4 at *
  obtain ⟨y0, y1⟩ := Ba.blk2 KF.out
  obtain ⟨x0, x1⟩ := Ba.blk2 KG.out
  go_wp2_with fail
  refine (eq_fr _ _ _).mono ?_
  rintro e w5 ⟨rfl, b5⟩
  have BX5 := Lib.hid (BY4.out.below b5)
  clear b5 BY4
  clear x0 x1 y0 y1
  go_wp2_with fail
  go_ret
  exact ⟨rfl, BX5.out.bel⟩
set_option maxHeartbeats 1000000 in
theorem law_lu (a c s m d n f x y z : Int) (w : World)
    (CS : ∀ w, Calls Try.prog 21 #[leV a c s m, .int .i64 d, .int .i64 n, .int .i64 f] w fun e w' => e = .returned (.tuple #[.agg #[.int .i64 x, .int .i64 y], .int .i64 z]) ∧ Below w.heap.size w w')
    (CI : ∀ w, Calls Try.prog 22 #[leV a c s m, .int .i64 d, .int .i64 n, .int .i64 f] w fun e w' => e = .returned (.tuple #[.agg #[.int .i64 x, .int .i64 y], .int .i64 z]) ∧ Below w.heap.size w w') :
    Calls Try.prog 5 #[leV a c s m, .int .i64 d, .int .i64 n, .int .i64 f] w fun e w' => e = .returned (.bool true) ∧ Below w.heap.size w w' := by
  have HS := Lib.hid CS
  have HI := Lib.hid CI
  have BX := Lib.hid (Bx.of w (laO a c s m))
  have ne_z : (z != z) = false := by simp
  clear CS CI
  go_enter Try.func5, Try.ntmps5
  go_upto_region 1 with fail
  generalize hw9 : World.alloc _ _ = w0 at BX ⊢
  clear hw9
  obtain ⟨z0, z1, z2, z3⟩ := Ba.blk4 BX.out.box
  go_wp2_with fail
  refine (to_le _ _ _ _ _).mono ?_
  rintro e w1 ⟨rfl, b1⟩
  have BX1 := Lib.hid (BX.out.below b1)
  clear b1 BX
  clear z0 z1 z2 z3
  go_wp2_with fail
  refine (HS.out _).mono ?_
  rintro e w2 ⟨rfl, b2⟩
  have BX2 := Lib.hid (BX1.out.below b2)
  clear b2 BX1
  clear HS
  have BY2 := Lib.hid (BX2.out.below (below_box w2 (.cells #[.int .i64 x, .int .i64 y] 29)))
  have KF := Lib.hid (heap_alloc_new w2 (.cells #[.int .i64 x, .int .i64 y] 29))
  clear BX2
  go_upto_region 2 with fail
  generalize hw9 : World.alloc _ _ = v2 at BY2 KF  ⊢
  clear hw9
  generalize w2.heap.size = g2 at *
  obtain ⟨z0, z1, z2, z3⟩ := Ba.blk4 BY2.out.box
  go_wp2_with fail
  refine (to_le _ _ _ _ _).mono ?_
  rintro e w3 ⟨rfl, b3⟩
  have BX3 := Lib.hid (BY2.out.below b3)
  have KFn := Lib.hid (Ba.blk_keep b3 KF.out)
  clear b3 BY2 KF
  have KF := KFn
  clear KFn
  clear z0 z1 z2 z3
  go_wp2_with fail
  refine (HI.out _).mono ?_
  rintro e w4 ⟨rfl, b4⟩
  have BX4 := Lib.hid (BX3.out.below b4)
  have KFn := Lib.hid (Ba.blk_keep b4 KF.out)
  clear b4 BX3 KF
  have KF := KFn
  clear KFn
  clear HI
  have BY4 := Lib.hid (BX4.out.below (below_box w4 (.cells #[.int .i64 x, .int .i64 y] 29)))
  have KFo := Lib.hid (Ba.blk_old (.cells #[.int .i64 x, .int .i64 y] 29) KF.out)
  clear KF
  have KF := KFo
  clear KFo
  have KG := Lib.hid (heap_alloc_new w4 (.cells #[.int .i64 x, .int .i64 y] 29))
  clear BX4
  go_upto_region 3 with fail
  generalize hw9 : World.alloc _ _ = v4 at BY4 KG KF ⊢
  clear hw9
  generalize w4.heap.size = g4 at *
  obtain ⟨y0, y1⟩ := Ba.blk2 KF.out
  obtain ⟨x0, x1⟩ := Ba.blk2 KG.out
  go_wp2_with fail
  refine (eq_fr _ _ _).mono ?_
  rintro e w5 ⟨rfl, b5⟩
  have BX5 := Lib.hid (BY4.out.below b5)
  clear b5 BY4
  clear x0 x1 y0 y1
  go_wp2_with fail
  go_ret
  exact ⟨rfl, BX5.out.bel⟩
set_option maxHeartbeats 1000000 in
theorem law_la (a c s m d n f x y : Int) (w : World)
    (CS : ∀ w, Calls Try.prog 23 #[leV a c s m, .int .i64 d, .int .i64 n, .int .i64 f] w fun e w' => e = .returned (.tuple #[.int .i64 x, .int .i64 y]) ∧ Below w.heap.size w w')
    (CI : ∀ w, Calls Try.prog 24 #[leV a c s m, .int .i64 d, .int .i64 n, .int .i64 f] w fun e w' => e = .returned (.tuple #[.int .i64 x, .int .i64 y]) ∧ Below w.heap.size w w') :
    Calls Try.prog 6 #[leV a c s m, .int .i64 d, .int .i64 n, .int .i64 f] w fun e w' => e = .returned (.bool true) ∧ Below w.heap.size w w' := by
  have HS := Lib.hid CS
  have HI := Lib.hid CI
  have BX := Lib.hid (Bx.of w (laO a c s m))
  have ne_x : (x != x) = false := by simp
  have ne_y : (y != y) = false := by simp
  clear CS CI
  go_enter Try.func6, Try.ntmps6
  go_upto_region 1 with fail
  generalize hw9 : World.alloc _ _ = w0 at BX ⊢
  clear hw9
  obtain ⟨z0, z1, z2, z3⟩ := Ba.blk4 BX.out.box
  go_wp2_with fail
  refine (to_le _ _ _ _ _).mono ?_
  rintro e w1 ⟨rfl, b1⟩
  have BX1 := Lib.hid (BX.out.below b1)
  clear b1 BX
  clear z0 z1 z2 z3
  go_wp2_with fail
  refine (HS.out _).mono ?_
  rintro e w2 ⟨rfl, b2⟩
  have BX2 := Lib.hid (BX1.out.below b2)
  clear b2 BX1
  clear HS
  obtain ⟨z0, z1, z2, z3⟩ := Ba.blk4 BX2.out.box
  go_wp2_with fail
  refine (to_le _ _ _ _ _).mono ?_
  rintro e w3 ⟨rfl, b3⟩
  have BX3 := Lib.hid (BX2.out.below b3)
  clear b3 BX2
  clear z0 z1 z2 z3
  go_wp2_with fail
  refine (HI.out _).mono ?_
  rintro e w4 ⟨rfl, b4⟩
  have BX4 := Lib.hid (BX3.out.below b4)
  clear b4 BX3
  clear HI
  go_wp2_with fail
  go_ret
  exact ⟨rfl, BX4.out.bel⟩
set_option maxHeartbeats 1000000 in
theorem law_pu (a c s m d n t x y : Int) (w : World)
    (CS : ∀ w, Calls Try.prog 31 #[leV a c s m, .int .i64 d, .int .i64 n, .int .i64 t] w fun e w' => e = .returned (.tuple #[.int .i64 x, .int .i64 y]) ∧ Below w.heap.size w w')
    (CI : ∀ w, Calls Try.prog 32 #[leV a c s m, .int .i64 d, .int .i64 n, .int .i64 t] w fun e w' => e = .returned (.tuple #[.int .i64 x, .int .i64 y]) ∧ Below w.heap.size w w') :
    Calls Try.prog 8 #[leV a c s m, .int .i64 d, .int .i64 n, .int .i64 t] w fun e w' => e = .returned (.bool true) ∧ Below w.heap.size w w' := by
  have HS := Lib.hid CS
  have HI := Lib.hid CI
  have BX := Lib.hid (Bx.of w (laO a c s m))
  have ne_x : (x != x) = false := by simp
  have ne_y : (y != y) = false := by simp
  clear CS CI
  go_enter Try.func8, Try.ntmps8
  go_upto_region 1 with fail
  generalize hw9 : World.alloc _ _ = w0 at BX ⊢
  clear hw9
  obtain ⟨z0, z1, z2, z3⟩ := Ba.blk4 BX.out.box
  go_wp2_with fail
  refine (to_le _ _ _ _ _).mono ?_
  rintro e w1 ⟨rfl, b1⟩
  have BX1 := Lib.hid (BX.out.below b1)
  clear b1 BX
  clear z0 z1 z2 z3
  go_wp2_with fail
  refine (HS.out _).mono ?_
  rintro e w2 ⟨rfl, b2⟩
  have BX2 := Lib.hid (BX1.out.below b2)
  clear b2 BX1
  clear HS
  obtain ⟨z0, z1, z2, z3⟩ := Ba.blk4 BX2.out.box
  go_wp2_with fail
  refine (to_le _ _ _ _ _).mono ?_
  rintro e w3 ⟨rfl, b3⟩
  have BX3 := Lib.hid (BX2.out.below b3)
  clear b3 BX2
  clear z0 z1 z2 z3
  go_wp2_with fail
  refine (HI.out _).mono ?_
  rintro e w4 ⟨rfl, b4⟩
  have BX4 := Lib.hid (BX3.out.below b4)
  clear b4 BX3
  clear HI
  go_wp2_with fail
  go_ret
  exact ⟨rfl, BX4.out.bel⟩
set_option maxHeartbeats 1000000 in
theorem law_cl (a c s m d n f x y : Int) (w : World)
    (CS : ∀ w, Calls Try.prog 33 #[leV a c s m, .int .i64 d, .int .i64 n, .int .i64 f] w fun e w' => e = .returned (.tuple #[.int .i64 x, .int .i64 y]) ∧ Below w.heap.size w w')
    (CI : ∀ w, Calls Try.prog 34 #[leV a c s m, .int .i64 d, .int .i64 n, .int .i64 f] w fun e w' => e = .returned (.tuple #[.int .i64 x, .int .i64 y]) ∧ Below w.heap.size w w') :
    Calls Try.prog 9 #[leV a c s m, .int .i64 d, .int .i64 n, .int .i64 f] w fun e w' => e = .returned (.bool true) ∧ Below w.heap.size w w' := by
  have HS := Lib.hid CS
  have HI := Lib.hid CI
  have BX := Lib.hid (Bx.of w (laO a c s m))
  have ne_x : (x != x) = false := by simp
  have ne_y : (y != y) = false := by simp
  clear CS CI
  go_enter Try.func9, Try.ntmps9
  go_upto_region 1 with fail
  generalize hw9 : World.alloc _ _ = w0 at BX ⊢
  clear hw9
  obtain ⟨z0, z1, z2, z3⟩ := Ba.blk4 BX.out.box
  go_wp2_with fail
  refine (to_le _ _ _ _ _).mono ?_
  rintro e w1 ⟨rfl, b1⟩
  have BX1 := Lib.hid (BX.out.below b1)
  clear b1 BX
  clear z0 z1 z2 z3
  go_wp2_with fail
  refine (HS.out _).mono ?_
  rintro e w2 ⟨rfl, b2⟩
  have BX2 := Lib.hid (BX1.out.below b2)
  clear b2 BX1
  clear HS
  obtain ⟨z0, z1, z2, z3⟩ := Ba.blk4 BX2.out.box
  go_wp2_with fail
  refine (to_le _ _ _ _ _).mono ?_
  rintro e w3 ⟨rfl, b3⟩
  have BX3 := Lib.hid (BX2.out.below b3)
  clear b3 BX2
  clear z0 z1 z2 z3
  go_wp2_with fail
  refine (HI.out _).mono ?_
  rintro e w4 ⟨rfl, b4⟩
  have BX4 := Lib.hid (BX3.out.below b4)
  clear b4 BX3
  clear HI
  go_wp2_with fail
  go_ret
  exact ⟨rfl, BX4.out.bel⟩
set_option maxHeartbeats 1000000 in
theorem law_bd (a c s m f lo hi x y : Int) (w : World)
    (CS : ∀ w, Calls Try.prog 35 #[leV a c s m, .int .i64 f, .int .i64 lo, .int .i64 hi] w fun e w' => e = .returned (.tuple #[.int .i64 x, .int .i64 y]) ∧ Below w.heap.size w w')
    (CI : ∀ w, Calls Try.prog 36 #[leV a c s m, .int .i64 f, .int .i64 lo, .int .i64 hi] w fun e w' => e = .returned (.tuple #[.int .i64 x, .int .i64 y]) ∧ Below w.heap.size w w') :
    Calls Try.prog 10 #[leV a c s m, .int .i64 f, .int .i64 lo, .int .i64 hi] w fun e w' => e = .returned (.bool true) ∧ Below w.heap.size w w' := by
  have HS := Lib.hid CS
  have HI := Lib.hid CI
  have BX := Lib.hid (Bx.of w (laO a c s m))
  have ne_x : (x != x) = false := by simp
  have ne_y : (y != y) = false := by simp
  clear CS CI
  go_enter Try.func10, Try.ntmps10
  go_upto_region 1 with fail
  generalize hw9 : World.alloc _ _ = w0 at BX ⊢
  clear hw9
  obtain ⟨z0, z1, z2, z3⟩ := Ba.blk4 BX.out.box
  go_wp2_with fail
  refine (to_le _ _ _ _ _).mono ?_
  rintro e w1 ⟨rfl, b1⟩
  have BX1 := Lib.hid (BX.out.below b1)
  clear b1 BX
  clear z0 z1 z2 z3
  go_wp2_with fail
  refine (HS.out _).mono ?_
  rintro e w2 ⟨rfl, b2⟩
  have BX2 := Lib.hid (BX1.out.below b2)
  clear b2 BX1
  clear HS
  obtain ⟨z0, z1, z2, z3⟩ := Ba.blk4 BX2.out.box
  go_wp2_with fail
  refine (to_le _ _ _ _ _).mono ?_
  rintro e w3 ⟨rfl, b3⟩
  have BX3 := Lib.hid (BX2.out.below b3)
  clear b3 BX2
  clear z0 z1 z2 z3
  go_wp2_with fail
  refine (HI.out _).mono ?_
  rintro e w4 ⟨rfl, b4⟩
  have BX4 := Lib.hid (BX3.out.below b4)
  clear b4 BX3
  clear HI
  go_wp2_with fail
  go_ret
  exact ⟨rfl, BX4.out.bel⟩
set_option maxHeartbeats 1000000 in
theorem law_gp (a c s m d x y : Int) (w : World)
    (CS : ∀ w, Calls Try.prog 37 #[leV a c s m, .int .i64 d] w fun e w' => e = .returned (.tuple #[.int .i64 x, .int .i64 y]) ∧ Below w.heap.size w w')
    (CI : ∀ w, Calls Try.prog 38 #[leV a c s m, .int .i64 d] w fun e w' => e = .returned (.tuple #[.int .i64 x, .int .i64 y]) ∧ Below w.heap.size w w') :
    Calls Try.prog 11 #[leV a c s m, .int .i64 d] w fun e w' => e = .returned (.bool true) ∧ Below w.heap.size w w' := by
  have HS := Lib.hid CS
  have HI := Lib.hid CI
  have BX := Lib.hid (Bx.of w (laO a c s m))
  have ne_x : (x != x) = false := by simp
  have ne_y : (y != y) = false := by simp
  clear CS CI
  go_enter Try.func11, Try.ntmps11
  go_upto_region 1 with fail
  generalize hw9 : World.alloc _ _ = w0 at BX ⊢
  clear hw9
  obtain ⟨z0, z1, z2, z3⟩ := Ba.blk4 BX.out.box
  go_wp2_with fail
  refine (to_le _ _ _ _ _).mono ?_
  rintro e w1 ⟨rfl, b1⟩
  have BX1 := Lib.hid (BX.out.below b1)
  clear b1 BX
  clear z0 z1 z2 z3
  go_wp2_with fail
  refine (HS.out _).mono ?_
  rintro e w2 ⟨rfl, b2⟩
  have BX2 := Lib.hid (BX1.out.below b2)
  clear b2 BX1
  clear HS
  obtain ⟨z0, z1, z2, z3⟩ := Ba.blk4 BX2.out.box
  go_wp2_with fail
  refine (to_le _ _ _ _ _).mono ?_
  rintro e w3 ⟨rfl, b3⟩
  have BX3 := Lib.hid (BX2.out.below b3)
  clear b3 BX2
  clear z0 z1 z2 z3
  go_wp2_with fail
  refine (HI.out _).mono ?_
  rintro e w4 ⟨rfl, b4⟩
  have BX4 := Lib.hid (BX3.out.below b4)
  clear b4 BX3
  clear HI
  go_wp2_with fail
  go_ret
  exact ⟨rfl, BX4.out.bel⟩
set_option maxHeartbeats 1000000 in
theorem law_ma (a c s m a' c' s' m' x y z : Int) (w : World)
    (CS : ∀ w, Calls Try.prog 39 #[leV a c s m, leV a' c' s' m'] w fun e w' => e = .returned (.tuple #[.int .i64 x, .int .i64 y, .int .i64 z]) ∧ Below w.heap.size w w')
    (CI : ∀ w, Calls Try.prog 40 #[leV a c s m, leV a' c' s' m'] w fun e w' => e = .returned (.tuple #[.int .i64 x, .int .i64 y, .int .i64 z]) ∧ Below w.heap.size w w') :
    Calls Try.prog 12 #[leV a c s m, leV a' c' s' m'] w fun e w' => e = .returned (.bool true) ∧ Below w.heap.size w w' := by
  have HS := Lib.hid CS
  have HI := Lib.hid CI
  have T1 := Lib.hid (fun w => to_le a c s m w)
  have T2 := Lib.hid (fun w => to_le a' c' s' m' w)
  have BX := Lib.hid (Bx2.of w (laO a c s m) (laO a' c' s' m'))
  have ne_x : (x != x) = false := by simp
  have ne_y : (y != y) = false := by simp
  have ne_z : (z != z) = false := by simp
  clear CS CI
  go_enter Try.func12, Try.ntmps12
  go_upto_region 1 with fail
  generalize hw9 : World.alloc _ _ = w0 at BX ⊢
  clear hw9
  obtain ⟨z0, z1, z2, z3⟩ := Ba.blk4 BX.out.box
  obtain ⟨y0, y1, y2, y3⟩ := Ba.blk4 BX.out.frc
  have z0' := bey_cell z0
  have z1' := bey_cell z1
  have z2' := bey_cell z2
  have z3' := bey_cell z3
  have y0' := bey_cell y0
  have y1' := bey_cell y1
  have y2' := bey_cell y2
  have y3' := bey_cell y3
  clear z0 z1 z2 z3 y0 y1 y2 y3
  have D1 := Lib.hid (fun p : Beyond w0 => T1.out p.to)
  have D2 := Lib.hid (fun p : Beyond w0 => T2.out p.to)
  have D3 := Lib.hid (fun p : Beyond w0 => HS.out p.to)
  refine wp_region_below (by kernel_rfl) (by kernel_rfl) ?_
  repeat (go_big_quiet_step (first | (go_at_call_of 16 m; with_reducible exact bey_of _ (D1.out _)) | (go_at_call_of 16 m'; with_reducible exact bey_of _ (D2.out _)) | (go_at_call 39; with_reducible exact bey_of _ (D3.out _))))
  refine wpQuiet_nil ?_
  rintro _ ⟨pq0, rfl⟩
  have BY := Lib.hid (BX.out.below pq0.h)
  generalize pq0.to = w1 at BY ⊢
  clear BX z0' z1' z2' z3' y0' y1' y2' y3' D1 D2 D3
  have BX := BY
  clear BY
  go_upto_region 2 with fail
  obtain ⟨z0, z1, z2, z3⟩ := Ba.blk4 BX.out.box
  obtain ⟨y0, y1, y2, y3⟩ := Ba.blk4 BX.out.frc
  have z0' := bey_cell z0
  have z1' := bey_cell z1
  have z2' := bey_cell z2
  have z3' := bey_cell z3
  have y0' := bey_cell y0
  have y1' := bey_cell y1
  have y2' := bey_cell y2
  have y3' := bey_cell y3
  clear z0 z1 z2 z3 y0 y1 y2 y3
  have D1 := Lib.hid (fun p : Beyond w1 => T1.out p.to)
  have D2 := Lib.hid (fun p : Beyond w1 => T2.out p.to)
  have D3 := Lib.hid (fun p : Beyond w1 => HI.out p.to)
  refine wp_region_below (by kernel_rfl) (by kernel_rfl) ?_
  repeat (go_big_quiet_step (first | (go_at_call_of 16 m; with_reducible exact bey_of _ (D1.out _)) | (go_at_call_of 16 m'; with_reducible exact bey_of _ (D2.out _)) | (go_at_call 40; with_reducible exact bey_of _ (D3.out _))))
  refine wpQuiet_nil ?_
  rintro _ ⟨pq1, rfl⟩
  have BY := Lib.hid (BX.out.below pq1.h)
  generalize pq1.to = w2 at BY ⊢
  clear BX z0' z1' z2' z3' y0' y1' y2' y3' D1 D2 D3
  have BX := BY
  clear BY
  go_wp2_with fail
  go_ret
  exact ⟨rfl, BX.out.bel⟩
end Go.Proofs.Ytgclhkiiaclkgaa.Jgq
