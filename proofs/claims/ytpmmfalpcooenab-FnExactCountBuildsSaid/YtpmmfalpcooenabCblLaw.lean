/- The walk of the law of CountBuilds. -/
import Derived.Test.YtpmmfalpcooenabCdLib
import Derived.Test.YtpmmfalpcooenabBwLib
import Derived.Test.YtpmmfalpcooenabFiLib
import Derived.Deep.RegionHeld3
import Derived.Deep.DeepCutAuto
namespace Go.Proofs.Ytpmmfalpcooenab.Cbl
open Go.RowKit Ft Is Ge Qb Fi
set_option linter.unusedVariables false
set_option maxRecDepth 100000 in
set_option maxHeartbeats 8000000 in
theorem core (A0 : Option Addr) (n0 c0 : Nat) (f0 : Nat → Int) (v1 : Int) (w : World) (hm0 : n0 ≤ maxLen) (hR0 : Nums w w.heap.size A0 n0 f0) (hn0 : n0 ≤ 1048576) (hw1 : (Lit.int .i64 v1).wf = true) :
    Calls Try.prog 8 #[.slice A0 n0 c0, .int .i64 v1] w fun e w' => e = .returned (.bool true) ∧ Below w.heap.size w w' := by
  have R0 := Lib.hid hR0
  have T0n := Lib.hid (fun hn w h => to_ints A0 n0 c0 f0 hn w h)
  have Q0n := Lib.hid (fun hn A1 A2 c1 c2 w h1 h2 => eq_ints A1 A2 n0 c1 c2 f0 hn w h1 h2)
  have CS0 := Lib.hid (fun A0 c0 w h0 => Cb.spec_cb A0 n0 c0 f0 v1 hn0 w h0)
  have CI0 := Lib.hid (fun A0 c0 w h0 => Cb.impl_cb A0 n0 c0 f0 v1 hn0 w h0)
  generalize Cb.cbV n0 f0 v1 = q1 at CS0 CI0
  generalize Cb.cbC n0 f0 v1 = q2 at CS0 CI0
  have ne_q1 : (q1 != q1) = false := by simp
  have ne_q2 : (q2 != q2) = false := by simp
  clear hR0
  go_enter Try.func8, Try.ntmps8
  have B_0 := Lib.hid (Below.refl w.heap.size w)
  have CS := CS0
  have CI := CI0
  have T0 := Lib.hid (T0n.out hn0)
  have Q0 := Lib.hid (Q0n.out hn0)
  clear T0n Q0n
  go_wp2_with fail
  refine (T0.out _ ((R0.out.below B_0.out (Nat.le_refl _)).more B_0.out.size)).mono ?_
  rintro e w1 ⟨g1, rfl, hg1, a1, b1⟩
  have B_1 := Lib.hid (below_then B_0.out b1)
  have s_1 := b1.size
  have I0_1 := Lib.hid (at_nums a1.out)
  clear b1 B_0 hg1 a1
  go_wp2_with fail
  refine (CS.out _ _ _ I0_1.out).mono ?_
  rintro e w2 ⟨rfl, b2⟩
  have B_2 := Lib.hid (below_then B_1.out b2)
  have s_2 := b2.size
  have I0_2 := Lib.hid ((I0_1.out.below b2 (Nat.le_refl _)).more b2.size)
  clear b2 B_1 I0_1
  clear I0_2
  clear CS
  go_wp2_with fail
  refine (T0.out _ ((R0.out.below B_2.out (Nat.le_refl _)).more B_2.out.size)).mono ?_
  rintro e w3 ⟨g3, rfl, hg3, a3, b3⟩
  have B_3 := Lib.hid (below_then B_2.out b3)
  have s_3 := b3.size
  have H0_3 := Lib.hid (at_nums a3.out)
  clear b3 B_2 hg3 a3
  go_wp2_with fail
  refine (CI.out _ _ _ H0_3.out).mono ?_
  rintro e w4 ⟨rfl, b4⟩
  have B_4 := Lib.hid (below_then B_3.out b4)
  have s_4 := b4.size
  have H0_4 := Lib.hid ((H0_3.out.below b4 (Nat.le_refl _)).more b4.size)
  clear b4 B_3 H0_3
  go_wp2_with fail
  refine (T0.out _ ((R0.out.below B_4.out (Nat.le_refl _)).more B_4.out.size)).mono ?_
  rintro e w5 ⟨g5, rfl, hg5, a5, b5⟩
  have B_5 := Lib.hid (below_then B_4.out b5)
  have s_5 := b5.size
  have H0_5 := Lib.hid ((H0_4.out.below b5 (Nat.le_refl _)).more b5.size)
  have I0_5 := Lib.hid (at_nums a5.out)
  clear b5 B_4 H0_4 hg5 a5
  go_wp2_with fail
  refine (Q0.out _ _ _ _ _ H0_5.out I0_5.out).mono ?_
  rintro e w6 ⟨rfl, b6⟩
  have B_6 := Lib.hid (below_then B_5.out b6)
  have s_6 := b6.size
  have H0_6 := Lib.hid ((H0_5.out.below b6 (Nat.le_refl _)).more b6.size)
  have I0_6 := Lib.hid ((I0_5.out.below b6 (Nat.le_refl _)).more b6.size)
  clear b6 B_5 H0_5 I0_5
  clear I0_6
  clear H0_6
  go_wp2_with fail
  go_ret
  exact ⟨rfl, B_6.out⟩
theorem law (A0 : Option Addr) (n0 c0 : Nat) (f0 : Nat → Int) (v1 : Int) (w : World) (hm0 : n0 ≤ maxLen) (hR0 : Nums w w.heap.size A0 n0 f0) (hw1 : (Lit.int .i64 v1).wf = true) :
    Calls Try.prog 8 #[.slice A0 n0 c0, .int .i64 v1] w fun e w' => e = .returned (.bool true) ∧ Below w.heap.size w w' := by
  by_cases hb0 : 1048576 < n0
  · unfold maxLen at hm0
    clear hR0
    go_enter Try.func8, Try.ntmps8
    go_wp2_with fail
    go_ret
    exact ⟨rfl, by repeat (first | exact Below.refl _ _ | exact below_box _ _ | refine Below.alloc ?_ (by simp <;> omega) _)⟩
  have hn0 : n0 ≤ 1048576 := by omega
  exact core A0 n0 c0 f0 v1 w hm0 hR0 hn0 hw1
end Go.Proofs.Ytpmmfalpcooenab.Cbl
