/- The walk of the law of FoldLength. -/
import Derived.Test.YtpmmfalpcooenaaDoorC9fLib
import Derived.Test.YtpmmfalpcooenaaDoorBwLib
import Derived.Test.YtpmmfalpcooenaaDoorFiLib
import Derived.Deep.RegionHeld3
import Derived.Deep.DeepCutAuto
namespace Go.Proofs.YtpmmfalpcooenaaDoor.C9fl
open Go.RowKit Ft Is Ge Qb Fi
set_option linter.unusedVariables false
set_option maxRecDepth 100000 in
set_option maxHeartbeats 8000000 in
theorem core (v0 : Int) (A1 : Option Addr) (n1 c1 : Nat) (f1 : Nat → Int) (v2 : Int) (w : World) (hV : Er.V3 w) (hw0 : (Lit.int .i64 v0).wf = true) (hm1 : n1 ≤ maxLen) (hR1 : Nums w w.heap.size A1 n1 f1) (hn1 : n1 ≤ 1048576) (hw2 : (Lit.int .i64 v2).wf = true) :
    Calls Tryd.prog 11 #[.int .i64 v0, .slice A1 n1 c1, .int .i64 v2] w fun e w' => e = .returned (.bool true) ∧ Below w.heap.size w w' := by
  have R1 := Lib.hid hR1
  have T1n := Lib.hid (fun hn w h => to_ints A1 n1 c1 f1 hn w h)
  have Q1n := Lib.hid (fun hn A1 A2 c1 c2 w h1 h2 => eq_ints A1 A2 n1 c1 c2 f1 hn w h1 h2)
  have CS0 := Lib.hid (fun A1 c1 w h1 => C9f.spec_fo v0 v2 A1 n1 c1 f1 hn1 w h1)
  have CI0 := Lib.hid (fun A1 c1 w' hb h1 => C9f.impl_fo v0 v2 A1 n1 c1 f1 hn1 w' (hV.below hb) h1)
  unfold C9f.TwoAt at CS0 CI0
  generalize C9f.foX v0 v2 n1 f1 = r at CS0 CI0
  generalize C9f.foC v0 v2 n1 f1 = cd at CS0 CI0
  have ne_r : (r != r) = false := by simp
  have ne_cd : (cd != cd) = false := by simp
  clear hR1
  go_enter Tryd.func11, Tryd.ntmps11
  have B_0 := Lib.hid (Below.refl w.heap.size w)
  have CS := CS0
  have CI := CI0
  have T1 := Lib.hid (T1n.out hn1)
  have Q1 := Lib.hid (Q1n.out hn1)
  clear T1n Q1n
  go_wp2_with fail
  refine (T1.out _ ((R1.out.below B_0.out (Nat.le_refl _)).more B_0.out.size)).mono ?_
  rintro e w1 ⟨g1, rfl, hg1, a1, b1⟩
  have B_1 := Lib.hid (below_then B_0.out b1)
  have s_1 := b1.size
  have I1_1 := Lib.hid (at_nums a1.out)
  clear b1 B_0 hg1 a1
  go_wp2_with fail
  refine (CS.out _ _ _ I1_1.out).mono ?_
  rintro e w2 ⟨rfl, b2⟩
  have B_2 := Lib.hid (below_then B_1.out b2)
  have s_2 := b2.size
  have I1_2 := Lib.hid ((I1_1.out.below b2 (Nat.le_refl _)).more b2.size)
  clear b2 B_1 I1_1
  clear I1_2
  clear CS
  go_wp2_with fail
  refine (T1.out _ ((R1.out.below B_2.out (Nat.le_refl _)).more B_2.out.size)).mono ?_
  rintro e w3 ⟨g3, rfl, hg3, a3, b3⟩
  have B_3 := Lib.hid (below_then B_2.out b3)
  have s_3 := b3.size
  have H1_3 := Lib.hid (at_nums a3.out)
  clear b3 B_2 hg3 a3
  go_wp2_with fail
  refine (CI.out _ _ _ B_3.out H1_3.out).mono ?_
  rintro e w4 ⟨rfl, b4⟩
  have B_4 := Lib.hid (below_then B_3.out b4)
  have s_4 := b4.size
  have H1_4 := Lib.hid ((H1_3.out.below b4 (Nat.le_refl _)).more b4.size)
  clear b4 B_3 H1_3
  go_wp2_with fail
  refine (T1.out _ ((R1.out.below B_4.out (Nat.le_refl _)).more B_4.out.size)).mono ?_
  rintro e w5 ⟨g5, rfl, hg5, a5, b5⟩
  have B_5 := Lib.hid (below_then B_4.out b5)
  have s_5 := b5.size
  have H1_5 := Lib.hid ((H1_4.out.below b5 (Nat.le_refl _)).more b5.size)
  have I1_5 := Lib.hid (at_nums a5.out)
  clear b5 B_4 H1_4 hg5 a5
  go_wp2_with fail
  refine (Q1.out _ _ _ _ _ H1_5.out I1_5.out).mono ?_
  rintro e w6 ⟨rfl, b6⟩
  have B_6 := Lib.hid (below_then B_5.out b6)
  have s_6 := b6.size
  have H1_6 := Lib.hid ((H1_5.out.below b6 (Nat.le_refl _)).more b6.size)
  have I1_6 := Lib.hid ((I1_5.out.below b6 (Nat.le_refl _)).more b6.size)
  clear b6 B_5 H1_5 I1_5
  clear I1_6
  clear H1_6
  go_wp2_with fail
  go_ret
  exact ⟨rfl, B_6.out⟩
theorem law (v0 : Int) (A1 : Option Addr) (n1 c1 : Nat) (f1 : Nat → Int) (v2 : Int) (w : World) (hV : Er.V3 w) (hw0 : (Lit.int .i64 v0).wf = true) (hm1 : n1 ≤ maxLen) (hR1 : Nums w w.heap.size A1 n1 f1) (hw2 : (Lit.int .i64 v2).wf = true) :
    Calls Tryd.prog 11 #[.int .i64 v0, .slice A1 n1 c1, .int .i64 v2] w fun e w' => e = .returned (.bool true) ∧ Below w.heap.size w w' := by
  by_cases hb1 : 1048576 < n1
  · unfold maxLen at hm1
    clear hR1
    go_enter Tryd.func11, Tryd.ntmps11
    go_wp2_with fail
    go_ret
    exact ⟨rfl, by repeat (first | exact Below.refl _ _ | exact below_box _ _ | refine Below.alloc ?_ (by simp <;> omega) _)⟩
  have hn1 : n1 ≤ 1048576 := by omega
  exact core v0 A1 n1 c1 f1 v2 w hV hw0 hm1 hR1 hn1 hw2
end Go.Proofs.YtpmmfalpcooenaaDoor.C9fl
