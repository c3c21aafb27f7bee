/- The walk of the law of NotchFault. -/
import Derived.Test.YtpmmfalpcooenaaDoorC9zLib
import Derived.Test.YtpmmfalpcooenaaDoorBwLib
import Derived.Test.YtpmmfalpcooenaaDoorFiLib
import Derived.Deep.RegionHeld3
import Derived.Deep.DeepCutAuto
namespace Go.Proofs.YtpmmfalpcooenaaDoor.C9xl
open Go.RowKit Ft Is Ge Qb Fi
set_option linter.unusedVariables false
set_option maxRecDepth 100000 in
set_option maxHeartbeats 8000000 in
theorem core (v0 : Int) (v1 : Int) (A2 : Option Addr) (n2 c2 : Nat) (f2 : Nat → Int) (A3 : Option Addr) (n3 c3 : Nat) (f3 : Nat → Int) (v4 : Int) (w : World) (hV : Er.V4 w) (hw0 : (Lit.int .i64 v0).wf = true) (hw1 : (Lit.int .i64 v1).wf = true) (hm2 : n2 ≤ maxLen) (hR2 : Nums w w.heap.size A2 n2 f2) (hn2 : n2 ≤ 1048576) (hm3 : n3 ≤ maxLen) (hR3 : Nums w w.heap.size A3 n3 f3) (hn3 : n3 ≤ 1048576) (hw4 : (Lit.int .i64 v4).wf = true) :
    Calls Tryd.prog 9 #[.int .i64 v0, .int .i64 v1, .slice A2 n2 c2, .slice A3 n3 c3, .int .i64 v4] w fun e w' => e = .returned (.bool true) ∧ Below w.heap.size w w' := by
  have R2 := Lib.hid hR2
  have T2n := Lib.hid (fun hn w h => to_ints A2 n2 c2 f2 hn w h)
  have Q2n := Lib.hid (fun hn A1 A2 c1 c2 w h1 h2 => eq_ints A1 A2 n2 c1 c2 f2 hn w h1 h2)
  have R3 := Lib.hid hR3
  have T3n := Lib.hid (fun hn w h => to_ints A3 n3 c3 f3 hn w h)
  have Q3n := Lib.hid (fun hn A1 A2 c1 c2 w h1 h2 => eq_ints A1 A2 n3 c1 c2 f3 hn w h1 h2)
  have CS0 := Lib.hid (fun A2 c2 A3 c3 w h2 h3 => C9x.spec_nf v0 v1 v4 A2 n2 c2 f2 hn2 A3 n3 c3 f3 hn3 w h2 h3)
  have CI0 := Lib.hid (fun A2 c2 A3 c3 w' hb h2 h3 => C9z.impl_nf v0 v1 v4 A2 n2 c2 f2 hn2 A3 n3 c3 f3 hn3 w' (hV.below hb) h2 h3)
  unfold C9f.TwoAt at CS0 CI0
  generalize C9x.nfX v0 v1 v4 n2 f2 n3 f3 = r at CS0 CI0
  generalize C9x.nfC v0 v1 v4 n2 f2 n3 f3 = cd at CS0 CI0
  have ne_r : (r != r) = false := by simp
  have ne_cd : (cd != cd) = false := by simp
  clear hR2 hR3
  go_enter Tryd.func9, Tryd.ntmps9
  have B_0 := Lib.hid (Below.refl w.heap.size w)
  have CS := CS0
  have CI := CI0
  have T2 := Lib.hid (T2n.out hn2)
  have Q2 := Lib.hid (Q2n.out hn2)
  clear T2n Q2n
  have T3 := Lib.hid (T3n.out hn3)
  have Q3 := Lib.hid (Q3n.out hn3)
  clear T3n Q3n
  go_wp2_with fail
  refine (T2.out _ ((R2.out.below B_0.out (Nat.le_refl _)).more B_0.out.size)).mono ?_
  rintro e w1 ⟨g1, rfl, hg1, a1, b1⟩
  have B_1 := Lib.hid (below_then B_0.out b1)
  have s_1 := b1.size
  have I2_1 := Lib.hid (at_nums a1.out)
  clear b1 B_0 hg1 a1
  go_wp2_with fail
  refine (T3.out _ ((R3.out.below B_1.out (Nat.le_refl _)).more B_1.out.size)).mono ?_
  rintro e w2 ⟨g2, rfl, hg2, a2, b2⟩
  have B_2 := Lib.hid (below_then B_1.out b2)
  have s_2 := b2.size
  have I2_2 := Lib.hid ((I2_1.out.below b2 (Nat.le_refl _)).more b2.size)
  have I3_2 := Lib.hid (at_nums a2.out)
  clear b2 B_1 I2_1 hg2 a2
  go_wp2_with fail
  refine (CS.out _ _ _ _ _ I2_2.out I3_2.out).mono ?_
  rintro e w3 ⟨rfl, b3⟩
  have B_3 := Lib.hid (below_then B_2.out b3)
  have s_3 := b3.size
  have I2_3 := Lib.hid ((I2_2.out.below b3 (Nat.le_refl _)).more b3.size)
  have I3_3 := Lib.hid ((I3_2.out.below b3 (Nat.le_refl _)).more b3.size)
  clear b3 B_2 I2_2 I3_2
  clear I2_3
  clear I3_3
  clear CS
  go_wp2_with fail
  refine (T2.out _ ((R2.out.below B_3.out (Nat.le_refl _)).more B_3.out.size)).mono ?_
  rintro e w4 ⟨g4, rfl, hg4, a4, b4⟩
  have B_4 := Lib.hid (below_then B_3.out b4)
  have s_4 := b4.size
  have H2_4 := Lib.hid (at_nums a4.out)
  clear b4 B_3 hg4 a4
  go_wp2_with fail
  refine (T3.out _ ((R3.out.below B_4.out (Nat.le_refl _)).more B_4.out.size)).mono ?_
  rintro e w5 ⟨g5, rfl, hg5, a5, b5⟩
  have B_5 := Lib.hid (below_then B_4.out b5)
  have s_5 := b5.size
  have H2_5 := Lib.hid ((H2_4.out.below b5 (Nat.le_refl _)).more b5.size)
  have H3_5 := Lib.hid (at_nums a5.out)
  clear b5 B_4 H2_4 hg5 a5
  go_wp2_with fail
  refine (CI.out _ _ _ _ _ B_5.out H2_5.out H3_5.out).mono ?_
  rintro e w6 ⟨rfl, b6⟩
  have B_6 := Lib.hid (below_then B_5.out b6)
  have s_6 := b6.size
  have H2_6 := Lib.hid ((H2_5.out.below b6 (Nat.le_refl _)).more b6.size)
  have H3_6 := Lib.hid ((H3_5.out.below b6 (Nat.le_refl _)).more b6.size)
  clear b6 B_5 H2_5 H3_5
  go_wp2_with fail
  refine (T2.out _ ((R2.out.below B_6.out (Nat.le_refl _)).more B_6.out.size)).mono ?_
  rintro e w7 ⟨g7, rfl, hg7, a7, b7⟩
  have B_7 := Lib.hid (below_then B_6.out b7)
  have s_7 := b7.size
  have H2_7 := Lib.hid ((H2_6.out.below b7 (Nat.le_refl _)).more b7.size)
  have H3_7 := Lib.hid ((H3_6.out.below b7 (Nat.le_refl _)).more b7.size)
  have I2_7 := Lib.hid (at_nums a7.out)
  clear b7 B_6 H2_6 H3_6 hg7 a7
  go_wp2_with fail
  refine (Q2.out _ _ _ _ _ H2_7.out I2_7.out).mono ?_
  rintro e w8 ⟨rfl, b8⟩
  have B_8 := Lib.hid (below_then B_7.out b8)
  have s_8 := b8.size
  have H2_8 := Lib.hid ((H2_7.out.below b8 (Nat.le_refl _)).more b8.size)
  have H3_8 := Lib.hid ((H3_7.out.below b8 (Nat.le_refl _)).more b8.size)
  have I2_8 := Lib.hid ((I2_7.out.below b8 (Nat.le_refl _)).more b8.size)
  clear b8 B_7 H2_7 H3_7 I2_7
  clear I2_8
  clear H2_8
  go_wp2_with fail
  refine (T3.out _ ((R3.out.below B_8.out (Nat.le_refl _)).more B_8.out.size)).mono ?_
  rintro e w9 ⟨g9, rfl, hg9, a9, b9⟩
  have B_9 := Lib.hid (below_then B_8.out b9)
  have s_9 := b9.size
  have H3_9 := Lib.hid ((H3_8.out.below b9 (Nat.le_refl _)).more b9.size)
  have I3_9 := Lib.hid (at_nums a9.out)
  clear b9 B_8 H3_8 hg9 a9
  go_wp2_with fail
  refine (Q3.out _ _ _ _ _ H3_9.out I3_9.out).mono ?_
  rintro e w10 ⟨rfl, b10⟩
  have B_10 := Lib.hid (below_then B_9.out b10)
  have s_10 := b10.size
  have H3_10 := Lib.hid ((H3_9.out.below b10 (Nat.le_refl _)).more b10.size)
  have I3_10 := Lib.hid ((I3_9.out.below b10 (Nat.le_refl _)).more b10.size)
  clear b10 B_9 H3_9 I3_9
  clear I3_10
  clear H3_10
  go_wp2_with fail
  go_ret
  exact ⟨rfl, B_10.out⟩
theorem law (v0 : Int) (v1 : Int) (A2 : Option Addr) (n2 c2 : Nat) (f2 : Nat → Int) (A3 : Option Addr) (n3 c3 : Nat) (f3 : Nat → Int) (v4 : Int) (w : World) (hV : Er.V4 w) (hw0 : (Lit.int .i64 v0).wf = true) (hw1 : (Lit.int .i64 v1).wf = true) (hm2 : n2 ≤ maxLen) (hR2 : Nums w w.heap.size A2 n2 f2) (hm3 : n3 ≤ maxLen) (hR3 : Nums w w.heap.size A3 n3 f3) (hw4 : (Lit.int .i64 v4).wf = true) :
    Calls Tryd.prog 9 #[.int .i64 v0, .int .i64 v1, .slice A2 n2 c2, .slice A3 n3 c3, .int .i64 v4] w fun e w' => e = .returned (.bool true) ∧ Below w.heap.size w w' := by
  by_cases hb2 : 1048576 < n2
  · unfold maxLen at hm2
    clear hR2 hR3
    go_enter Tryd.func9, Tryd.ntmps9
    go_wp2_with fail
    go_ret
    exact ⟨rfl, by repeat (first | exact Below.refl _ _ | exact below_box _ _ | refine Below.alloc ?_ (by simp <;> omega) _)⟩
  have hn2 : n2 ≤ 1048576 := by omega
  by_cases hb3 : 1048576 < n3
  · unfold maxLen at hm3
    clear hR2 hR3
    go_enter Tryd.func9, Tryd.ntmps9
    go_wp2_with fail
    go_ret
    exact ⟨rfl, by repeat (first | exact Below.refl _ _ | exact below_box _ _ | refine Below.alloc ?_ (by simp <;> omega) _)⟩
  have hn3 : n3 ≤ 1048576 := by omega
  exact core v0 v1 A2 n2 c2 f2 A3 n3 c3 f3 v4 w hV hw0 hw1 hm2 hR2 hn2 hm3 hR3 hn3 hw4
end Go.Proofs.YtpmmfalpcooenaaDoor.C9xl
