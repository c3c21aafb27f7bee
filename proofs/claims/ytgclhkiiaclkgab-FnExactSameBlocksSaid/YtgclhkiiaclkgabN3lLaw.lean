/- The walk of the law of SameBlocks. -/
import Derived.Test.YtgclhkiiaclkgabN3Lib
import Derived.Test.YtgclhkiiaclkgabBwLib
import Derived.Deep.RegionHeld3
import Derived.Deep.DeepCutAuto
namespace Go.Proofs.Ytgclhkiiaclkgab.N3l
open Go.RowKit Ft Is Ge Qb
set_option linter.unusedVariables false
set_option maxRecDepth 100000 in
set_option maxHeartbeats 8000000 in
theorem core (A0 : Option Addr) (n0 c0 : Nat) (f0 : Nat → Int) (A1 : Option Addr) (n1 c1 : Nat) (f1 : Nat → Int) (w : World)  (hm0 : n0 ≤ maxLen) (hR0 : Nums w w.heap.size A0 (n0 * 2) f0) (hm1 : n1 ≤ maxLen) (hR1 : Nums w w.heap.size A1 (n1 * 2) f1) :
    Calls Try.prog 4 #[.slice A0 n0 c0, .slice A1 n1 c1] w fun e w' => e = .returned (.bool true) ∧ Below w.heap.size w w' := by
  have R0 := Lib.hid hR0
  have Z0 := Lib.hid (fun l h0 h1 w => Blk.sz_rows A0 n0 c0 l h0 h1 hm0 w)
  have T0n := Lib.hid (fun hn w h => Blk.to_rows A0 n0 c0 f0 hn w h)
  have Q0n := Lib.hid (fun hn A1 A2 c1 c2 w h1 h2 => Blk.eq_rows A1 A2 n0 c1 c2 f0 hn w h1 h2)
  have R1 := Lib.hid hR1
  have Z1 := Lib.hid (fun l h0 h1 w => Blk.sz_rows A1 n1 c1 l h0 h1 hm1 w)
  have T1n := Lib.hid (fun hn w h => Blk.to_rows A1 n1 c1 f1 hn w h)
  have Q1n := Lib.hid (fun hn A1 A2 c1 c2 w h1 h2 => Blk.eq_rows A1 A2 n1 c1 c2 f1 hn w h1 h2)
  have CS0 := Lib.hid (fun (hn0 : n0 ≤ 1048576) (hn1 : n1 ≤ 1048576) => (fun A0 c0 A1 c1 w h0 h1 => N3.spec_same A0 n0 c0 f0 A1 n1 c1 f1 hn0 hn1 w h0 h1))
  have CI0 := Lib.hid (fun (hn0 : n0 ≤ 1048576) (hn1 : n1 ≤ 1048576) => (fun A0 c0 A1 c1 w h0 h1 => N3.impl_same A0 n0 c0 f0 A1 n1 c1 f1 hn0 hn1 w h0 h1))
  generalize tv (N3.SP n0 f0 n1 f1) = r at CS0 CI0
  have ne_r : (r != r) = false := by simp
  clear hR0 hR1
  go_enter Try.func4, Try.ntmps4
  have B_0 := Lib.hid (Below.refl w.heap.size w)
  go_wp2_with fail
  refine (Z0.out _ (by omega) (by omega) _).mono ?_
  rintro e w1 ⟨r1, rfl, hp1, hq1, hs1, b1⟩
  have B_1 := Lib.hid (below_then B_0.out b1)
  have s_1 := b1.size
  clear b1 B_0
  by_cases hr1 : r1 < 0
  · go_wp2_with fail
    go_ret
    exact ⟨rfl, B_1.out⟩
  have hn0 : n0 ≤ 1048576 := hs1 (by omega)
  clear hs1 Z0
  go_wp2_with fail
  refine (Z1.out _ (by omega) (by omega) _).mono ?_
  rintro e w2 ⟨r2, rfl, hp2, hq2, hs2, b2⟩
  have B_2 := Lib.hid (below_then B_1.out b2)
  have s_2 := b2.size
  clear b2 B_1
  by_cases hr2 : r2 < 0
  · go_wp2_with fail
    go_ret
    exact ⟨rfl, B_2.out⟩
  have hn1 : n1 ≤ 1048576 := hs2 (by omega)
  clear hs2 Z1
  have CS := Lib.hid (CS0.out hn0 hn1)
  have CI := Lib.hid (CI0.out hn0 hn1)
  clear CS0 CI0
  have T0 := Lib.hid (T0n.out hn0)
  have Q0 := Lib.hid (Q0n.out hn0)
  clear T0n Q0n
  have T1 := Lib.hid (T1n.out hn1)
  have Q1 := Lib.hid (Q1n.out hn1)
  clear T1n Q1n
  go_wp2_with fail
  refine (T0.out _ ((R0.out.below B_2.out (Nat.le_refl _)).more B_2.out.size)).mono ?_
  rintro e w3 ⟨g3, rfl, hg3, a3, b3⟩
  have B_3 := Lib.hid (below_then B_2.out b3)
  have s_3 := b3.size
  have I0_3 := Lib.hid (Blk.at_nums a3.out)
  clear b3 B_2 hg3 a3
  go_wp2_with fail
  refine (T1.out _ ((R1.out.below B_3.out (Nat.le_refl _)).more B_3.out.size)).mono ?_
  rintro e w4 ⟨g4, rfl, hg4, a4, b4⟩
  have B_4 := Lib.hid (below_then B_3.out b4)
  have s_4 := b4.size
  have I0_4 := Lib.hid ((I0_3.out.below b4 (Nat.le_refl _)).more b4.size)
  have I1_4 := Lib.hid (Blk.at_nums a4.out)
  clear b4 B_3 I0_3 hg4 a4
  go_wp2_with fail
  refine (CS.out _ _ _ _ _ I0_4.out I1_4.out).mono ?_
  rintro e w5 ⟨rfl, b5⟩
  have B_5 := Lib.hid (below_then B_4.out b5)
  have s_5 := b5.size
  have I0_5 := Lib.hid ((I0_4.out.below b5 (Nat.le_refl _)).more b5.size)
  have I1_5 := Lib.hid ((I1_4.out.below b5 (Nat.le_refl _)).more b5.size)
  clear b5 B_4 I0_4 I1_4
  clear I0_5
  clear I1_5
  clear CS
  go_wp2_with fail
  refine (T0.out _ ((R0.out.below B_5.out (Nat.le_refl _)).more B_5.out.size)).mono ?_
  rintro e w6 ⟨g6, rfl, hg6, a6, b6⟩
  have B_6 := Lib.hid (below_then B_5.out b6)
  have s_6 := b6.size
  have H0_6 := Lib.hid (Blk.at_nums a6.out)
  clear b6 B_5 hg6 a6
  go_wp2_with fail
  refine (T1.out _ ((R1.out.below B_6.out (Nat.le_refl _)).more B_6.out.size)).mono ?_
  rintro e w7 ⟨g7, rfl, hg7, a7, b7⟩
  have B_7 := Lib.hid (below_then B_6.out b7)
  have s_7 := b7.size
  have H0_7 := Lib.hid ((H0_6.out.below b7 (Nat.le_refl _)).more b7.size)
  have H1_7 := Lib.hid (Blk.at_nums a7.out)
  clear b7 B_6 H0_6 hg7 a7
  go_wp2_with fail
  refine (CI.out _ _ _ _ _ H0_7.out H1_7.out).mono ?_
  rintro e w8 ⟨rfl, b8⟩
  have B_8 := Lib.hid (below_then B_7.out b8)
  have s_8 := b8.size
  have H0_8 := Lib.hid ((H0_7.out.below b8 (Nat.le_refl _)).more b8.size)
  have H1_8 := Lib.hid ((H1_7.out.below b8 (Nat.le_refl _)).more b8.size)
  clear b8 B_7 H0_7 H1_7
  go_wp2_with fail
  refine (T0.out _ ((R0.out.below B_8.out (Nat.le_refl _)).more B_8.out.size)).mono ?_
  rintro e w9 ⟨g9, rfl, hg9, a9, b9⟩
  have B_9 := Lib.hid (below_then B_8.out b9)
  have s_9 := b9.size
  have H0_9 := Lib.hid ((H0_8.out.below b9 (Nat.le_refl _)).more b9.size)
  have H1_9 := Lib.hid ((H1_8.out.below b9 (Nat.le_refl _)).more b9.size)
  have I0_9 := Lib.hid (Blk.at_nums a9.out)
  clear b9 B_8 H0_8 H1_8 hg9 a9
  go_wp2_with fail
  refine (Q0.out _ _ _ _ _ H0_9.out I0_9.out).mono ?_
  rintro e w10 ⟨rfl, b10⟩
  have B_10 := Lib.hid (below_then B_9.out b10)
  have s_10 := b10.size
  have H0_10 := Lib.hid ((H0_9.out.below b10 (Nat.le_refl _)).more b10.size)
  have H1_10 := Lib.hid ((H1_9.out.below b10 (Nat.le_refl _)).more b10.size)
  have I0_10 := Lib.hid ((I0_9.out.below b10 (Nat.le_refl _)).more b10.size)
  clear b10 B_9 H0_9 H1_9 I0_9
  clear I0_10
  clear H0_10
  go_wp2_with fail
  refine (T1.out _ ((R1.out.below B_10.out (Nat.le_refl _)).more B_10.out.size)).mono ?_
  rintro e w11 ⟨g11, rfl, hg11, a11, b11⟩
  have B_11 := Lib.hid (below_then B_10.out b11)
  have s_11 := b11.size
  have H1_11 := Lib.hid ((H1_10.out.below b11 (Nat.le_refl _)).more b11.size)
  have I1_11 := Lib.hid (Blk.at_nums a11.out)
  clear b11 B_10 H1_10 hg11 a11
  go_wp2_with fail
  refine (Q1.out _ _ _ _ _ H1_11.out I1_11.out).mono ?_
  rintro e w12 ⟨rfl, b12⟩
  have B_12 := Lib.hid (below_then B_11.out b12)
  have s_12 := b12.size
  have H1_12 := Lib.hid ((H1_11.out.below b12 (Nat.le_refl _)).more b12.size)
  have I1_12 := Lib.hid ((I1_11.out.below b12 (Nat.le_refl _)).more b12.size)
  clear b12 B_11 H1_11 I1_11
  clear I1_12
  clear H1_12
  go_wp2_with fail
  go_ret
  exact ⟨rfl, B_12.out⟩
theorem law (A0 : Option Addr) (n0 c0 : Nat) (f0 : Nat → Int) (A1 : Option Addr) (n1 c1 : Nat) (f1 : Nat → Int) (w : World)  (hm0 : n0 ≤ maxLen) (hR0 : Nums w w.heap.size A0 (n0 * 2) f0) (hm1 : n1 ≤ maxLen) (hR1 : Nums w w.heap.size A1 (n1 * 2) f1) :
    Calls Try.prog 4 #[.slice A0 n0 c0, .slice A1 n1 c1] w fun e w' => e = .returned (.bool true) ∧ Below w.heap.size w w' :=
  core A0 n0 c0 f0 A1 n1 c1 f1 w hm0 hR0 hm1 hR1
end Go.Proofs.Ytgclhkiiaclkgab.N3l
