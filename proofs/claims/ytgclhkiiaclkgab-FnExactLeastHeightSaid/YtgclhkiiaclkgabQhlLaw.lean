/- The walk of the law of LeastHeight. -/
import Derived.Test.YtgclhkiiaclkgabQrLib
import Derived.Test.YtgclhkiiaclkgabBwLib
import Derived.Test.YtgclhkiiaclkgabBlkLib
import Derived.Test.YtgclhkiiaclkgabFiLib
import Derived.Deep.RegionHeld3
import Derived.Deep.DeepCutAuto
namespace Go.Proofs.Ytgclhkiiaclkgab.Qhl
open Go.RowKit Ft Is Ge Qb Fi
set_option linter.unusedVariables false
set_option maxRecDepth 100000 in
set_option maxHeartbeats 8000000 in
theorem core (A0 : Option Addr) (n0 c0 : Nat) (f0 : Nat → Int) (v1 : Int) (w : World)  (hm0 : n0 ≤ maxLen) (hR0 : Nums w w.heap.size A0 (n0 * 2) f0) (hw1 : (Lit.int .i64 v1).wf = true) :
    Calls Try.prog 14 #[.slice A0 n0 c0, .int .i64 v1] w fun e w' => e = .returned (.bool true) ∧ Below w.heap.size w w' := by
  have R0 := Lib.hid hR0
  have Z0 := Lib.hid (fun l h0 h1 w => Blk.sz_rows A0 n0 c0 l h0 h1 hm0 w)
  have T0n := Lib.hid (fun hn w h => Blk.to_rows A0 n0 c0 f0 hn w h)
  have Q0n := Lib.hid (fun hn A1 A2 c1 c2 w h1 h2 => Blk.eq_rows A1 A2 n0 c1 c2 f0 hn w h1 h2)
  have CS0 := Lib.hid (fun (hn0 : n0 ≤ 1048576) => (fun A0 c0 w h0 => Qr.spec_lh A0 n0 c0 f0 v1 hn0 w h0))
  have CI0 := Lib.hid (fun (hn0 : n0 ≤ 1048576) => (fun A0 c0 w h0 => Pq.impl_lh A0 n0 c0 f0 v1 hn0 w h0))
  unfold Js.IAt at CS0 CI0
  generalize Pq.lhV v1 n0 f0 = r at CS0 CI0
  generalize Js.blC v1 n0 f0 = cd at CS0 CI0
  have ne_r : (r != r) = false := by simp
  have ne_cd : (cd != cd) = false := by simp
  clear hR0
  go_enter Try.func14, Try.ntmps14
  have B_0 := Lib.hid (Below.refl w.heap.size w)
  go_wp2_with fail
  refine (Z0.out _ (by omega) (by omega) _).mono ?_
  rintro e w1 ⟨r1, rfl, hp1, hq1, hs1, b1⟩
  have B_1 := Lib.hid (below_then B_0.out b1)
  have s_1 := b1.size
  clear b1 B_0
  by_cases hr1 : r1 < 0
  · go_wp2_with fail
    go_ret
    exact ⟨rfl, B_1.out⟩
  have hn0 : n0 ≤ 1048576 := hs1 (by omega)
  clear hs1 Z0
  have CS := Lib.hid (CS0.out hn0)
  have CI := Lib.hid (CI0.out hn0)
  clear CS0 CI0
  have T0 := Lib.hid (T0n.out hn0)
  have Q0 := Lib.hid (Q0n.out hn0)
  clear T0n Q0n
  go_wp2_with fail
  refine (T0.out _ ((R0.out.below B_1.out (Nat.le_refl _)).more B_1.out.size)).mono ?_
  rintro e w2 ⟨g2, rfl, hg2, a2, b2⟩
  have B_2 := Lib.hid (below_then B_1.out b2)
  have s_2 := b2.size
  have I0_2 := Lib.hid (Blk.at_nums a2.out)
  clear b2 B_1 hg2 a2
  go_wp2_with fail
  refine (CS.out _ _ _ I0_2.out).mono ?_
  rintro e w3 ⟨rfl, b3⟩
  have B_3 := Lib.hid (below_then B_2.out b3)
  have s_3 := b3.size
  have I0_3 := Lib.hid ((I0_2.out.below b3 (Nat.le_refl _)).more b3.size)
  clear b3 B_2 I0_2
  clear I0_3
  clear CS
  go_wp2_with fail
  refine (T0.out _ ((R0.out.below B_3.out (Nat.le_refl _)).more B_3.out.size)).mono ?_
  rintro e w4 ⟨g4, rfl, hg4, a4, b4⟩
  have B_4 := Lib.hid (below_then B_3.out b4)
  have s_4 := b4.size
  have H0_4 := Lib.hid (Blk.at_nums a4.out)
  clear b4 B_3 hg4 a4
  go_wp2_with fail
  refine (CI.out _ _ _ H0_4.out).mono ?_
  rintro e w5 ⟨rfl, b5⟩
  have B_5 := Lib.hid (below_then B_4.out b5)
  have s_5 := b5.size
  have H0_5 := Lib.hid ((H0_4.out.below b5 (Nat.le_refl _)).more b5.size)
  clear b5 B_4 H0_4
  go_wp2_with fail
  refine (T0.out _ ((R0.out.below B_5.out (Nat.le_refl _)).more B_5.out.size)).mono ?_
  rintro e w6 ⟨g6, rfl, hg6, a6, b6⟩
  have B_6 := Lib.hid (below_then B_5.out b6)
  have s_6 := b6.size
  have H0_6 := Lib.hid ((H0_5.out.below b6 (Nat.le_refl _)).more b6.size)
  have I0_6 := Lib.hid (Blk.at_nums a6.out)
  clear b6 B_5 H0_5 hg6 a6
  go_wp2_with fail
  refine (Q0.out _ _ _ _ _ H0_6.out I0_6.out).mono ?_
  rintro e w7 ⟨rfl, b7⟩
  have B_7 := Lib.hid (below_then B_6.out b7)
  have s_7 := b7.size
  have H0_7 := Lib.hid ((H0_6.out.below b7 (Nat.le_refl _)).more b7.size)
  have I0_7 := Lib.hid ((I0_6.out.below b7 (Nat.le_refl _)).more b7.size)
  clear b7 B_6 H0_6 I0_6
  clear I0_7
  clear H0_7
  go_wp2_with fail
  go_ret
  exact ⟨rfl, B_7.out⟩
theorem law (A0 : Option Addr) (n0 c0 : Nat) (f0 : Nat → Int) (v1 : Int) (w : World)  (hm0 : n0 ≤ maxLen) (hR0 : Nums w w.heap.size A0 (n0 * 2) f0) (hw1 : (Lit.int .i64 v1).wf = true) :
    Calls Try.prog 14 #[.slice A0 n0 c0, .int .i64 v1] w fun e w' => e = .returned (.bool true) ∧ Below w.heap.size w w' :=
  core A0 n0 c0 f0 v1 w hm0 hR0 hw1
end Go.Proofs.Ytgclhkiiaclkgab.Qhl
