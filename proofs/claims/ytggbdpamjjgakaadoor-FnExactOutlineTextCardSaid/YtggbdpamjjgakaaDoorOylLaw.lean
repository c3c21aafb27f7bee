/- The walk of the law of OutlineText. -/
import Derived.Test.YtggbdpamjjgakaaDoorOyLib
import Derived.Deep.RegionHeld3
import Derived.Deep.DeepCutAuto
namespace Go.Proofs.YtggbdpamjjgakaaDoor.Oyl
open Go.RowKit Go.Proofs.YtggbdpamjjgakaaDoor.Ft Is Ge Qb
set_option linter.unusedVariables false
set_option maxRecDepth 100000 in
set_option maxHeartbeats 4000000 in
theorem law (A0 : Option Addr) (n0 c0 : Nat) (f0 : Nat → Int) (w : World) (hV : Tb.Tab w) (hm0 : n0 ≤ maxLen) (hR0 : Nums w w.heap.size A0 (n0 * 2) f0) :
    Calls Tryd.prog 3 #[.slice A0 n0 c0] w fun e w' => e = .returned (.bool true) ∧ Below w.heap.size w w' := by
  have R0 := Lib.hid hR0
  have Z0 := Lib.hid (fun l h0 h1 w => Ot.sz_spots A0 n0 c0 l h0 h1 hm0 w)
  have T0n := Lib.hid (fun hn w h => Ot.to_spots A0 n0 c0 f0 hn w h)
  have Q0n := Lib.hid (fun hn A1 A2 c1 c2 w h1 h2 => Ot.eq_spots A1 A2 n0 c1 c2 f0 hn w h1 h2)
  have CS0 := Lib.hid (fun (hn0 : n0 ≤ 1048576) => (fun A0 c0 w h0 => Oy.spec_tx A0 n0 c0 f0 hn0 w h0))
  have CI0 := Lib.hid (fun (hn0 : n0 ≤ 1048576) => (fun A0 c0 w' hb h0 => Oy.impl_tx A0 n0 c0 f0 hn0 w' (hV.below hb) h0))
  generalize Ox.oT n0 f0 = T at CS0 CI0
  clear hR0 hV
  go_enter Tryd.func3, Tryd.ntmps3
  have B_0 := Lib.hid (Below.refl w.heap.size w)
  go_wp2_with fail
  refine (Z0.out _ (by omega) (by omega) _).mono ?_
  rintro e w1 ⟨r1, rfl, hp1, hq1, hs1, b1⟩
  have B_1 := Lib.hid (below_then B_0.out b1)
  have s_1 := b1.size
  clear b1 B_0
  by_cases hr1 : r1 < 0
  · go_wp2_with fail
    go_ret
    exact ⟨rfl, B_1.out⟩
  have hn0 : n0 ≤ 1048576 := hs1 (by omega)
  clear hs1 Z0
  have CS := Lib.hid (CS0.out hn0)
  have CI := Lib.hid (CI0.out hn0)
  have T0 := Lib.hid (T0n.out hn0)
  have Q0 := Lib.hid (Q0n.out hn0)
  clear CS0 CI0 T0n Q0n
  go_wp2_with fail
  refine (T0.out _ ((R0.out.below B_1.out (Nat.le_refl _)).more B_1.out.size)).mono ?_
  rintro e w2 ⟨g2, rfl, hg2, a2, b2⟩
  have B_2 := Lib.hid (below_then B_1.out b2)
  have I_2 := Lib.hid (Ot.at_nums a2.out)
  clear b2 B_1 hg2 a2
  go_wp2_with fail
  refine (CS.out _ _ _ I_2.out).mono ?_
  rintro e w3 ⟨rfl, b3⟩
  have B_3 := Lib.hid (below_then B_2.out b3)
  clear b3 B_2 I_2 CS
  go_wp2_with fail
  refine (T0.out _ ((R0.out.below B_3.out (Nat.le_refl _)).more B_3.out.size)).mono ?_
  rintro e w4 ⟨g4, rfl, hg4, a4, b4⟩
  have B_4 := Lib.hid (below_then B_3.out b4)
  have H_4 := Lib.hid (Ot.at_nums a4.out)
  clear b4 B_3 hg4 a4
  go_wp2_with fail
  refine (CI.out _ _ _ B_4.out H_4.out).mono ?_
  rintro e w5 ⟨rfl, b5⟩
  have B_5 := Lib.hid (below_then B_4.out b5)
  have H_5 := Lib.hid ((H_4.out.below b5 (Nat.le_refl _)).more b5.size)
  clear b5 B_4 H_4 CI
  go_wp2_with fail
  refine (T0.out _ ((R0.out.below B_5.out (Nat.le_refl _)).more B_5.out.size)).mono ?_
  rintro e w6 ⟨g6, rfl, hg6, a6, b6⟩
  have B_6 := Lib.hid (below_then B_5.out b6)
  have H_6 := Lib.hid ((H_5.out.below b6 (Nat.le_refl _)).more b6.size)
  have I_6 := Lib.hid (Ot.at_nums a6.out)
  clear b6 B_5 H_5 hg6 a6
  go_wp2_with fail
  refine (Q0.out _ _ _ _ _ H_6.out I_6.out).mono ?_
  rintro e w7 ⟨rfl, b7⟩
  have B_7 := Lib.hid (below_then B_6.out b7)
  clear b7 B_6 H_6 I_6
  go_wp2_with fail
  go_ret
  exact ⟨rfl, B_7.out⟩
end Go.Proofs.YtggbdpamjjgakaaDoor.Oyl
