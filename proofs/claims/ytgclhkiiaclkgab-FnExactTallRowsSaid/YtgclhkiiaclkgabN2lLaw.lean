/- The walk of the law of TallRows. -/
import Derived.Test.YtgclhkiiaclkgabPiLib
import Derived.Test.YtgclhkiiaclkgabN2Lib
import Derived.Test.YtgclhkiiaclkgabBwLib
import Derived.Test.YtgclhkiiaclkgabBlkLib
import Derived.Test.YtgclhkiiaclkgabFiLib
import Derived.Deep.RegionHeld3
import Derived.Deep.DeepCutAuto
namespace Go.Proofs.Ytgclhkiiaclkgab.N2l
open Go.RowKit Ft Is Ge Qb Fi
set_option linter.unusedVariables false
set_option maxRecDepth 100000 in
set_option maxHeartbeats 8000000 in
theorem core (A0 : Option Addr) (n0 c0 : Nat) (f0 : Nat → Int) (v1 : Int) (w : World)  (hm0 : n0 ≤ maxLen) (hR0 : Nums w w.heap.size A0 (n0 * 2) f0) (hw1 : (Lit.int .i64 v1).wf = true) :
    Calls Try.prog 8 #[.slice A0 n0 c0, .int .i64 v1] w fun e w' => e = .returned (.bool true) ∧ Below w.heap.size w w' := by
  have R0 := Lib.hid hR0
  have Z0 := Lib.hid (fun l h0 h1 w => Blk.sz_rows A0 n0 c0 l h0 h1 hm0 w)
  have T0n := Lib.hid (fun hn w h => Blk.to_rows A0 n0 c0 f0 hn w h)
  have Q0n := Lib.hid (fun hn A1 A2 c1 c2 w h1 h2 => Blk.eq_rows A1 A2 n0 c1 c2 f0 hn w h1 h2)
  have M0n := Lib.hid (fun hn k0 h0 h1 g c w h => Blk.mark_at g n0 c k0 f0 hn h0 h1 w h)
  have CS0 := Lib.hid (fun (hn0 : n0 ≤ 1048576) => (fun A0 c0 w h0 => N2.spec_tr A0 n0 c0 f0 v1 hn0 w h0))
  have CI0 := Lib.hid (fun (hn0 : n0 ≤ 1048576) => (fun A0 c0 w h0 => Pi.impl_tr A0 n0 c0 f0 v1 hn0 w h0))
  have hb_m : Jx.rwN v1 n0 f0 ≤ 1048576 := Jx.rwn_small _ _ _
  unfold Jx.RowAt Ow.PairAt at CS0 CI0
  generalize (Jw.fst v1 f0 (N2.ord f0 n0) n0).2 = d at CS0 CI0
  generalize Jx.rwN v1 n0 f0 = m at CS0 CI0 hb_m
  generalize Js.blC v1 n0 f0 = cd at CS0 CI0
  have ne_cd : (cd != cd) = false := by simp
  have EQ_m := Lib.hid (fun A1 A2 c1 c2 w h1 h2 => eq_ints A1 A2 m c1 c2 d hb_m w h1 h2)
  have MK_m := Lib.hid (fun A c B w (hB : B ≤ w.heap.size) h => mark_ints A m c 1 d hb_m (by omega) (by omega) B w h)
  have HE_m := Lib.hid (fun A c w h => Bw.held_same A m c 1 hb_m (by omega) (by omega) w h)
  have hM_m : 0 ≤ mk 1 m := by unfold mk; omega
  generalize mk 1 m = M_m at MK_m HE_m hM_m
  have neM_m : (M_m != M_m) = false := by simp
  clear hR0
  go_enter Try.func8, Try.ntmps8
  have B_0 := Lib.hid (Below.refl w.heap.size w)
  go_wp2_with fail
  refine (Z0.out _ (by omega) (by omega) _).mono ?_
  rintro e w1 ⟨r1, rfl, hp1, hq1, hs1, b1⟩
  have B_1 := Lib.hid (below_then B_0.out b1)
  have s_1 := b1.size
  clear b1 B_0
  by_cases hr1 : r1 < 0
  · go_wp2_with fail
    go_ret
    exact ⟨rfl, B_1.out⟩
  have hn0 : n0 ≤ 1048576 := hs1 (by omega)
  clear hs1 Z0
  have CS := Lib.hid (CS0.out hn0)
  have CI := Lib.hid (CI0.out hn0)
  clear CS0 CI0
  have T0 := Lib.hid (T0n.out hn0)
  have Q0 := Lib.hid (Q0n.out hn0)
  have M0 := Lib.hid (M0n.out hn0)
  clear T0n Q0n M0n
  go_wp2_with fail
  refine (T0.out _ ((R0.out.below B_1.out (Nat.le_refl _)).more B_1.out.size)).mono ?_
  rintro e w2 ⟨g2, rfl, hg2, a2, b2⟩
  have B_2 := Lib.hid (below_then B_1.out b2)
  have s_2 := b2.size
  have I0_2 := Lib.hid (Blk.at_nums a2.out)
  clear b2 B_1 hg2 a2
  go_wp2_with fail
  refine (CS.out _ _ _ I0_2.out).mono ?_
  rintro e w3 ⟨AW0, cW0, rfl, HW0, b3⟩
  have B_3 := Lib.hid (below_then B_2.out b3)
  have s_3 := b3.size
  have I0_3 := Lib.hid ((I0_2.out.below b3 (Nat.le_refl _)).more b3.size)
  clear b3 B_2 I0_2
  have W0_3 := Lib.hid HW0.out.nums
  clear HW0
  clear I0_3
  clear CS
  go_wp2_with fail
  refine (T0.out _ ((R0.out.below B_3.out (Nat.le_refl _)).more B_3.out.size)).mono ?_
  rintro e w4 ⟨g4, rfl, hg4, a4, b4⟩
  have B_4 := Lib.hid (below_then B_3.out b4)
  have s_4 := b4.size
  have W0_4 := Lib.hid (W0_3.out.below b4 (by omega))
  have H0_4 := Lib.hid (Blk.at_nums a4.out)
  have C0_4 := Lib.hid (a4.out)
  have lg0 := a4.out.1
  have hh0 := hg4
  clear b4 B_3 W0_3 hg4 a4
  go_wp2_with fail
  refine (CI.out _ _ _ H0_4.out).mono ?_
  rintro e w5 ⟨AG0, cG0, rfl, HG0, b5⟩
  have B_5 := Lib.hid (below_then B_4.out b5)
  have s_5 := b5.size
  have W0_5 := Lib.hid (W0_4.out.below b5 (by omega))
  have H0_5 := Lib.hid ((H0_4.out.below b5 (Nat.le_refl _)).more b5.size)
  have C0_5 := Lib.hid (C0_4.out.below b5)
  clear b5 B_4 W0_4 H0_4 C0_4
  have G0_5 := HG0
  clear HG0
  go_wp2_with fail
  refine (EQ_m.out _ _ _ _ _ G0_5.out.nums (W0_5.out.more (by omega))).mono ?_
  rintro e w6 ⟨rfl, b6⟩
  have B_6 := Lib.hid (below_then B_5.out b6)
  have s_6 := b6.size
  have W0_6 := Lib.hid (W0_5.out.below b6 (by omega))
  have H0_6 := Lib.hid ((H0_5.out.below b6 (Nat.le_refl _)).more b6.size)
  have C0_6 := Lib.hid (C0_5.out.below b6)
  have G0_6 := Lib.hid (G0_5.out.below b6)
  clear b6 B_5 W0_5 H0_5 C0_5 G0_5
  go_wp2_with fail
  refine (T0.out _ ((R0.out.below B_6.out (Nat.le_refl _)).more B_6.out.size)).mono ?_
  rintro e w7 ⟨g7, rfl, hg7, a7, b7⟩
  have B_7 := Lib.hid (below_then B_6.out b7)
  have s_7 := b7.size
  have W0_7 := Lib.hid (W0_6.out.below b7 (by omega))
  have H0_7 := Lib.hid ((H0_6.out.below b7 (Nat.le_refl _)).more b7.size)
  have C0_7 := Lib.hid (C0_6.out.below b7)
  have G0_7 := Lib.hid (G0_6.out.below b7)
  have I0_7 := Lib.hid (Blk.at_nums a7.out)
  clear b7 B_6 W0_6 H0_6 C0_6 G0_6 hg7 a7
  go_wp2_with fail
  refine (Q0.out _ _ _ _ _ H0_7.out I0_7.out).mono ?_
  rintro e w8 ⟨rfl, b8⟩
  have B_8 := Lib.hid (below_then B_7.out b8)
  have s_8 := b8.size
  have W0_8 := Lib.hid (W0_7.out.below b8 (by omega))
  have H0_8 := Lib.hid ((H0_7.out.below b8 (Nat.le_refl _)).more b8.size)
  have C0_8 := Lib.hid (C0_7.out.below b8)
  have G0_8 := Lib.hid (G0_7.out.below b8)
  have I0_8 := Lib.hid ((I0_7.out.below b8 (Nat.le_refl _)).more b8.size)
  clear b8 B_7 W0_7 H0_7 C0_7 G0_7 I0_7
  clear I0_8
  clear H0_8
  go_wp2_with fail
  refine (M0.out (1) (by omega) (by omega) _ _ _ C0_8.out).mono ?_
  rintro e w9 ⟨rfl, b9⟩
  have B_9 := Lib.hid (B_8.out.trans (b9.below (by omega) B_8.out.size))
  have s_9 := b9.size
  have W0_9 := Lib.hid (Bw.nums_but W0_8.out b9 (by omega))
  have G0_9 := Lib.hid (Bw.own_but G0_8.out b9 (by omega))
  clear b9 C0_8 B_8 W0_8 G0_8
  have hK : ¬ (1 : Int) + 2 * (n0 : Int) < 0 := by omega
  generalize (1 : Int) + 2 * (n0 : Int) = K at hK ⊢
  go_wp2_with fail
  refine (EQ_m.out _ _ _ _ _ G0_9.out.nums (W0_9.out.more (by omega))).mono ?_
  rintro e w10 ⟨rfl, b10⟩
  have B_10 := Lib.hid (below_then B_9.out b10)
  have s_10 := b10.size
  have W0_10 := Lib.hid (W0_9.out.below b10 (by omega))
  have G0_10 := Lib.hid (G0_9.out.below b10)
  clear b10 B_9 W0_9 G0_9
  go_wp2_with fail
  refine (MK_m.out _ _ w4.heap.size _ (by omega) G0_10.out).mono ?_
  rintro e w11 ⟨rfl, h11, b11⟩
  have B_11 := Lib.hid (B_10.out.trans (b11.mono (by omega)))
  have s_11 := b11.size
  have W0_11 := Lib.hid (W0_10.out.below b11 (by omega))
  have G0_11 := Lib.hid h11
  clear b11 h11 B_10 W0_10 G0_10
  go_wp2_with fail
  refine (HE_m.out _ _ _ G0_11.out.nums).mono ?_
  rintro e w12 ⟨rfl, b12⟩
  have B_12 := Lib.hid (below_then B_11.out b12)
  have s_12 := b12.size
  have W0_12 := Lib.hid (W0_11.out.below b12 (by omega))
  have G0_12 := Lib.hid (G0_11.out.below b12)
  clear b12 B_11 W0_11 G0_11
  go_wp2_with fail
  refine (T0.out _ ((R0.out.below B_12.out (Nat.le_refl _)).more B_12.out.size)).mono ?_
  rintro e w13 ⟨g13, rfl, hg13, a13, b13⟩
  have B_13 := Lib.hid (below_then B_12.out b13)
  have s_13 := b13.size
  have W0_13 := Lib.hid (W0_12.out.below b13 (by omega))
  have G0_13 := Lib.hid (G0_12.out.below b13)
  have I0_13 := Lib.hid (Blk.at_nums a13.out)
  clear b13 B_12 W0_12 G0_12 hg13 a13
  go_wp2_with fail
  refine (CI.out _ _ _ I0_13.out).mono ?_
  rintro e w14 ⟨AO0, cO0, rfl, HO0, b14⟩
  have B_14 := Lib.hid (below_then B_13.out b14)
  have s_14 := b14.size
  have W0_14 := Lib.hid (W0_13.out.below b14 (by omega))
  have G0_14 := Lib.hid (G0_13.out.below b14)
  have I0_14 := Lib.hid ((I0_13.out.below b14 (Nat.le_refl _)).more b14.size)
  clear b14 B_13 W0_13 G0_13 I0_13
  have O0_14 := HO0
  clear HO0
  clear I0_14
  go_wp2_with fail
  refine (EQ_m.out _ _ _ _ _ O0_14.out.nums (W0_14.out.more (by omega))).mono ?_
  rintro e w15 ⟨rfl, b15⟩
  have B_15 := Lib.hid (below_then B_14.out b15)
  have s_15 := b15.size
  have W0_15 := Lib.hid (W0_14.out.below b15 (by omega))
  have G0_15 := Lib.hid (G0_14.out.below b15)
  have O0_15 := Lib.hid (O0_14.out.below b15)
  clear b15 B_14 W0_14 G0_14 O0_14
  go_wp2_with fail
  refine (HE_m.out _ _ _ G0_15.out.nums).mono ?_
  rintro e w16 ⟨rfl, b16⟩
  have B_16 := Lib.hid (below_then B_15.out b16)
  have s_16 := b16.size
  have W0_16 := Lib.hid (W0_15.out.below b16 (by omega))
  have G0_16 := Lib.hid (G0_15.out.below b16)
  have O0_16 := Lib.hid (O0_15.out.below b16)
  clear b16 B_15 W0_15 G0_15 O0_15
  go_wp2_with fail
  go_ret
  exact ⟨rfl, B_16.out⟩
theorem law (A0 : Option Addr) (n0 c0 : Nat) (f0 : Nat → Int) (v1 : Int) (w : World)  (hm0 : n0 ≤ maxLen) (hR0 : Nums w w.heap.size A0 (n0 * 2) f0) (hw1 : (Lit.int .i64 v1).wf = true) :
    Calls Try.prog 8 #[.slice A0 n0 c0, .int .i64 v1] w fun e w' => e = .returned (.bool true) ∧ Below w.heap.size w w' :=
  core A0 n0 c0 f0 v1 w hm0 hR0 hw1
end Go.Proofs.Ytgclhkiiaclkgab.N2l
