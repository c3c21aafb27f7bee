/- The walk of the law of PlacesOnRoll. -/
import Derived.Test.YtgclhkiiaclkgabPhLib
import Derived.Test.YtgclhkiiaclkgabN5Lib
import Derived.Test.YtgclhkiiaclkgabN6Lib
import Derived.Test.YtgclhkiiaclkgabBwLib
import Derived.Test.YtgclhkiiaclkgabBlkLib
import Derived.Test.YtgclhkiiaclkgabFiLib
import Derived.Deep.RegionHeld3
import Derived.Deep.DeepCutAuto
namespace Go.Proofs.Ytgclhkiiaclkgab.N5l
open Go.RowKit Ft Is Ge Qb Fi
set_option linter.unusedVariables false
set_option maxRecDepth 100000 in
set_option maxHeartbeats 8000000 in
theorem core (A0 : Option Addr) (n0 c0 : Nat) (f0 : Nat → Int) (v1 : Int) (A2 : Option Addr) (n2 c2 : Nat) (f2 : Nat → Int) (w : World)  (hm0 : n0 ≤ maxLen) (hR0 : Nums w w.heap.size A0 (n0 * 2) f0) (hw1 : (Lit.int .i64 v1).wf = true) (hm2 : n2 ≤ maxLen) (hR2 : Nums w w.heap.size A2 n2 f2) (hn2 : n2 ≤ 1048576) :
    Calls Try.prog 12 #[.slice A0 n0 c0, .int .i64 v1, .slice A2 n2 c2] w fun e w' => e = .returned (.bool true) ∧ Below w.heap.size w w' := by
  have R0 := Lib.hid hR0
  have Z0 := Lib.hid (fun l h0 h1 w => Blk.sz_rows A0 n0 c0 l h0 h1 hm0 w)
  have T0n := Lib.hid (fun hn w h => Blk.to_rows A0 n0 c0 f0 hn w h)
  have Q0n := Lib.hid (fun hn A1 A2 c1 c2 w h1 h2 => Blk.eq_rows A1 A2 n0 c1 c2 f0 hn w h1 h2)
  have M0n := Lib.hid (fun hn k0 h0 h1 g c w h => Blk.mark_at g n0 c k0 f0 hn h0 h1 w h)
  have R2 := Lib.hid hR2
  have T2n := Lib.hid (fun hn w h => to_ints A2 n2 c2 f2 hn w h)
  have Q2n := Lib.hid (fun hn A1 A2 c1 c2 w h1 h2 => eq_ints A1 A2 n2 c1 c2 f2 hn w h1 h2)
  have M2n := Lib.hid (fun hn k0 h0 h1 g c w h => Bw.mark_at g n2 c k0 f2 hn h0 h1 w h)
  have CS0 := Lib.hid (fun (hn0 : n0 ≤ 1048576) => (fun A0 c0 A2 c2 w h0 h2 => (N5.spec_pl A0 n0 c0 f0 v1 A2 n2 c2 f2 hn0 hn2 w h0 h2).mono fun _ _ h => N6.post_of h))
  have CI0 := Lib.hid (fun (hn0 : n0 ≤ 1048576) => (fun A0 c0 A2 c2 w h0 h2 => (Ph.impl_pl A0 n0 c0 f0 v1 A2 n2 c2 f2 hn0 hn2 w h0 h2).mono fun _ _ h => N6.post_of h))
  have hb_m : N5.plN v1 n0 f0 n2 f2 ≤ 80 := N5.pln_small _ _ _ _ _
  unfold N6.Post at CS0 CI0
  generalize N5.plD f0 f2 n2 = d at CS0 CI0
  generalize N5.plN v1 n0 f0 n2 f2 = m at CS0 CI0 hb_m
  generalize Ju.rfC v1 n0 f0 n2 f2 = cd at CS0 CI0
  have ne_cd : (cd != cd) = false := by simp
  have EQ_m := Lib.hid (fun A1 A2 c1 c2 w h1 h2 => N6.eq_rows A1 A2 m c1 c2 d hb_m w h1 h2)
  have MK_m := Lib.hid (fun A c B w (hB : B ≤ w.heap.size) h => N6.mark_rows A m c d hb_m B w hB h)
  have HE_m := Lib.hid (fun A c w h => N6.held_rows A m c hb_m w h)
  have hM_m : 0 ≤ Ss2.st 1 (fun _ => 2) m := by rw [N6.st2]; omega
  generalize Ss2.st 1 (fun _ => 2) m = M_m at MK_m HE_m hM_m
  have neM_m : (M_m != M_m) = false := by simp
  clear hR0 hR2
  go_enter Try.func12, Try.ntmps12
  have B_0 := Lib.hid (Below.refl w.heap.size w)
  go_wp2_with fail
  refine (Z0.out _ (by omega) (by omega) _).mono ?_
  rintro e w1 ⟨r1, rfl, hp1, hq1, hs1, b1⟩
  have B_1 := Lib.hid (below_then B_0.out b1)
  have s_1 := b1.size
  clear b1 B_0
  by_cases hr1 : r1 < 0
  · go_wp2_with fail
    go_ret
    exact ⟨rfl, B_1.out⟩
  have hn0 : n0 ≤ 1048576 := hs1 (by omega)
  clear hs1 Z0
  have CS := Lib.hid (CS0.out hn0)
  have CI := Lib.hid (CI0.out hn0)
  clear CS0 CI0
  have T0 := Lib.hid (T0n.out hn0)
  have Q0 := Lib.hid (Q0n.out hn0)
  have M0 := Lib.hid (M0n.out hn0)
  clear T0n Q0n M0n
  have T2 := Lib.hid (T2n.out hn2)
  have Q2 := Lib.hid (Q2n.out hn2)
  have M2 := Lib.hid (M2n.out hn2)
  clear T2n Q2n M2n
  go_wp2_with fail
  refine (T0.out _ ((R0.out.below B_1.out (Nat.le_refl _)).more B_1.out.size)).mono ?_
  rintro e w2 ⟨g2, rfl, hg2, a2, b2⟩
  have B_2 := Lib.hid (below_then B_1.out b2)
  have s_2 := b2.size
  have I0_2 := Lib.hid (Blk.at_nums a2.out)
  clear b2 B_1 hg2 a2
  go_wp2_with fail
  refine (T2.out _ ((R2.out.below B_2.out (Nat.le_refl _)).more B_2.out.size)).mono ?_
  rintro e w3 ⟨g3, rfl, hg3, a3, b3⟩
  have B_3 := Lib.hid (below_then B_2.out b3)
  have s_3 := b3.size
  have I0_3 := Lib.hid ((I0_2.out.below b3 (Nat.le_refl _)).more b3.size)
  have I2_3 := Lib.hid (at_nums a3.out)
  clear b3 B_2 I0_2 hg3 a3
  go_wp2_with fail
  refine (CS.out _ _ _ _ _ I0_3.out I2_3.out).mono ?_
  rintro e w4 ⟨AW0, cW0, rfl, HW0, b4⟩
  have B_4 := Lib.hid (below_then B_3.out b4)
  have s_4 := b4.size
  have I0_4 := Lib.hid ((I0_3.out.below b4 (Nat.le_refl _)).more b4.size)
  have I2_4 := Lib.hid ((I2_3.out.below b4 (Nat.le_refl _)).more b4.size)
  clear b4 B_3 I0_3 I2_3
  have W0_4 := Lib.hid HW0.out.nums
  clear HW0
  clear I0_4
  clear I2_4
  clear CS
  go_wp2_with fail
  refine (T0.out _ ((R0.out.below B_4.out (Nat.le_refl _)).more B_4.out.size)).mono ?_
  rintro e w5 ⟨g5, rfl, hg5, a5, b5⟩
  have B_5 := Lib.hid (below_then B_4.out b5)
  have s_5 := b5.size
  have W0_5 := Lib.hid (W0_4.out.below b5 (by omega))
  have H0_5 := Lib.hid (Blk.at_nums a5.out)
  have C0_5 := Lib.hid (a5.out)
  have lg0 := a5.out.1
  have hh0 := hg5
  clear b5 B_4 W0_4 hg5 a5
  go_wp2_with fail
  refine (T2.out _ ((R2.out.below B_5.out (Nat.le_refl _)).more B_5.out.size)).mono ?_
  rintro e w6 ⟨g6, rfl, hg6, a6, b6⟩
  have B_6 := Lib.hid (below_then B_5.out b6)
  have s_6 := b6.size
  have W0_6 := Lib.hid (W0_5.out.below b6 (by omega))
  have H0_6 := Lib.hid ((H0_5.out.below b6 (Nat.le_refl _)).more b6.size)
  have C0_6 := Lib.hid (C0_5.out.below b6)
  have H2_6 := Lib.hid (at_nums a6.out)
  have C2_6 := Lib.hid (a6.out)
  have lg2 := a6.out.1
  have hh2 := hg6
  clear b6 B_5 W0_5 H0_5 C0_5 hg6 a6
  go_wp2_with fail
  refine (CI.out _ _ _ _ _ H0_6.out H2_6.out).mono ?_
  rintro e w7 ⟨AG0, cG0, rfl, HG0, b7⟩
  have B_7 := Lib.hid (below_then B_6.out b7)
  have s_7 := b7.size
  have W0_7 := Lib.hid (W0_6.out.below b7 (by omega))
  have H0_7 := Lib.hid ((H0_6.out.below b7 (Nat.le_refl _)).more b7.size)
  have C0_7 := Lib.hid (C0_6.out.below b7)
  have H2_7 := Lib.hid ((H2_6.out.below b7 (Nat.le_refl _)).more b7.size)
  have C2_7 := Lib.hid (C2_6.out.below b7)
  clear b7 B_6 W0_6 H0_6 C0_6 H2_6 C2_6
  have G0_7 := HG0
  clear HG0
  go_wp2_with fail
  refine (EQ_m.out _ _ _ _ _ G0_7.out.nums (W0_7.out.more (by omega))).mono ?_
  rintro e w8 ⟨rfl, b8⟩
  have B_8 := Lib.hid (below_then B_7.out b8)
  have s_8 := b8.size
  have W0_8 := Lib.hid (W0_7.out.below b8 (by omega))
  have H0_8 := Lib.hid ((H0_7.out.below b8 (Nat.le_refl _)).more b8.size)
  have C0_8 := Lib.hid (C0_7.out.below b8)
  have H2_8 := Lib.hid ((H2_7.out.below b8 (Nat.le_refl _)).more b8.size)
  have C2_8 := Lib.hid (C2_7.out.below b8)
  have G0_8 := Lib.hid (G0_7.out.below b8)
  clear b8 B_7 W0_7 H0_7 C0_7 H2_7 C2_7 G0_7
  go_wp2_with fail
  refine (T0.out _ ((R0.out.below B_8.out (Nat.le_refl _)).more B_8.out.size)).mono ?_
  rintro e w9 ⟨g9, rfl, hg9, a9, b9⟩
  have B_9 := Lib.hid (below_then B_8.out b9)
  have s_9 := b9.size
  have W0_9 := Lib.hid (W0_8.out.below b9 (by omega))
  have H0_9 := Lib.hid ((H0_8.out.below b9 (Nat.le_refl _)).more b9.size)
  have C0_9 := Lib.hid (C0_8.out.below b9)
  have H2_9 := Lib.hid ((H2_8.out.below b9 (Nat.le_refl _)).more b9.size)
  have C2_9 := Lib.hid (C2_8.out.below b9)
  have G0_9 := Lib.hid (G0_8.out.below b9)
  have I0_9 := Lib.hid (Blk.at_nums a9.out)
  clear b9 B_8 W0_8 H0_8 C0_8 H2_8 C2_8 G0_8 hg9 a9
  go_wp2_with fail
  refine (Q0.out _ _ _ _ _ H0_9.out I0_9.out).mono ?_
  rintro e w10 ⟨rfl, b10⟩
  have B_10 := Lib.hid (below_then B_9.out b10)
  have s_10 := b10.size
  have W0_10 := Lib.hid (W0_9.out.below b10 (by omega))
  have H0_10 := Lib.hid ((H0_9.out.below b10 (Nat.le_refl _)).more b10.size)
  have C0_10 := Lib.hid (C0_9.out.below b10)
  have H2_10 := Lib.hid ((H2_9.out.below b10 (Nat.le_refl _)).more b10.size)
  have C2_10 := Lib.hid (C2_9.out.below b10)
  have G0_10 := Lib.hid (G0_9.out.below b10)
  have I0_10 := Lib.hid ((I0_9.out.below b10 (Nat.le_refl _)).more b10.size)
  clear b10 B_9 W0_9 H0_9 C0_9 H2_9 C2_9 G0_9 I0_9
  clear I0_10
  clear H0_10
  go_wp2_with fail
  refine (T2.out _ ((R2.out.below B_10.out (Nat.le_refl _)).more B_10.out.size)).mono ?_
  rintro e w11 ⟨g11, rfl, hg11, a11, b11⟩
  have B_11 := Lib.hid (below_then B_10.out b11)
  have s_11 := b11.size
  have W0_11 := Lib.hid (W0_10.out.below b11 (by omega))
  have C0_11 := Lib.hid (C0_10.out.below b11)
  have H2_11 := Lib.hid ((H2_10.out.below b11 (Nat.le_refl _)).more b11.size)
  have C2_11 := Lib.hid (C2_10.out.below b11)
  have G0_11 := Lib.hid (G0_10.out.below b11)
  have I2_11 := Lib.hid (at_nums a11.out)
  clear b11 B_10 W0_10 C0_10 H2_10 C2_10 G0_10 hg11 a11
  go_wp2_with fail
  refine (Q2.out _ _ _ _ _ H2_11.out I2_11.out).mono ?_
  rintro e w12 ⟨rfl, b12⟩
  have B_12 := Lib.hid (below_then B_11.out b12)
  have s_12 := b12.size
  have W0_12 := Lib.hid (W0_11.out.below b12 (by omega))
  have C0_12 := Lib.hid (C0_11.out.below b12)
  have H2_12 := Lib.hid ((H2_11.out.below b12 (Nat.le_refl _)).more b12.size)
  have C2_12 := Lib.hid (C2_11.out.below b12)
  have G0_12 := Lib.hid (G0_11.out.below b12)
  have I2_12 := Lib.hid ((I2_11.out.below b12 (Nat.le_refl _)).more b12.size)
  clear b12 B_11 W0_11 C0_11 H2_11 C2_11 G0_11 I2_11
  clear I2_12
  clear H2_12
  go_wp2_with fail
  refine (M0.out (1) (by omega) (by omega) _ _ _ C0_12.out).mono ?_
  rintro e w13 ⟨rfl, b13⟩
  have B_13 := Lib.hid (B_12.out.trans (b13.below (by omega) B_12.out.size))
  have s_13 := b13.size
  have W0_13 := Lib.hid (N6.rn_but W0_12.out b13 (by omega))
  have C2_13 := Lib.hid (Bw.at_but C2_12.out b13 (by omega))
  have G0_13 := Lib.hid (N6.ro_but G0_12.out b13 (by omega))
  clear b13 C0_12 B_12 W0_12 C2_12 G0_12
  go_wp2_with fail
  refine (M2.out (((1 : Int) + 2 * (n0 : Int))) (by omega) (by omega) _ _ _ C2_13.out).mono ?_
  rintro e w14 ⟨rfl, b14⟩
  have B_14 := Lib.hid (B_13.out.trans (b14.below (by omega) B_13.out.size))
  have s_14 := b14.size
  have W0_14 := Lib.hid (N6.rn_but W0_13.out b14 (by omega))
  have G0_14 := Lib.hid (N6.ro_but G0_13.out b14 (by omega))
  clear b14 C2_13 B_13 W0_13 G0_13
  have hK : ¬ (((1 : Int) + 2 * (n0 : Int)) : Int) + (n2 : Int) < 0 := by omega
  generalize (((1 : Int) + 2 * (n0 : Int)) : Int) + (n2 : Int) = K at hK ⊢
  go_wp2_with fail
  refine (EQ_m.out _ _ _ _ _ G0_14.out.nums (W0_14.out.more (by omega))).mono ?_
  rintro e w15 ⟨rfl, b15⟩
  have B_15 := Lib.hid (below_then B_14.out b15)
  have s_15 := b15.size
  have W0_15 := Lib.hid (W0_14.out.below b15 (by omega))
  have G0_15 := Lib.hid (G0_14.out.below b15)
  clear b15 B_14 W0_14 G0_14
  go_wp2_with fail
  refine (MK_m.out _ _ w6.heap.size _ (by omega) G0_15.out).mono ?_
  rintro e w16 ⟨rfl, h16, b16⟩
  have B_16 := Lib.hid (B_15.out.trans (b16.mono (by omega)))
  have s_16 := b16.size
  have W0_16 := Lib.hid (W0_15.out.below b16 (by omega))
  have G0_16 := Lib.hid h16
  clear b16 h16 B_15 W0_15 G0_15
  go_wp2_with fail
  refine (HE_m.out _ _ _ G0_16.out.nums).mono ?_
  rintro e w17 ⟨rfl, b17⟩
  have B_17 := Lib.hid (below_then B_16.out b17)
  have s_17 := b17.size
  have W0_17 := Lib.hid (W0_16.out.below b17 (by omega))
  have G0_17 := Lib.hid (G0_16.out.below b17)
  clear b17 B_16 W0_16 G0_16
  go_wp2_with fail
  refine (T0.out _ ((R0.out.below B_17.out (Nat.le_refl _)).more B_17.out.size)).mono ?_
  rintro e w18 ⟨g18, rfl, hg18, a18, b18⟩
  have B_18 := Lib.hid (below_then B_17.out b18)
  have s_18 := b18.size
  have W0_18 := Lib.hid (W0_17.out.below b18 (by omega))
  have G0_18 := Lib.hid (G0_17.out.below b18)
  have I0_18 := Lib.hid (Blk.at_nums a18.out)
  clear b18 B_17 W0_17 G0_17 hg18 a18
  go_wp2_with fail
  refine (T2.out _ ((R2.out.below B_18.out (Nat.le_refl _)).more B_18.out.size)).mono ?_
  rintro e w19 ⟨g19, rfl, hg19, a19, b19⟩
  have B_19 := Lib.hid (below_then B_18.out b19)
  have s_19 := b19.size
  have W0_19 := Lib.hid (W0_18.out.below b19 (by omega))
  have G0_19 := Lib.hid (G0_18.out.below b19)
  have I0_19 := Lib.hid ((I0_18.out.below b19 (Nat.le_refl _)).more b19.size)
  have I2_19 := Lib.hid (at_nums a19.out)
  clear b19 B_18 W0_18 G0_18 I0_18 hg19 a19
  go_wp2_with fail
  refine (CI.out _ _ _ _ _ I0_19.out I2_19.out).mono ?_
  rintro e w20 ⟨AO0, cO0, rfl, HO0, b20⟩
  have B_20 := Lib.hid (below_then B_19.out b20)
  have s_20 := b20.size
  have W0_20 := Lib.hid (W0_19.out.below b20 (by omega))
  have G0_20 := Lib.hid (G0_19.out.below b20)
  have I0_20 := Lib.hid ((I0_19.out.below b20 (Nat.le_refl _)).more b20.size)
  have I2_20 := Lib.hid ((I2_19.out.below b20 (Nat.le_refl _)).more b20.size)
  clear b20 B_19 W0_19 G0_19 I0_19 I2_19
  have O0_20 := HO0
  clear HO0
  clear I0_20
  clear I2_20
  go_wp2_with fail
  refine (EQ_m.out _ _ _ _ _ O0_20.out.nums (W0_20.out.more (by omega))).mono ?_
  rintro e w21 ⟨rfl, b21⟩
  have B_21 := Lib.hid (below_then B_20.out b21)
  have s_21 := b21.size
  have W0_21 := Lib.hid (W0_20.out.below b21 (by omega))
  have G0_21 := Lib.hid (G0_20.out.below b21)
  have O0_21 := Lib.hid (O0_20.out.below b21)
  clear b21 B_20 W0_20 G0_20 O0_20
  go_wp2_with fail
  refine (HE_m.out _ _ _ G0_21.out.nums).mono ?_
  rintro e w22 ⟨rfl, b22⟩
  have B_22 := Lib.hid (below_then B_21.out b22)
  have s_22 := b22.size
  have W0_22 := Lib.hid (W0_21.out.below b22 (by omega))
  have G0_22 := Lib.hid (G0_21.out.below b22)
  have O0_22 := Lib.hid (O0_21.out.below b22)
  clear b22 B_21 W0_21 G0_21 O0_21
  go_wp2_with fail
  go_ret
  exact ⟨rfl, B_22.out⟩
theorem law (A0 : Option Addr) (n0 c0 : Nat) (f0 : Nat → Int) (v1 : Int) (A2 : Option Addr) (n2 c2 : Nat) (f2 : Nat → Int) (w : World)  (hm0 : n0 ≤ maxLen) (hR0 : Nums w w.heap.size A0 (n0 * 2) f0) (hw1 : (Lit.int .i64 v1).wf = true) (hm2 : n2 ≤ maxLen) (hR2 : Nums w w.heap.size A2 n2 f2) :
    Calls Try.prog 12 #[.slice A0 n0 c0, .int .i64 v1, .slice A2 n2 c2] w fun e w' => e = .returned (.bool true) ∧ Below w.heap.size w w' := by
  by_cases hb2 : 1048576 < n2
  · unfold maxLen at hm2
    clear hR0 hR2
    go_enter Try.func12, Try.ntmps12
    go_wp2_with fail
    go_ret
    exact ⟨rfl, by repeat (first | exact Below.refl _ _ | exact below_box _ _ | refine Below.alloc ?_ (by simp <;> omega) _)⟩
  have hn2 : n2 ≤ 1048576 := by omega
  exact core A0 n0 c0 f0 v1 A2 n2 c2 f2 w hm0 hR0 hw1 hm2 hR2 hn2
end Go.Proofs.Ytgclhkiiaclkgab.N5l
