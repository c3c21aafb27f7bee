/- The walk of the law of CheapestBuild. -/
import Derived.Test.YtpmmfalpcooenabCpsLib
import Derived.Test.YtpmmfalpcooenabBwLib
import Derived.Test.YtpmmfalpcooenabFiLib
import Derived.Deep.RegionHeld3
import Derived.Deep.DeepCutAuto
namespace Go.Proofs.Ytpmmfalpcooenab.Chl
open Go.RowKit Ft Is Ge Qb Fi
set_option linter.unusedVariables false
set_option maxRecDepth 100000 in
set_option maxHeartbeats 8000000 in
theorem core (A0 : Option Addr) (n0 c0 : Nat) (f0 : Nat → Int) (A1 : Option Addr) (n1 c1 : Nat) (f1 : Nat → Int) (v2 : Int) (w : World) (hm0 : n0 ≤ maxLen) (hR0 : Nums w w.heap.size A0 n0 f0) (hn0 : n0 ≤ 1048576) (hm1 : n1 ≤ maxLen) (hR1 : Nums w w.heap.size A1 n1 f1) (hn1 : n1 ≤ 1048576) (hw2 : (Lit.int .i64 v2).wf = true) :
    Calls Try.prog 10 #[.slice A0 n0 c0, .slice A1 n1 c1, .int .i64 v2] w fun e w' => e = .returned (.bool true) ∧ Below w.heap.size w w' := by
  have R0 := Lib.hid hR0
  have T0n := Lib.hid (fun hn w h => to_ints A0 n0 c0 f0 hn w h)
  have Q0n := Lib.hid (fun hn A1 A2 c1 c2 w h1 h2 => eq_ints A1 A2 n0 c1 c2 f0 hn w h1 h2)
  have M0n := Lib.hid (fun hn k0 h0 h1 g c w h => Bw.mark_at g n0 c k0 f0 hn h0 h1 w h)
  have R1 := Lib.hid hR1
  have T1n := Lib.hid (fun hn w h => to_ints A1 n1 c1 f1 hn w h)
  have Q1n := Lib.hid (fun hn A1 A2 c1 c2 w h1 h2 => eq_ints A1 A2 n1 c1 c2 f1 hn w h1 h2)
  have M1n := Lib.hid (fun hn k0 h0 h1 g c w h => Bw.mark_at g n1 c k0 f1 hn h0 h1 w h)
  have CS0 := Lib.hid (fun A0 c0 A1 c1 w h0 h1 => Cp.spec_ch A0 n0 c0 f0 A1 n1 c1 f1 v2 hn0 hn1 w h0 h1)
  have CI0 := Lib.hid (fun A0 c0 A1 c1 w h0 h1 => Cp.impl_ch A0 n0 c0 f0 A1 n1 c1 f1 v2 hn0 hn1 w h0 h1)
  have hb_m : (Cp.chL n0 f0 n1 f1 v2).length ≤ 1048576 := Cp.ch_len _ _ _ _ _
  unfold Cp.TriAt at CS0 CI0
  generalize (Cp.chL n0 f0 n1 f1 v2).length = m at CS0 CI0 hb_m
  generalize Bh.bl f0 (Cp.chL n0 f0 n1 f1 v2) = d at CS0 CI0
  generalize Cp.chP n0 f0 n1 f1 v2 = pr at CS0 CI0
  generalize Cp.chC n0 f0 n1 f1 v2 = cd at CS0 CI0
  have ne_pr : (pr != pr) = false := by simp
  have ne_cd : (cd != cd) = false := by simp
  have EQ_m := Lib.hid (fun A1 A2 c1 c2 w h1 h2 => eq_ints A1 A2 m c1 c2 d hb_m w h1 h2)
  have MK_m := Lib.hid (fun A c B w (hB : B ≤ w.heap.size) h => mark_ints A m c 1 d hb_m (by omega) (by omega) B w h)
  have HE_m := Lib.hid (fun A c w h => Bw.held_same A m c 1 hb_m (by omega) (by omega) w h)
  have hM_m : 0 ≤ mk 1 m := by unfold mk; omega
  generalize mk 1 m = M_m at MK_m HE_m hM_m
  have neM_m : (M_m != M_m) = false := by simp
  clear hR0 hR1
  go_enter Try.func10, Try.ntmps10
  have B_0 := Lib.hid (Below.refl w.heap.size w)
  have CS := CS0
  have CI := CI0
  have T0 := Lib.hid (T0n.out hn0)
  have Q0 := Lib.hid (Q0n.out hn0)
  have M0 := Lib.hid (M0n.out hn0)
  clear T0n Q0n M0n
  have T1 := Lib.hid (T1n.out hn1)
  have Q1 := Lib.hid (Q1n.out hn1)
  have M1 := Lib.hid (M1n.out hn1)
  clear T1n Q1n M1n
  go_wp2_with fail
  refine (T0.out _ ((R0.out.below B_0.out (Nat.le_refl _)).more B_0.out.size)).mono ?_
  rintro e w1 ⟨g1, rfl, hg1, a1, b1⟩
  have B_1 := Lib.hid (below_then B_0.out b1)
  have s_1 := b1.size
  have I0_1 := Lib.hid (at_nums a1.out)
  clear b1 B_0 hg1 a1
  go_wp2_with fail
  refine (T1.out _ ((R1.out.below B_1.out (Nat.le_refl _)).more B_1.out.size)).mono ?_
  rintro e w2 ⟨g2, rfl, hg2, a2, b2⟩
  have B_2 := Lib.hid (below_then B_1.out b2)
  have s_2 := b2.size
  have I0_2 := Lib.hid ((I0_1.out.below b2 (Nat.le_refl _)).more b2.size)
  have I1_2 := Lib.hid (at_nums a2.out)
  clear b2 B_1 I0_1 hg2 a2
  go_wp2_with fail
  refine (CS.out _ _ _ _ _ I0_2.out I1_2.out).mono ?_
  rintro e w3 ⟨AW0, cW0, rfl, HW0, b3⟩
  have B_3 := Lib.hid (below_then B_2.out b3)
  have s_3 := b3.size
  have I0_3 := Lib.hid ((I0_2.out.below b3 (Nat.le_refl _)).more b3.size)
  have I1_3 := Lib.hid ((I1_2.out.below b3 (Nat.le_refl _)).more b3.size)
  clear b3 B_2 I0_2 I1_2
  have W0_3 := Lib.hid HW0.out.nums
  clear HW0
  clear I0_3
  clear I1_3
  clear CS
  go_wp2_with fail
  refine (T0.out _ ((R0.out.below B_3.out (Nat.le_refl _)).more B_3.out.size)).mono ?_
  rintro e w4 ⟨g4, rfl, hg4, a4, b4⟩
  have B_4 := Lib.hid (below_then B_3.out b4)
  have s_4 := b4.size
  have W0_4 := Lib.hid (W0_3.out.below b4 (by omega))
  have H0_4 := Lib.hid (at_nums a4.out)
  have C0_4 := Lib.hid (a4.out)
  have lg0 := a4.out.1
  have hh0 := hg4
  clear b4 B_3 W0_3 hg4 a4
  go_wp2_with fail
  refine (T1.out _ ((R1.out.below B_4.out (Nat.le_refl _)).more B_4.out.size)).mono ?_
  rintro e w5 ⟨g5, rfl, hg5, a5, b5⟩
  have B_5 := Lib.hid (below_then B_4.out b5)
  have s_5 := b5.size
  have W0_5 := Lib.hid (W0_4.out.below b5 (by omega))
  have H0_5 := Lib.hid ((H0_4.out.below b5 (Nat.le_refl _)).more b5.size)
  have C0_5 := Lib.hid (C0_4.out.below b5)
  have H1_5 := Lib.hid (at_nums a5.out)
  have C1_5 := Lib.hid (a5.out)
  have lg1 := a5.out.1
  have hh1 := hg5
  clear b5 B_4 W0_4 H0_4 C0_4 hg5 a5
  go_wp2_with fail
  refine (CI.out _ _ _ _ _ H0_5.out H1_5.out).mono ?_
  rintro e w6 ⟨AG0, cG0, rfl, HG0, b6⟩
  have B_6 := Lib.hid (below_then B_5.out b6)
  have s_6 := b6.size
  have W0_6 := Lib.hid (W0_5.out.below b6 (by omega))
  have H0_6 := Lib.hid ((H0_5.out.below b6 (Nat.le_refl _)).more b6.size)
  have C0_6 := Lib.hid (C0_5.out.below b6)
  have H1_6 := Lib.hid ((H1_5.out.below b6 (Nat.le_refl _)).more b6.size)
  have C1_6 := Lib.hid (C1_5.out.below b6)
  clear b6 B_5 W0_5 H0_5 C0_5 H1_5 C1_5
  have G0_6 := HG0
  clear HG0
  go_wp2_with fail
  refine (EQ_m.out _ _ _ _ _ G0_6.out.nums (W0_6.out.more (by omega))).mono ?_
  rintro e w7 ⟨rfl, b7⟩
  have B_7 := Lib.hid (below_then B_6.out b7)
  have s_7 := b7.size
  have W0_7 := Lib.hid (W0_6.out.below b7 (by omega))
  have H0_7 := Lib.hid ((H0_6.out.below b7 (Nat.le_refl _)).more b7.size)
  have C0_7 := Lib.hid (C0_6.out.below b7)
  have H1_7 := Lib.hid ((H1_6.out.below b7 (Nat.le_refl _)).more b7.size)
  have C1_7 := Lib.hid (C1_6.out.below b7)
  have G0_7 := Lib.hid (G0_6.out.below b7)
  clear b7 B_6 W0_6 H0_6 C0_6 H1_6 C1_6 G0_6
  go_wp2_with fail
  refine (T0.out _ ((R0.out.below B_7.out (Nat.le_refl _)).more B_7.out.size)).mono ?_
  rintro e w8 ⟨g8, rfl, hg8, a8, b8⟩
  have B_8 := Lib.hid (below_then B_7.out b8)
  have s_8 := b8.size
  have W0_8 := Lib.hid (W0_7.out.below b8 (by omega))
  have H0_8 := Lib.hid ((H0_7.out.below b8 (Nat.le_refl _)).more b8.size)
  have C0_8 := Lib.hid (C0_7.out.below b8)
  have H1_8 := Lib.hid ((H1_7.out.below b8 (Nat.le_refl _)).more b8.size)
  have C1_8 := Lib.hid (C1_7.out.below b8)
  have G0_8 := Lib.hid (G0_7.out.below b8)
  have I0_8 := Lib.hid (at_nums a8.out)
  clear b8 B_7 W0_7 H0_7 C0_7 H1_7 C1_7 G0_7 hg8 a8
  go_wp2_with fail
  refine (Q0.out _ _ _ _ _ H0_8.out I0_8.out).mono ?_
  rintro e w9 ⟨rfl, b9⟩
  have B_9 := Lib.hid (below_then B_8.out b9)
  have s_9 := b9.size
  have W0_9 := Lib.hid (W0_8.out.below b9 (by omega))
  have H0_9 := Lib.hid ((H0_8.out.below b9 (Nat.le_refl _)).more b9.size)
  have C0_9 := Lib.hid (C0_8.out.below b9)
  have H1_9 := Lib.hid ((H1_8.out.below b9 (Nat.le_refl _)).more b9.size)
  have C1_9 := Lib.hid (C1_8.out.below b9)
  have G0_9 := Lib.hid (G0_8.out.below b9)
  have I0_9 := Lib.hid ((I0_8.out.below b9 (Nat.le_refl _)).more b9.size)
  clear b9 B_8 W0_8 H0_8 C0_8 H1_8 C1_8 G0_8 I0_8
  clear I0_9
  clear H0_9
  go_wp2_with fail
  refine (T1.out _ ((R1.out.below B_9.out (Nat.le_refl _)).more B_9.out.size)).mono ?_
  rintro e w10 ⟨g10, rfl, hg10, a10, b10⟩
  have B_10 := Lib.hid (below_then B_9.out b10)
  have s_10 := b10.size
  have W0_10 := Lib.hid (W0_9.out.below b10 (by omega))
  have C0_10 := Lib.hid (C0_9.out.below b10)
  have H1_10 := Lib.hid ((H1_9.out.below b10 (Nat.le_refl _)).more b10.size)
  have C1_10 := Lib.hid (C1_9.out.below b10)
  have G0_10 := Lib.hid (G0_9.out.below b10)
  have I1_10 := Lib.hid (at_nums a10.out)
  clear b10 B_9 W0_9 C0_9 H1_9 C1_9 G0_9 hg10 a10
  go_wp2_with fail
  refine (Q1.out _ _ _ _ _ H1_10.out I1_10.out).mono ?_
  rintro e w11 ⟨rfl, b11⟩
  have B_11 := Lib.hid (below_then B_10.out b11)
  have s_11 := b11.size
  have W0_11 := Lib.hid (W0_10.out.below b11 (by omega))
  have C0_11 := Lib.hid (C0_10.out.below b11)
  have H1_11 := Lib.hid ((H1_10.out.below b11 (Nat.le_refl _)).more b11.size)
  have C1_11 := Lib.hid (C1_10.out.below b11)
  have G0_11 := Lib.hid (G0_10.out.below b11)
  have I1_11 := Lib.hid ((I1_10.out.below b11 (Nat.le_refl _)).more b11.size)
  clear b11 B_10 W0_10 C0_10 H1_10 C1_10 G0_10 I1_10
  clear I1_11
  clear H1_11
  go_wp2_with fail
  refine (M0.out (1) (by omega) (by omega) _ _ _ C0_11.out).mono ?_
  rintro e w12 ⟨rfl, b12⟩
  have B_12 := Lib.hid (B_11.out.trans (b12.below (by omega) B_11.out.size))
  have s_12 := b12.size
  have W0_12 := Lib.hid (Bw.nums_but W0_11.out b12 (by omega))
  have C1_12 := Lib.hid (Bw.at_but C1_11.out b12 (by omega))
  have G0_12 := Lib.hid (Bw.own_but G0_11.out b12 (by omega))
  clear b12 C0_11 B_11 W0_11 C1_11 G0_11
  go_wp2_with fail
  refine (M1.out (((1 : Int) + (n0 : Int))) (by omega) (by omega) _ _ _ C1_12.out).mono ?_
  rintro e w13 ⟨rfl, b13⟩
  have B_13 := Lib.hid (B_12.out.trans (b13.below (by omega) B_12.out.size))
  have s_13 := b13.size
  have W0_13 := Lib.hid (Bw.nums_but W0_12.out b13 (by omega))
  have G0_13 := Lib.hid (Bw.own_but G0_12.out b13 (by omega))
  clear b13 C1_12 B_12 W0_12 G0_12
  have hK : ¬ (((1 : Int) + (n0 : Int)) : Int) + (n1 : Int) < 0 := by omega
  generalize (((1 : Int) + (n0 : Int)) : Int) + (n1 : Int) = K at hK ⊢
  go_wp2_with fail
  refine (EQ_m.out _ _ _ _ _ G0_13.out.nums (W0_13.out.more (by omega))).mono ?_
  rintro e w14 ⟨rfl, b14⟩
  have B_14 := Lib.hid (below_then B_13.out b14)
  have s_14 := b14.size
  have W0_14 := Lib.hid (W0_13.out.below b14 (by omega))
  have G0_14 := Lib.hid (G0_13.out.below b14)
  clear b14 B_13 W0_13 G0_13
  go_wp2_with fail
  refine (MK_m.out _ _ w5.heap.size _ (by omega) G0_14.out).mono ?_
  rintro e w15 ⟨rfl, h15, b15⟩
  have B_15 := Lib.hid (B_14.out.trans (b15.mono (by omega)))
  have s_15 := b15.size
  have W0_15 := Lib.hid (W0_14.out.below b15 (by omega))
  have G0_15 := Lib.hid h15
  clear b15 h15 B_14 W0_14 G0_14
  go_wp2_with fail
  refine (HE_m.out _ _ _ G0_15.out.nums).mono ?_
  rintro e w16 ⟨rfl, b16⟩
  have B_16 := Lib.hid (below_then B_15.out b16)
  have s_16 := b16.size
  have W0_16 := Lib.hid (W0_15.out.below b16 (by omega))
  have G0_16 := Lib.hid (G0_15.out.below b16)
  clear b16 B_15 W0_15 G0_15
  go_wp2_with fail
  refine (T0.out _ ((R0.out.below B_16.out (Nat.le_refl _)).more B_16.out.size)).mono ?_
  rintro e w17 ⟨g17, rfl, hg17, a17, b17⟩
  have B_17 := Lib.hid (below_then B_16.out b17)
  have s_17 := b17.size
  have W0_17 := Lib.hid (W0_16.out.below b17 (by omega))
  have G0_17 := Lib.hid (G0_16.out.below b17)
  have I0_17 := Lib.hid (at_nums a17.out)
  clear b17 B_16 W0_16 G0_16 hg17 a17
  go_wp2_with fail
  refine (T1.out _ ((R1.out.below B_17.out (Nat.le_refl _)).more B_17.out.size)).mono ?_
  rintro e w18 ⟨g18, rfl, hg18, a18, b18⟩
  have B_18 := Lib.hid (below_then B_17.out b18)
  have s_18 := b18.size
  have W0_18 := Lib.hid (W0_17.out.below b18 (by omega))
  have G0_18 := Lib.hid (G0_17.out.below b18)
  have I0_18 := Lib.hid ((I0_17.out.below b18 (Nat.le_refl _)).more b18.size)
  have I1_18 := Lib.hid (at_nums a18.out)
  clear b18 B_17 W0_17 G0_17 I0_17 hg18 a18
  go_wp2_with fail
  refine (CI.out _ _ _ _ _ I0_18.out I1_18.out).mono ?_
  rintro e w19 ⟨AO0, cO0, rfl, HO0, b19⟩
  have B_19 := Lib.hid (below_then B_18.out b19)
  have s_19 := b19.size
  have W0_19 := Lib.hid (W0_18.out.below b19 (by omega))
  have G0_19 := Lib.hid (G0_18.out.below b19)
  have I0_19 := Lib.hid ((I0_18.out.below b19 (Nat.le_refl _)).more b19.size)
  have I1_19 := Lib.hid ((I1_18.out.below b19 (Nat.le_refl _)).more b19.size)
  clear b19 B_18 W0_18 G0_18 I0_18 I1_18
  have O0_19 := HO0
  clear HO0
  clear I0_19
  clear I1_19
  go_wp2_with fail
  refine (EQ_m.out _ _ _ _ _ O0_19.out.nums (W0_19.out.more (by omega))).mono ?_
  rintro e w20 ⟨rfl, b20⟩
  have B_20 := Lib.hid (below_then B_19.out b20)
  have s_20 := b20.size
  have W0_20 := Lib.hid (W0_19.out.below b20 (by omega))
  have G0_20 := Lib.hid (G0_19.out.below b20)
  have O0_20 := Lib.hid (O0_19.out.below b20)
  clear b20 B_19 W0_19 G0_19 O0_19
  go_wp2_with fail
  refine (HE_m.out _ _ _ G0_20.out.nums).mono ?_
  rintro e w21 ⟨rfl, b21⟩
  have B_21 := Lib.hid (below_then B_20.out b21)
  have s_21 := b21.size
  have W0_21 := Lib.hid (W0_20.out.below b21 (by omega))
  have G0_21 := Lib.hid (G0_20.out.below b21)
  have O0_21 := Lib.hid (O0_20.out.below b21)
  clear b21 B_20 W0_20 G0_20 O0_20
  go_wp2_with fail
  go_ret
  exact ⟨rfl, B_21.out⟩
theorem law (A0 : Option Addr) (n0 c0 : Nat) (f0 : Nat → Int) (A1 : Option Addr) (n1 c1 : Nat) (f1 : Nat → Int) (v2 : Int) (w : World) (hm0 : n0 ≤ maxLen) (hR0 : Nums w w.heap.size A0 n0 f0) (hm1 : n1 ≤ maxLen) (hR1 : Nums w w.heap.size A1 n1 f1) (hw2 : (Lit.int .i64 v2).wf = true) :
    Calls Try.prog 10 #[.slice A0 n0 c0, .slice A1 n1 c1, .int .i64 v2] w fun e w' => e = .returned (.bool true) ∧ Below w.heap.size w w' := by
  by_cases hb0 : 1048576 < n0
  · unfold maxLen at hm0
    clear hR0 hR1
    go_enter Try.func10, Try.ntmps10
    go_wp2_with fail
    go_ret
    exact ⟨rfl, by repeat (first | exact Below.refl _ _ | exact below_box _ _ | refine Below.alloc ?_ (by simp <;> omega) _)⟩
  have hn0 : n0 ≤ 1048576 := by omega
  by_cases hb1 : 1048576 < n1
  · unfold maxLen at hm1
    clear hR0 hR1
    go_enter Try.func10, Try.ntmps10
    go_wp2_with fail
    go_ret
    exact ⟨rfl, by repeat (first | exact Below.refl _ _ | exact below_box _ _ | refine Below.alloc ?_ (by simp <;> omega) _)⟩
  have hn1 : n1 ≤ 1048576 := by omega
  exact core A0 n0 c0 f0 A1 n1 c1 f1 v2 w hm0 hR0 hn0 hm1 hR1 hn1 hw2
end Go.Proofs.Ytpmmfalpcooenab.Chl
