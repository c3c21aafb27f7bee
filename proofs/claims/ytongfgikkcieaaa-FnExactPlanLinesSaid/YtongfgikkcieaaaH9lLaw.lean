/- The walk of the law of PlanLines. -/
import Derived.Test.YtongfgikkcieaaaH9Lib
import Derived.Test.YtongfgikkcieaaaTjLib
import Derived.Test.YtongfgikkcieaaaTxLib
import Derived.Test.YtongfgikkcieaaaCutLib
import Derived.Test.YtongfgikkcieaaaFiLib
import Derived.Test.YtongfgikkcieaaaBwLib
import Derived.Test.YtongfgikkcieaaaDcLib
import Derived.Test.YtongfgikkcieaaaMtLib
import Derived.Deep.RegionHeld3
import Derived.Deep.DeepCutAuto
namespace Go.Proofs.Ytongfgikkcieaaa.H9l
open Go.RowKit Ft Is Ge Qb Fi
set_option linter.unusedVariables false
set_option maxRecDepth 100000 in
set_option maxHeartbeats 8000000 in
theorem core (A0 : Option Addr) (n0 c0 : Nat) (f0 : Nat → ByteArray) (A1 : Option Addr) (n1 c1 : Nat) (f1 : Nat → Int) (A2 : Option Addr) (n2 c2 : Nat) (f2 : Nat → Int) (w : World)  (hm0 : n0 ≤ maxLen) (hz0 : ∀ i, i < n0 → (f0 i).size ≤ maxLen) (hR0 : Ts.Txts w w.heap.size A0 n0 f0) (hm1 : n1 ≤ maxLen) (hR1 : Nums w w.heap.size A1 (n1 * 4) f1) (hm2 : n2 ≤ maxLen) (hR2 : Nums w w.heap.size A2 n2 f2) (hn2 : n2 ≤ 1048576) :
    Calls Try.prog 13 #[.slice A0 n0 c0, .slice A1 n1 c1, .slice A2 n2 c2] w fun e w' => e = .returned (.bool true) ∧ Below w.heap.size w w' := by
  have R0 := Lib.hid hR0
  have Z0 := Lib.hid (fun l h0 h1 w h => Tx.sz_texts A0 n0 c0 f0 l h0 h1 hm0 hz0 w h)
  have T0n := Lib.hid (fun (hn : n0 ≤ 1048576 ∧ ∀ i, i < n0 → (f0 i).size ≤ 1048576) w h => Tx.to_texts A0 n0 c0 f0 hn.1 w h)
  have Q0n := Lib.hid (fun (hn : n0 ≤ 1048576 ∧ ∀ i, i < n0 → (f0 i).size ≤ 1048576) A1 A2 c1 c2 w h1 h2 => Ts.eq_texts A1 A2 n0 c1 c2 f0 (by omega) w h1 h2)
  have M0n := Lib.hid (fun (hn : n0 ≤ 1048576 ∧ ∀ i, i < n0 → (f0 i).size ≤ 1048576) k0 h0 h1 g c w h => Tx.mark_tat g n0 c k0 f0 hn.1 h0 h1 w h)
  have R1 := Lib.hid hR1
  have Z1 := Lib.hid (fun l h0 h1 w => Cut.sz_rows A1 n1 c1 l h0 h1 hm1 w)
  have T1n := Lib.hid (fun hn w h => Cut.to_rows A1 n1 c1 f1 hn w h)
  have Q1n := Lib.hid (fun hn A1 A2 c1 c2 w h1 h2 => Cut.eq_rows A1 A2 n1 c1 c2 f1 hn w h1 h2)
  have M1n := Lib.hid (fun hn k0 h0 h1 g c w h => Cut.mark_at g n1 c k0 f1 hn h0 h1 w h)
  have R2 := Lib.hid hR2
  have T2n := Lib.hid (fun hn w h => to_ints A2 n2 c2 f2 hn w h)
  have Q2n := Lib.hid (fun hn A1 A2 c1 c2 w h1 h2 => eq_ints A1 A2 n2 c1 c2 f2 hn w h1 h2)
  have M2n := Lib.hid (fun hn k0 h0 h1 g c w h => Bw.mark_at g n2 c k0 f2 hn h0 h1 w h)
  have CS0 := Lib.hid (fun (hn0 : n0 ≤ 1048576 ∧ ∀ i, i < n0 → (f0 i).size ≤ 1048576) (hn1 : n1 ≤ 1048576) => (fun A0 (c0 : Nat) A1 c1 A2 c2 w h0 h1 h2 => H9.spec_pn A0 n0 n0 f0 A1 n1 c1 f1 A2 n2 c2 f2 hn0.1 hn0.2 hn1 hn2 w ⟨h0, h1, h2⟩))
  have CI0 := Lib.hid (fun (hn0 : n0 ≤ 1048576 ∧ ∀ i, i < n0 → (f0 i).size ≤ 1048576) (hn1 : n1 ≤ 1048576) => (fun A0 (c0 : Nat) A1 c1 A2 c2 w h0 h1 h2 => Tj.impl_pn A0 n0 n0 f0 A1 n1 c1 f1 A2 n2 c2 f2 hn0.1 hn0.2 hn1 hn2 (Nat.le_refl _) w ⟨h0, h1, h2⟩))
  have hb_m : H9.pnN n0 f0 n1 f1 n2 f2 ≤ 1048576 := Tj.pn_small n0 f0 n1 f1 n2 f2
  unfold Tx.PairT at CS0 CI0
  generalize H9.plS f0 f1 f2 n2 = d at CS0 CI0
  generalize H9.pnN n0 f0 n1 f1 n2 f2 = m at CS0 CI0 hb_m
  generalize H6.gdC n0 f0 n1 f1 n2 f2 = cd at CS0 CI0
  have ne_cd : (cd != cd) = false := by simp
  have EQ_m := Lib.hid (fun A1 A2 c1 c2 w h1 h2 => Ts.eq_texts A1 A2 m c1 c2 d (by omega) w h1 h2)
  have MK_m := Lib.hid (fun A c B w (hB : B ≤ w.heap.size) h => Ts.mark_texts A m c 1 d (by omega) (by omega) (by omega) B w hB h)
  have HE_m := Lib.hid (fun A c w h => Ts.held_texts A m c 1 (by omega) (by omega) (by omega) w h)
  have hM_m : 0 ≤ (1 : Int) + (m : Int) := by omega
  generalize (1 : Int) + (m : Int) = M_m at MK_m HE_m hM_m
  have neM_m : (M_m != M_m) = false := by simp
  clear hR0 hR1 hR2
  go_enter Try.func13, Try.ntmps13
  have B_0 := Lib.hid (Below.refl w.heap.size w)
  go_wp2_with fail
  refine (Z0.out _ (by omega) (by omega) _ ((R0.out.below B_0.out (Nat.le_refl _)).more B_0.out.size)).mono ?_
  rintro e w1 ⟨r1, rfl, hp1, hq1, hs1, b1⟩
  have B_1 := Lib.hid (below_then B_0.out b1)
  have s_1 := b1.size
  clear b1 B_0
  by_cases hr1 : r1 < 0
  · go_wp2_with fail
    go_ret
    exact ⟨rfl, B_1.out⟩
  have hn0 : n0 ≤ 1048576 ∧ ∀ i, i < n0 → (f0 i).size ≤ 1048576 := hs1 (by omega)
  clear hs1 Z0
  go_wp2_with fail
  refine (Z1.out _ (by omega) (by omega) _).mono ?_
  rintro e w2 ⟨r2, rfl, hp2, hq2, hs2, b2⟩
  have B_2 := Lib.hid (below_then B_1.out b2)
  have s_2 := b2.size
  clear b2 B_1
  by_cases hr2 : r2 < 0
  · go_wp2_with fail
    go_ret
    exact ⟨rfl, B_2.out⟩
  have hn1 : n1 ≤ 1048576 := hs2 (by omega)
  clear hs2 Z1
  have CS := Lib.hid (CS0.out hn0 hn1)
  have CI := Lib.hid (CI0.out hn0 hn1)
  clear CS0 CI0
  have T0 := Lib.hid (T0n.out hn0)
  have Q0 := Lib.hid (Q0n.out hn0)
  have M0 := Lib.hid (M0n.out hn0)
  clear T0n Q0n M0n
  have T1 := Lib.hid (T1n.out hn1)
  have Q1 := Lib.hid (Q1n.out hn1)
  have M1 := Lib.hid (M1n.out hn1)
  clear T1n Q1n M1n
  have T2 := Lib.hid (T2n.out hn2)
  have Q2 := Lib.hid (Q2n.out hn2)
  have M2 := Lib.hid (M2n.out hn2)
  clear T2n Q2n M2n
  go_wp2_with fail
  refine (T0.out _ ((R0.out.below B_2.out (Nat.le_refl _)).more B_2.out.size)).mono ?_
  rintro e w3 ⟨g3, rfl, hg3, a3, b3⟩
  have B_3 := Lib.hid (below_then B_2.out b3)
  have s_3 := b3.size
  have I0_3 := Lib.hid (Tx.TAt.texts a3.out)
  clear b3 B_2 hg3 a3
  go_wp2_with fail
  refine (T1.out _ ((R1.out.below B_3.out (Nat.le_refl _)).more B_3.out.size)).mono ?_
  rintro e w4 ⟨g4, rfl, hg4, a4, b4⟩
  have B_4 := Lib.hid (below_then B_3.out b4)
  have s_4 := b4.size
  have I0_4 := Lib.hid ((I0_3.out.below b4 (Nat.le_refl _)).more b4.size)
  have I1_4 := Lib.hid (Cut.at_nums a4.out)
  clear b4 B_3 I0_3 hg4 a4
  go_wp2_with fail
  refine (T2.out _ ((R2.out.below B_4.out (Nat.le_refl _)).more B_4.out.size)).mono ?_
  rintro e w5 ⟨g5, rfl, hg5, a5, b5⟩
  have B_5 := Lib.hid (below_then B_4.out b5)
  have s_5 := b5.size
  have I0_5 := Lib.hid ((I0_4.out.below b5 (Nat.le_refl _)).more b5.size)
  have I1_5 := Lib.hid ((I1_4.out.below b5 (Nat.le_refl _)).more b5.size)
  have I2_5 := Lib.hid (at_nums a5.out)
  clear b5 B_4 I0_4 I1_4 hg5 a5
  go_wp2_with fail
  refine (CS.out _ n0 _ _ _ _ _ I0_5.out I1_5.out I2_5.out).mono ?_
  rintro e w6 ⟨AW0, cW0, rfl, HW0, b6⟩
  have B_6 := Lib.hid (below_then B_5.out b6)
  have s_6 := b6.size
  have I0_6 := Lib.hid ((I0_5.out.below b6 (Nat.le_refl _)).more b6.size)
  have I1_6 := Lib.hid ((I1_5.out.below b6 (Nat.le_refl _)).more b6.size)
  have I2_6 := Lib.hid ((I2_5.out.below b6 (Nat.le_refl _)).more b6.size)
  clear b6 B_5 I0_5 I1_5 I2_5
  have W0_6 := Lib.hid HW0.out.nums
  clear HW0
  clear I0_6
  clear I1_6
  clear I2_6
  clear CS
  go_wp2_with fail
  refine (T0.out _ ((R0.out.below B_6.out (Nat.le_refl _)).more B_6.out.size)).mono ?_
  rintro e w7 ⟨g7, rfl, hg7, a7, b7⟩
  have B_7 := Lib.hid (below_then B_6.out b7)
  have s_7 := b7.size
  have W0_7 := Lib.hid (W0_6.out.below b7 (by omega))
  have H0_7 := Lib.hid (Tx.TAt.texts a7.out)
  have C0_7 := Lib.hid (a7.out)
  have lg0 := a7.out.1
  have hh0 := hg7
  clear b7 B_6 W0_6 hg7 a7
  go_wp2_with fail
  refine (T1.out _ ((R1.out.below B_7.out (Nat.le_refl _)).more B_7.out.size)).mono ?_
  rintro e w8 ⟨g8, rfl, hg8, a8, b8⟩
  have B_8 := Lib.hid (below_then B_7.out b8)
  have s_8 := b8.size
  have W0_8 := Lib.hid (W0_7.out.below b8 (by omega))
  have H0_8 := Lib.hid ((H0_7.out.below b8 (Nat.le_refl _)).more b8.size)
  have C0_8 := Lib.hid (C0_7.out.below b8)
  have H1_8 := Lib.hid (Cut.at_nums a8.out)
  have C1_8 := Lib.hid (a8.out)
  have lg1 := a8.out.1
  have hh1 := hg8
  clear b8 B_7 W0_7 H0_7 C0_7 hg8 a8
  go_wp2_with fail
  refine (T2.out _ ((R2.out.below B_8.out (Nat.le_refl _)).more B_8.out.size)).mono ?_
  rintro e w9 ⟨g9, rfl, hg9, a9, b9⟩
  have B_9 := Lib.hid (below_then B_8.out b9)
  have s_9 := b9.size
  have W0_9 := Lib.hid (W0_8.out.below b9 (by omega))
  have H0_9 := Lib.hid ((H0_8.out.below b9 (Nat.le_refl _)).more b9.size)
  have C0_9 := Lib.hid (C0_8.out.below b9)
  have H1_9 := Lib.hid ((H1_8.out.below b9 (Nat.le_refl _)).more b9.size)
  have C1_9 := Lib.hid (C1_8.out.below b9)
  have H2_9 := Lib.hid (at_nums a9.out)
  have C2_9 := Lib.hid (a9.out)
  have lg2 := a9.out.1
  have hh2 := hg9
  clear b9 B_8 W0_8 H0_8 C0_8 H1_8 C1_8 hg9 a9
  go_wp2_with fail
  refine (CI.out _ n0 _ _ _ _ _ H0_9.out H1_9.out H2_9.out).mono ?_
  rintro e w10 ⟨AG0, cG0, rfl, HG0, b10⟩
  have B_10 := Lib.hid (below_then B_9.out b10)
  have s_10 := b10.size
  have W0_10 := Lib.hid (W0_9.out.below b10 (by omega))
  have H0_10 := Lib.hid ((H0_9.out.below b10 (Nat.le_refl _)).more b10.size)
  have C0_10 := Lib.hid (C0_9.out.below b10)
  have H1_10 := Lib.hid ((H1_9.out.below b10 (Nat.le_refl _)).more b10.size)
  have C1_10 := Lib.hid (C1_9.out.below b10)
  have H2_10 := Lib.hid ((H2_9.out.below b10 (Nat.le_refl _)).more b10.size)
  have C2_10 := Lib.hid (C2_9.out.below b10)
  clear b10 B_9 W0_9 H0_9 C0_9 H1_9 C1_9 H2_9 C2_9
  have G0_10 := HG0
  clear HG0
  go_wp2_with fail
  refine (EQ_m.out _ _ _ _ _ G0_10.out.nums (W0_10.out.more (by omega))).mono ?_
  rintro e w11 ⟨rfl, b11⟩
  have B_11 := Lib.hid (below_then B_10.out b11)
  have s_11 := b11.size
  have W0_11 := Lib.hid (W0_10.out.below b11 (by omega))
  have H0_11 := Lib.hid ((H0_10.out.below b11 (Nat.le_refl _)).more b11.size)
  have C0_11 := Lib.hid (C0_10.out.below b11)
  have H1_11 := Lib.hid ((H1_10.out.below b11 (Nat.le_refl _)).more b11.size)
  have C1_11 := Lib.hid (C1_10.out.below b11)
  have H2_11 := Lib.hid ((H2_10.out.below b11 (Nat.le_refl _)).more b11.size)
  have C2_11 := Lib.hid (C2_10.out.below b11)
  have G0_11 := Lib.hid (G0_10.out.below b11)
  clear b11 B_10 W0_10 H0_10 C0_10 H1_10 C1_10 H2_10 C2_10 G0_10
  go_wp2_with fail
  refine (T0.out _ ((R0.out.below B_11.out (Nat.le_refl _)).more B_11.out.size)).mono ?_
  rintro e w12 ⟨g12, rfl, hg12, a12, b12⟩
  have B_12 := Lib.hid (below_then B_11.out b12)
  have s_12 := b12.size
  have W0_12 := Lib.hid (W0_11.out.below b12 (by omega))
  have H0_12 := Lib.hid ((H0_11.out.below b12 (Nat.le_refl _)).more b12.size)
  have C0_12 := Lib.hid (C0_11.out.below b12)
  have H1_12 := Lib.hid ((H1_11.out.below b12 (Nat.le_refl _)).more b12.size)
  have C1_12 := Lib.hid (C1_11.out.below b12)
  have H2_12 := Lib.hid ((H2_11.out.below b12 (Nat.le_refl _)).more b12.size)
  have C2_12 := Lib.hid (C2_11.out.below b12)
  have G0_12 := Lib.hid (G0_11.out.below b12)
  have I0_12 := Lib.hid (Tx.TAt.texts a12.out)
  clear b12 B_11 W0_11 H0_11 C0_11 H1_11 C1_11 H2_11 C2_11 G0_11 hg12 a12
  go_wp2_with fail
  refine (Q0.out _ _ _ _ _ H0_12.out I0_12.out).mono ?_
  rintro e w13 ⟨rfl, b13⟩
  have B_13 := Lib.hid (below_then B_12.out b13)
  have s_13 := b13.size
  have W0_13 := Lib.hid (W0_12.out.below b13 (by omega))
  have H0_13 := Lib.hid ((H0_12.out.below b13 (Nat.le_refl _)).more b13.size)
  have C0_13 := Lib.hid (C0_12.out.below b13)
  have H1_13 := Lib.hid ((H1_12.out.below b13 (Nat.le_refl _)).more b13.size)
  have C1_13 := Lib.hid (C1_12.out.below b13)
  have H2_13 := Lib.hid ((H2_12.out.below b13 (Nat.le_refl _)).more b13.size)
  have C2_13 := Lib.hid (C2_12.out.below b13)
  have G0_13 := Lib.hid (G0_12.out.below b13)
  have I0_13 := Lib.hid ((I0_12.out.below b13 (Nat.le_refl _)).more b13.size)
  clear b13 B_12 W0_12 H0_12 C0_12 H1_12 C1_12 H2_12 C2_12 G0_12 I0_12
  clear I0_13
  clear H0_13
  go_wp2_with fail
  refine (T1.out _ ((R1.out.below B_13.out (Nat.le_refl _)).more B_13.out.size)).mono ?_
  rintro e w14 ⟨g14, rfl, hg14, a14, b14⟩
  have B_14 := Lib.hid (below_then B_13.out b14)
  have s_14 := b14.size
  have W0_14 := Lib.hid (W0_13.out.below b14 (by omega))
  have C0_14 := Lib.hid (C0_13.out.below b14)
  have H1_14 := Lib.hid ((H1_13.out.below b14 (Nat.le_refl _)).more b14.size)
  have C1_14 := Lib.hid (C1_13.out.below b14)
  have H2_14 := Lib.hid ((H2_13.out.below b14 (Nat.le_refl _)).more b14.size)
  have C2_14 := Lib.hid (C2_13.out.below b14)
  have G0_14 := Lib.hid (G0_13.out.below b14)
  have I1_14 := Lib.hid (Cut.at_nums a14.out)
  clear b14 B_13 W0_13 C0_13 H1_13 C1_13 H2_13 C2_13 G0_13 hg14 a14
  go_wp2_with fail
  refine (Q1.out _ _ _ _ _ H1_14.out I1_14.out).mono ?_
  rintro e w15 ⟨rfl, b15⟩
  have B_15 := Lib.hid (below_then B_14.out b15)
  have s_15 := b15.size
  have W0_15 := Lib.hid (W0_14.out.below b15 (by omega))
  have C0_15 := Lib.hid (C0_14.out.below b15)
  have H1_15 := Lib.hid ((H1_14.out.below b15 (Nat.le_refl _)).more b15.size)
  have C1_15 := Lib.hid (C1_14.out.below b15)
  have H2_15 := Lib.hid ((H2_14.out.below b15 (Nat.le_refl _)).more b15.size)
  have C2_15 := Lib.hid (C2_14.out.below b15)
  have G0_15 := Lib.hid (G0_14.out.below b15)
  have I1_15 := Lib.hid ((I1_14.out.below b15 (Nat.le_refl _)).more b15.size)
  clear b15 B_14 W0_14 C0_14 H1_14 C1_14 H2_14 C2_14 G0_14 I1_14
  clear I1_15
  clear H1_15
  go_wp2_with fail
  refine (T2.out _ ((R2.out.below B_15.out (Nat.le_refl _)).more B_15.out.size)).mono ?_
  rintro e w16 ⟨g16, rfl, hg16, a16, b16⟩
  have B_16 := Lib.hid (below_then B_15.out b16)
  have s_16 := b16.size
  have W0_16 := Lib.hid (W0_15.out.below b16 (by omega))
  have C0_16 := Lib.hid (C0_15.out.below b16)
  have C1_16 := Lib.hid (C1_15.out.below b16)
  have H2_16 := Lib.hid ((H2_15.out.below b16 (Nat.le_refl _)).more b16.size)
  have C2_16 := Lib.hid (C2_15.out.below b16)
  have G0_16 := Lib.hid (G0_15.out.below b16)
  have I2_16 := Lib.hid (at_nums a16.out)
  clear b16 B_15 W0_15 C0_15 C1_15 H2_15 C2_15 G0_15 hg16 a16
  go_wp2_with fail
  refine (Q2.out _ _ _ _ _ H2_16.out I2_16.out).mono ?_
  rintro e w17 ⟨rfl, b17⟩
  have B_17 := Lib.hid (below_then B_16.out b17)
  have s_17 := b17.size
  have W0_17 := Lib.hid (W0_16.out.below b17 (by omega))
  have C0_17 := Lib.hid (C0_16.out.below b17)
  have C1_17 := Lib.hid (C1_16.out.below b17)
  have H2_17 := Lib.hid ((H2_16.out.below b17 (Nat.le_refl _)).more b17.size)
  have C2_17 := Lib.hid (C2_16.out.below b17)
  have G0_17 := Lib.hid (G0_16.out.below b17)
  have I2_17 := Lib.hid ((I2_16.out.below b17 (Nat.le_refl _)).more b17.size)
  clear b17 B_16 W0_16 C0_16 C1_16 H2_16 C2_16 G0_16 I2_16
  clear I2_17
  clear H2_17
  go_wp2_with fail
  refine (M0.out (1) (by omega) (by omega) _ _ _ C0_17.out).mono ?_
  rintro e w18 ⟨rfl, b18⟩
  have B_18 := Lib.hid (B_17.out.trans (b18.below (by omega) B_17.out.size))
  have s_18 := b18.size
  have W0_18 := Lib.hid (Tx.txts_but W0_17.out b18 (by omega))
  have C1_18 := Lib.hid (Bw.at_but C1_17.out b18 (by omega))
  have C2_18 := Lib.hid (Bw.at_but C2_17.out b18 (by omega))
  have G0_18 := Lib.hid (Tx.ownt_but G0_17.out b18 (by omega))
  clear b18 C0_17 B_17 W0_17 C1_17 C2_17 G0_17
  go_wp2_with fail
  refine (M1.out (((1 : Int) + (n0 : Int))) (by omega) (by omega) _ _ _ C1_18.out).mono ?_
  rintro e w19 ⟨rfl, b19⟩
  have B_19 := Lib.hid (B_18.out.trans (b19.below (by omega) B_18.out.size))
  have s_19 := b19.size
  have W0_19 := Lib.hid (Tx.txts_but W0_18.out b19 (by omega))
  have C2_19 := Lib.hid (Bw.at_but C2_18.out b19 (by omega))
  have G0_19 := Lib.hid (Tx.ownt_but G0_18.out b19 (by omega))
  clear b19 C1_18 B_18 W0_18 C2_18 G0_18
  go_wp2_with fail
  refine (M2.out (((((1 : Int) + (n0 : Int)) : Int) + 4 * (n1 : Int))) (by omega) (by omega) _ _ _ C2_19.out).mono ?_
  rintro e w20 ⟨rfl, b20⟩
  have B_20 := Lib.hid (B_19.out.trans (b20.below (by omega) B_19.out.size))
  have s_20 := b20.size
  have W0_20 := Lib.hid (Tx.txts_but W0_19.out b20 (by omega))
  have G0_20 := Lib.hid (Tx.ownt_but G0_19.out b20 (by omega))
  clear b20 C2_19 B_19 W0_19 G0_19
  have hK : ¬ (((((1 : Int) + (n0 : Int)) : Int) + 4 * (n1 : Int)) : Int) + (n2 : Int) < 0 := by omega
  generalize (((((1 : Int) + (n0 : Int)) : Int) + 4 * (n1 : Int)) : Int) + (n2 : Int) = K at hK ⊢
  go_wp2_with fail
  refine (EQ_m.out _ _ _ _ _ G0_20.out.nums (W0_20.out.more (by omega))).mono ?_
  rintro e w21 ⟨rfl, b21⟩
  have B_21 := Lib.hid (below_then B_20.out b21)
  have s_21 := b21.size
  have W0_21 := Lib.hid (W0_20.out.below b21 (by omega))
  have G0_21 := Lib.hid (G0_20.out.below b21)
  clear b21 B_20 W0_20 G0_20
  go_wp2_with fail
  refine (MK_m.out _ _ w9.heap.size _ (by omega) G0_21.out).mono ?_
  rintro e w22 ⟨rfl, h22, b22⟩
  have B_22 := Lib.hid (B_21.out.trans (b22.mono (by omega)))
  have s_22 := b22.size
  have W0_22 := Lib.hid (W0_21.out.below b22 (by omega))
  have G0_22 := Lib.hid h22
  clear b22 h22 B_21 W0_21 G0_21
  go_wp2_with fail
  refine (HE_m.out _ _ _ G0_22.out.nums).mono ?_
  rintro e w23 ⟨rfl, b23⟩
  have B_23 := Lib.hid (below_then B_22.out b23)
  have s_23 := b23.size
  have W0_23 := Lib.hid (W0_22.out.below b23 (by omega))
  have G0_23 := Lib.hid (G0_22.out.below b23)
  clear b23 B_22 W0_22 G0_22
  go_wp2_with fail
  refine (T0.out _ ((R0.out.below B_23.out (Nat.le_refl _)).more B_23.out.size)).mono ?_
  rintro e w24 ⟨g24, rfl, hg24, a24, b24⟩
  have B_24 := Lib.hid (below_then B_23.out b24)
  have s_24 := b24.size
  have W0_24 := Lib.hid (W0_23.out.below b24 (by omega))
  have G0_24 := Lib.hid (G0_23.out.below b24)
  have I0_24 := Lib.hid (Tx.TAt.texts a24.out)
  clear b24 B_23 W0_23 G0_23 hg24 a24
  go_wp2_with fail
  refine (T1.out _ ((R1.out.below B_24.out (Nat.le_refl _)).more B_24.out.size)).mono ?_
  rintro e w25 ⟨g25, rfl, hg25, a25, b25⟩
  have B_25 := Lib.hid (below_then B_24.out b25)
  have s_25 := b25.size
  have W0_25 := Lib.hid (W0_24.out.below b25 (by omega))
  have G0_25 := Lib.hid (G0_24.out.below b25)
  have I0_25 := Lib.hid ((I0_24.out.below b25 (Nat.le_refl _)).more b25.size)
  have I1_25 := Lib.hid (Cut.at_nums a25.out)
  clear b25 B_24 W0_24 G0_24 I0_24 hg25 a25
  go_wp2_with fail
  refine (T2.out _ ((R2.out.below B_25.out (Nat.le_refl _)).more B_25.out.size)).mono ?_
  rintro e w26 ⟨g26, rfl, hg26, a26, b26⟩
  have B_26 := Lib.hid (below_then B_25.out b26)
  have s_26 := b26.size
  have W0_26 := Lib.hid (W0_25.out.below b26 (by omega))
  have G0_26 := Lib.hid (G0_25.out.below b26)
  have I0_26 := Lib.hid ((I0_25.out.below b26 (Nat.le_refl _)).more b26.size)
  have I1_26 := Lib.hid ((I1_25.out.below b26 (Nat.le_refl _)).more b26.size)
  have I2_26 := Lib.hid (at_nums a26.out)
  clear b26 B_25 W0_25 G0_25 I0_25 I1_25 hg26 a26
  go_wp2_with fail
  refine (CI.out _ n0 _ _ _ _ _ I0_26.out I1_26.out I2_26.out).mono ?_
  rintro e w27 ⟨AO0, cO0, rfl, HO0, b27⟩
  have B_27 := Lib.hid (below_then B_26.out b27)
  have s_27 := b27.size
  have W0_27 := Lib.hid (W0_26.out.below b27 (by omega))
  have G0_27 := Lib.hid (G0_26.out.below b27)
  have I0_27 := Lib.hid ((I0_26.out.below b27 (Nat.le_refl _)).more b27.size)
  have I1_27 := Lib.hid ((I1_26.out.below b27 (Nat.le_refl _)).more b27.size)
  have I2_27 := Lib.hid ((I2_26.out.below b27 (Nat.le_refl _)).more b27.size)
  clear b27 B_26 W0_26 G0_26 I0_26 I1_26 I2_26
  have O0_27 := HO0
  clear HO0
  clear I0_27
  clear I1_27
  clear I2_27
  go_wp2_with fail
  refine (EQ_m.out _ _ _ _ _ O0_27.out.nums (W0_27.out.more (by omega))).mono ?_
  rintro e w28 ⟨rfl, b28⟩
  have B_28 := Lib.hid (below_then B_27.out b28)
  have s_28 := b28.size
  have W0_28 := Lib.hid (W0_27.out.below b28 (by omega))
  have G0_28 := Lib.hid (G0_27.out.below b28)
  have O0_28 := Lib.hid (O0_27.out.below b28)
  clear b28 B_27 W0_27 G0_27 O0_27
  go_wp2_with fail
  refine (HE_m.out _ _ _ G0_28.out.nums).mono ?_
  rintro e w29 ⟨rfl, b29⟩
  have B_29 := Lib.hid (below_then B_28.out b29)
  have s_29 := b29.size
  have W0_29 := Lib.hid (W0_28.out.below b29 (by omega))
  have G0_29 := Lib.hid (G0_28.out.below b29)
  have O0_29 := Lib.hid (O0_28.out.below b29)
  clear b29 B_28 W0_28 G0_28 O0_28
  go_wp2_with fail
  go_ret
  exact ⟨rfl, B_29.out⟩
theorem law (A0 : Option Addr) (n0 c0 : Nat) (f0 : Nat → ByteArray) (A1 : Option Addr) (n1 c1 : Nat) (f1 : Nat → Int) (A2 : Option Addr) (n2 c2 : Nat) (f2 : Nat → Int) (w : World)  (hm0 : n0 ≤ maxLen) (hz0 : ∀ i, i < n0 → (f0 i).size ≤ maxLen) (hR0 : Ts.Txts w w.heap.size A0 n0 f0) (hm1 : n1 ≤ maxLen) (hR1 : Nums w w.heap.size A1 (n1 * 4) f1) (hm2 : n2 ≤ maxLen) (hR2 : Nums w w.heap.size A2 n2 f2) :
    Calls Try.prog 13 #[.slice A0 n0 c0, .slice A1 n1 c1, .slice A2 n2 c2] w fun e w' => e = .returned (.bool true) ∧ Below w.heap.size w w' := by
  by_cases hb2 : 1048576 < n2
  · unfold maxLen at hm2
    clear hR0 hR1 hR2
    go_enter Try.func13, Try.ntmps13
    go_wp2_with fail
    go_ret
    exact ⟨rfl, by repeat (first | exact Below.refl _ _ | exact below_box _ _ | refine Below.alloc ?_ (by simp <;> omega) _)⟩
  have hn2 : n2 ≤ 1048576 := by omega
  exact core A0 n0 c0 f0 A1 n1 c1 f1 A2 n2 c2 f2 w hm0 hz0 hR0 hm1 hR1 hm2 hR2 hn2
end Go.Proofs.Ytongfgikkcieaaa.H9l
