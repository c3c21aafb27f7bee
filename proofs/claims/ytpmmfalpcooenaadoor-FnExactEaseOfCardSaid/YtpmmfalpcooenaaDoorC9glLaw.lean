/- The walk of the law of EaseOf. -/
import Derived.Test.YtpmmfalpcooenaaDoorC9gLib
import Derived.Test.YtpmmfalpcooenaaDoorBwLib
import Derived.Test.YtpmmfalpcooenaaDoorFiLib
import Derived.Test.YtpmmfalpcooenaaDoorDcLib
import Derived.Test.YtpmmfalpcooenaaDoorMtLib
import Derived.Deep.RegionHeld3
import Derived.Deep.DeepCutAuto
namespace Go.Proofs.YtpmmfalpcooenaaDoor.C9gl
open Go.RowKit Ft Is Ge Qb Fi
set_option linter.unusedVariables false
set_option maxRecDepth 100000 in
set_option maxHeartbeats 8000000 in
theorem core (v0 : Int) (v1 : Int) (A2 : Option Addr) (n2 c2 : Nat) (f2 : Nat → Int) (w : World) (hV : Er.V4 w) (hw0 : (Lit.int .i64 v0).wf = true) (hw1 : (Lit.int .i64 v1).wf = true) (hm2 : n2 ≤ maxLen) (hR2 : Nums w w.heap.size A2 n2 f2) (hn2 : n2 ≤ 1048576) :
    Calls Tryd.prog 10 #[.int .i64 v0, .int .i64 v1, .slice A2 n2 c2] w fun e w' => e = .returned (.bool true) ∧ Below w.heap.size w w' := by
  have R2 := Lib.hid hR2
  have T2n := Lib.hid (fun hn w h => to_ints A2 n2 c2 f2 hn w h)
  have Q2n := Lib.hid (fun hn A1 A2 c1 c2 w h1 h2 => eq_ints A1 A2 n2 c1 c2 f2 hn w h1 h2)
  have M2n := Lib.hid (fun hn k0 h0 h1 g c w h => Bw.mark_at g n2 c k0 f2 hn h0 h1 w h)
  have CS0 := Lib.hid (fun A2 c2 w h2 => C9g.spec_es v0 v1 A2 n2 c2 f2 hn2 w h2)
  have CI0 := Lib.hid (fun A2 c2 w' hb h2 => C9g.impl_es v0 v1 A2 n2 c2 f2 hn2 w' (hV.below hb) h2)
  have hb_m : C9e.esM v0 v1 n2 f2 ≤ 1048576 := C9e.esm_le _ _ _ _
  unfold Ow.PairAt at CS0 CI0
  generalize C9e.esM v0 v1 n2 f2 = m at CS0 CI0 hb_m
  generalize C9e.esD v0 v1 n2 f2 = d at CS0 CI0
  generalize C9e.esC v0 v1 n2 f2 = cd at CS0 CI0
  have ne_cd : (cd != cd) = false := by simp
  have EQ_m := Lib.hid (fun A1 A2 c1 c2 w h1 h2 => eq_ints A1 A2 m c1 c2 d hb_m w h1 h2)
  have MK_m := Lib.hid (fun A c B w (hB : B ≤ w.heap.size) h => mark_ints A m c 1 d hb_m (by omega) (by omega) B w h)
  have HE_m := Lib.hid (fun A c w h => Bw.held_same A m c 1 hb_m (by omega) (by omega) w h)
  have hM_m : 0 ≤ mk 1 m := by unfold mk; omega
  generalize mk 1 m = M_m at MK_m HE_m hM_m
  have neM_m : (M_m != M_m) = false := by simp
  clear hR2
  go_enter Tryd.func10, Tryd.ntmps10
  have B_0 := Lib.hid (Below.refl w.heap.size w)
  have CS := CS0
  have CI := CI0
  have T2 := Lib.hid (T2n.out hn2)
  have Q2 := Lib.hid (Q2n.out hn2)
  have M2 := Lib.hid (M2n.out hn2)
  clear T2n Q2n M2n
  go_wp2_with fail
  refine (T2.out _ ((R2.out.below B_0.out (Nat.le_refl _)).more B_0.out.size)).mono ?_
  rintro e w1 ⟨g1, rfl, hg1, a1, b1⟩
  have B_1 := Lib.hid (below_then B_0.out b1)
  have s_1 := b1.size
  have I2_1 := Lib.hid (at_nums a1.out)
  clear b1 B_0 hg1 a1
  go_wp2_with fail
  refine (CS.out _ _ _ I2_1.out).mono ?_
  rintro e w2 ⟨AW0, cW0, rfl, HW0, b2⟩
  have B_2 := Lib.hid (below_then B_1.out b2)
  have s_2 := b2.size
  have I2_2 := Lib.hid ((I2_1.out.below b2 (Nat.le_refl _)).more b2.size)
  clear b2 B_1 I2_1
  have W0_2 := Lib.hid HW0.out.nums
  clear HW0
  clear I2_2
  clear CS
  go_wp2_with fail
  refine (T2.out _ ((R2.out.below B_2.out (Nat.le_refl _)).more B_2.out.size)).mono ?_
  rintro e w3 ⟨g3, rfl, hg3, a3, b3⟩
  have B_3 := Lib.hid (below_then B_2.out b3)
  have s_3 := b3.size
  have W0_3 := Lib.hid (W0_2.out.below b3 (by omega))
  have H2_3 := Lib.hid (at_nums a3.out)
  have C2_3 := Lib.hid (a3.out)
  have lg2 := a3.out.1
  have hh2 := hg3
  clear b3 B_2 W0_2 hg3 a3
  go_wp2_with fail
  refine (CI.out _ _ _ B_3.out H2_3.out).mono ?_
  rintro e w4 ⟨AG0, cG0, rfl, HG0, b4⟩
  have B_4 := Lib.hid (below_then B_3.out b4)
  have s_4 := b4.size
  have W0_4 := Lib.hid (W0_3.out.below b4 (by omega))
  have H2_4 := Lib.hid ((H2_3.out.below b4 (Nat.le_refl _)).more b4.size)
  have C2_4 := Lib.hid (C2_3.out.below b4)
  clear b4 B_3 W0_3 H2_3 C2_3
  have G0_4 := HG0
  clear HG0
  go_wp2_with fail
  refine (EQ_m.out _ _ _ _ _ G0_4.out.nums (W0_4.out.more (by omega))).mono ?_
  rintro e w5 ⟨rfl, b5⟩
  have B_5 := Lib.hid (below_then B_4.out b5)
  have s_5 := b5.size
  have W0_5 := Lib.hid (W0_4.out.below b5 (by omega))
  have H2_5 := Lib.hid ((H2_4.out.below b5 (Nat.le_refl _)).more b5.size)
  have C2_5 := Lib.hid (C2_4.out.below b5)
  have G0_5 := Lib.hid (G0_4.out.below b5)
  clear b5 B_4 W0_4 H2_4 C2_4 G0_4
  go_wp2_with fail
  refine (T2.out _ ((R2.out.below B_5.out (Nat.le_refl _)).more B_5.out.size)).mono ?_
  rintro e w6 ⟨g6, rfl, hg6, a6, b6⟩
  have B_6 := Lib.hid (below_then B_5.out b6)
  have s_6 := b6.size
  have W0_6 := Lib.hid (W0_5.out.below b6 (by omega))
  have H2_6 := Lib.hid ((H2_5.out.below b6 (Nat.le_refl _)).more b6.size)
  have C2_6 := Lib.hid (C2_5.out.below b6)
  have G0_6 := Lib.hid (G0_5.out.below b6)
  have I2_6 := Lib.hid (at_nums a6.out)
  clear b6 B_5 W0_5 H2_5 C2_5 G0_5 hg6 a6
  go_wp2_with fail
  refine (Q2.out _ _ _ _ _ H2_6.out I2_6.out).mono ?_
  rintro e w7 ⟨rfl, b7⟩
  have B_7 := Lib.hid (below_then B_6.out b7)
  have s_7 := b7.size
  have W0_7 := Lib.hid (W0_6.out.below b7 (by omega))
  have H2_7 := Lib.hid ((H2_6.out.below b7 (Nat.le_refl _)).more b7.size)
  have C2_7 := Lib.hid (C2_6.out.below b7)
  have G0_7 := Lib.hid (G0_6.out.below b7)
  have I2_7 := Lib.hid ((I2_6.out.below b7 (Nat.le_refl _)).more b7.size)
  clear b7 B_6 W0_6 H2_6 C2_6 G0_6 I2_6
  clear I2_7
  clear H2_7
  go_wp2_with fail
  refine (M2.out (1) (by omega) (by omega) _ _ _ C2_7.out).mono ?_
  rintro e w8 ⟨rfl, b8⟩
  have B_8 := Lib.hid (B_7.out.trans (b8.below (by omega) B_7.out.size))
  have s_8 := b8.size
  have W0_8 := Lib.hid (Bw.nums_but W0_7.out b8 (by omega))
  have G0_8 := Lib.hid (Bw.own_but G0_7.out b8 (by omega))
  clear b8 C2_7 B_7 W0_7 G0_7
  have hK : ¬ (1 : Int) + (n2 : Int) < 0 := by omega
  generalize (1 : Int) + (n2 : Int) = K at hK ⊢
  go_wp2_with fail
  refine (EQ_m.out _ _ _ _ _ G0_8.out.nums (W0_8.out.more (by omega))).mono ?_
  rintro e w9 ⟨rfl, b9⟩
  have B_9 := Lib.hid (below_then B_8.out b9)
  have s_9 := b9.size
  have W0_9 := Lib.hid (W0_8.out.below b9 (by omega))
  have G0_9 := Lib.hid (G0_8.out.below b9)
  clear b9 B_8 W0_8 G0_8
  go_wp2_with fail
  refine (MK_m.out _ _ w3.heap.size _ (by omega) G0_9.out).mono ?_
  rintro e w10 ⟨rfl, h10, b10⟩
  have B_10 := Lib.hid (B_9.out.trans (b10.mono (by omega)))
  have s_10 := b10.size
  have W0_10 := Lib.hid (W0_9.out.below b10 (by omega))
  have G0_10 := Lib.hid h10
  clear b10 h10 B_9 W0_9 G0_9
  go_wp2_with fail
  refine (HE_m.out _ _ _ G0_10.out.nums).mono ?_
  rintro e w11 ⟨rfl, b11⟩
  have B_11 := Lib.hid (below_then B_10.out b11)
  have s_11 := b11.size
  have W0_11 := Lib.hid (W0_10.out.below b11 (by omega))
  have G0_11 := Lib.hid (G0_10.out.below b11)
  clear b11 B_10 W0_10 G0_10
  go_wp2_with fail
  refine (T2.out _ ((R2.out.below B_11.out (Nat.le_refl _)).more B_11.out.size)).mono ?_
  rintro e w12 ⟨g12, rfl, hg12, a12, b12⟩
  have B_12 := Lib.hid (below_then B_11.out b12)
  have s_12 := b12.size
  have W0_12 := Lib.hid (W0_11.out.below b12 (by omega))
  have G0_12 := Lib.hid (G0_11.out.below b12)
  have I2_12 := Lib.hid (at_nums a12.out)
  clear b12 B_11 W0_11 G0_11 hg12 a12
  go_wp2_with fail
  refine (CI.out _ _ _ B_12.out I2_12.out).mono ?_
  rintro e w13 ⟨AO0, cO0, rfl, HO0, b13⟩
  have B_13 := Lib.hid (below_then B_12.out b13)
  have s_13 := b13.size
  have W0_13 := Lib.hid (W0_12.out.below b13 (by omega))
  have G0_13 := Lib.hid (G0_12.out.below b13)
  have I2_13 := Lib.hid ((I2_12.out.below b13 (Nat.le_refl _)).more b13.size)
  clear b13 B_12 W0_12 G0_12 I2_12
  have O0_13 := HO0
  clear HO0
  clear I2_13
  go_wp2_with fail
  refine (EQ_m.out _ _ _ _ _ O0_13.out.nums (W0_13.out.more (by omega))).mono ?_
  rintro e w14 ⟨rfl, b14⟩
  have B_14 := Lib.hid (below_then B_13.out b14)
  have s_14 := b14.size
  have W0_14 := Lib.hid (W0_13.out.below b14 (by omega))
  have G0_14 := Lib.hid (G0_13.out.below b14)
  have O0_14 := Lib.hid (O0_13.out.below b14)
  clear b14 B_13 W0_13 G0_13 O0_13
  go_wp2_with fail
  refine (HE_m.out _ _ _ G0_14.out.nums).mono ?_
  rintro e w15 ⟨rfl, b15⟩
  have B_15 := Lib.hid (below_then B_14.out b15)
  have s_15 := b15.size
  have W0_15 := Lib.hid (W0_14.out.below b15 (by omega))
  have G0_15 := Lib.hid (G0_14.out.below b15)
  have O0_15 := Lib.hid (O0_14.out.below b15)
  clear b15 B_14 W0_14 G0_14 O0_14
  go_wp2_with fail
  go_ret
  exact ⟨rfl, B_15.out⟩
theorem law (v0 : Int) (v1 : Int) (A2 : Option Addr) (n2 c2 : Nat) (f2 : Nat → Int) (w : World) (hV : Er.V4 w) (hw0 : (Lit.int .i64 v0).wf = true) (hw1 : (Lit.int .i64 v1).wf = true) (hm2 : n2 ≤ maxLen) (hR2 : Nums w w.heap.size A2 n2 f2) :
    Calls Tryd.prog 10 #[.int .i64 v0, .int .i64 v1, .slice A2 n2 c2] w fun e w' => e = .returned (.bool true) ∧ Below w.heap.size w w' := by
  by_cases hb2 : 1048576 < n2
  · unfold maxLen at hm2
    clear hR2
    go_enter Tryd.func10, Tryd.ntmps10
    go_wp2_with fail
    go_ret
    exact ⟨rfl, by repeat (first | exact Below.refl _ _ | exact below_box _ _ | refine Below.alloc ?_ (by simp <;> omega) _)⟩
  have hn2 : n2 ≤ 1048576 := by omega
  exact core v0 v1 A2 n2 c2 f2 w hV hw0 hw1 hm2 hR2 hn2
end Go.Proofs.YtpmmfalpcooenaaDoor.C9gl
