/- The walk of the law of RunPulls. -/
import Derived.Test.YtgclhkiiaclkgaaP9Lib
import Derived.Test.YtgclhkiiaclkgaaJfLib
import Derived.Test.YtgclhkiiaclkgaaJgLib
import Derived.Test.YtgclhkiiaclkgaaFiLib
import Derived.Test.YtgclhkiiaclkgaaBwLib
import Derived.Deep.RegionHeld3
import Derived.Deep.DeepCutAuto
namespace Go.Proofs.Ytgclhkiiaclkgaa.Jfl
open Go.RowKit Ft Is Ge Qb Fi
set_option linter.unusedVariables false
set_option maxRecDepth 100000 in
set_option maxHeartbeats 8000000 in
theorem core (x0 y0 u0 v0 : Int) (v1 : Int) (v2 : Int) (A3 : Option Addr) (n3 c3 : Nat) (f3 : Nat → Int) (w : World)  (hwx0 : (Lit.int .i64 x0).wf = true) (hwy0 : (Lit.int .i64 y0).wf = true) (hwu0 : (Lit.int .i64 u0).wf = true) (hwv0 : (Lit.int .i64 v0).wf = true) (hw1 : (Lit.int .i64 v1).wf = true) (hw2 : (Lit.int .i64 v2).wf = true) (hm3 : n3 ≤ maxLen) (hR3 : Nums w w.heap.size A3 n3 f3) (hn3 : n3 ≤ 1048576) :
    Calls Try.prog 7 #[.agg #[.int .i64 x0, .int .i64 y0, .int .i64 u0, .int .i64 v0], .int .i64 v1, .int .i64 v2, .slice A3 n3 c3] w fun e w' => e = .returned (.bool true) ∧ Below w.heap.size w w' := by
  have T0 := Lib.hid (fun w => Jg.to_le x0 y0 u0 v0 w)
  have R3 := Lib.hid hR3
  have T3n := Lib.hid (fun hn w h => to_ints A3 n3 c3 f3 hn w h)
  have Q3n := Lib.hid (fun hn A1 A2 c1 c2 w h1 h2 => eq_ints A1 A2 n3 c1 c2 f3 hn w h1 h2)
  have M3n := Lib.hid (fun hn k0 h0 h1 g c w h => Bw.mark_at g n3 c k0 f3 hn h0 h1 w h)
  have CS0 := Lib.hid (fun A3 c3 w h3 => Jf.spec_rp x0 y0 u0 v0 v1 v2 A3 n3 c3 f3 hn3 w h3)
  have CI0 := Lib.hid (fun A3 c3 w h3 => P9.impl_rp x0 y0 u0 v0 v1 v2 A3 n3 c3 f3 hn3 w h3)
  have hb_m : Jf.rpN x0 y0 u0 v0 v1 v2 n3 f3 ≤ 1048576 := by unfold Jf.rpN; split <;> omega
  unfold Jf.RpAt Ow.PairAt at CS0 CI0
  generalize (fun j => Jf.ln x0 y0 u0 v1 v2 f3 (j + 1)) = d at CS0 CI0
  generalize Jf.rpN x0 y0 u0 v0 v1 v2 n3 f3 = m at CS0 CI0 hb_m
  generalize Jf.rpC x0 y0 u0 v0 v1 v2 n3 f3 = cd at CS0 CI0
  have ne_cd : (cd != cd) = false := by simp
  have EQ_m := Lib.hid (fun A1 A2 c1 c2 w h1 h2 => eq_ints A1 A2 m c1 c2 d hb_m w h1 h2)
  have MK_m := Lib.hid (fun A c B w (hB : B ≤ w.heap.size) h => mark_ints A m c 1 d hb_m (by omega) (by omega) B w h)
  have HE_m := Lib.hid (fun A c w h => Bw.held_same A m c 1 hb_m (by omega) (by omega) w h)
  have hM_m : 0 ≤ mk 1 m := by unfold mk; omega
  generalize mk 1 m = M_m at MK_m HE_m hM_m
  have neM_m : (M_m != M_m) = false := by simp
  clear hR3
  have kb0 := heap_alloc_new w (.cells #[.int .i64 x0, .int .i64 y0, .int .i64 u0, .int .i64 v0] 23)
  have B_0 := Lib.hid (below_box w (.cells #[.int .i64 x0, .int .i64 y0, .int .i64 u0, .int .i64 v0] 23))
  have K0_0 := Lib.hid kb0
  clear kb0
  go_enter Try.func7, Try.ntmps7
  go_upto_region 1 with fail
  generalize hw0 : w.alloc _ = w0 at K0_0 B_0 ⊢
  have s_0 := B_0.out.size
  clear hw0
  have lb0 := lt_of_heap K0_0.out
  have CS := CS0
  have CI := CI0
  have T3 := Lib.hid (T3n.out hn3)
  have Q3 := Lib.hid (Q3n.out hn3)
  have M3 := Lib.hid (M3n.out hn3)
  clear T3n Q3n M3n
  obtain ⟨v0x0, v0x1, v0x2, v0x3⟩ := Ge.blk4 K0_0.out
  go_wp2_with fail
  refine (T0.out _).mono ?_
  rintro e w1 ⟨rfl, b1⟩
  have B_1 := Lib.hid (below_then B_0.out b1)
  have s_1 := b1.size
  have K0_1 := Lib.hid (Ge.blk_keep b1 K0_0.out)
  clear v0x0 v0x1 v0x2 v0x3
  clear b1 B_0 K0_0
  go_wp2_with fail
  refine (T3.out _ ((R3.out.below B_1.out (Nat.le_refl _)).more B_1.out.size)).mono ?_
  rintro e w2 ⟨g2, rfl, hg2, a2, b2⟩
  have B_2 := Lib.hid (below_then B_1.out b2)
  have s_2 := b2.size
  have K0_2 := Lib.hid (Ge.blk_keep b2 K0_1.out)
  have I3_2 := Lib.hid (at_nums a2.out)
  clear b2 B_1 K0_1 hg2 a2
  go_wp2_with fail
  refine (CS.out _ _ _ I3_2.out).mono ?_
  rintro e w3 ⟨AW0, cW0, rfl, HW0, b3⟩
  have B_3 := Lib.hid (below_then B_2.out b3)
  have s_3 := b3.size
  have K0_3 := Lib.hid (Ge.blk_keep b3 K0_2.out)
  have I3_3 := Lib.hid ((I3_2.out.below b3 (Nat.le_refl _)).more b3.size)
  clear b3 B_2 K0_2 I3_2
  have W0_3 := Lib.hid HW0.out.nums
  clear HW0
  clear I3_3
  clear CS
  go_wp2_with fail
  refine (T3.out _ ((R3.out.below B_3.out (Nat.le_refl _)).more B_3.out.size)).mono ?_
  rintro e w4 ⟨g4, rfl, hg4, a4, b4⟩
  have B_4 := Lib.hid (below_then B_3.out b4)
  have s_4 := b4.size
  have K0_4 := Lib.hid (Ge.blk_keep b4 K0_3.out)
  have W0_4 := Lib.hid (W0_3.out.below b4 (by omega))
  have H3_4 := Lib.hid (at_nums a4.out)
  have C3_4 := Lib.hid (a4.out)
  have lg3 := a4.out.1
  have hh3 := hg4
  clear b4 B_3 K0_3 W0_3 hg4 a4
  obtain ⟨v0x0, v0x1, v0x2, v0x3⟩ := Ge.blk4 K0_4.out
  go_wp2_with fail
  refine (T0.out _).mono ?_
  rintro e w5 ⟨rfl, b5⟩
  have B_5 := Lib.hid (below_then B_4.out b5)
  have s_5 := b5.size
  have K0_5 := Lib.hid (Ge.blk_keep b5 K0_4.out)
  have W0_5 := Lib.hid (W0_4.out.below b5 (by omega))
  have H3_5 := Lib.hid ((H3_4.out.below b5 (Nat.le_refl _)).more b5.size)
  have C3_5 := Lib.hid (C3_4.out.below b5)
  clear v0x0 v0x1 v0x2 v0x3
  clear b5 B_4 K0_4 W0_4 H3_4 C3_4
  go_wp2_with fail
  refine (CI.out _ _ _ H3_5.out).mono ?_
  rintro e w6 ⟨AG0, cG0, rfl, HG0, b6⟩
  have B_6 := Lib.hid (below_then B_5.out b6)
  have s_6 := b6.size
  have K0_6 := Lib.hid (Ge.blk_keep b6 K0_5.out)
  have W0_6 := Lib.hid (W0_5.out.below b6 (by omega))
  have H3_6 := Lib.hid ((H3_5.out.below b6 (Nat.le_refl _)).more b6.size)
  have C3_6 := Lib.hid (C3_5.out.below b6)
  clear b6 B_5 K0_5 W0_5 H3_5 C3_5
  have G0_6 := HG0
  clear HG0
  go_wp2_with fail
  refine (EQ_m.out _ _ _ _ _ G0_6.out.nums (W0_6.out.more (by omega))).mono ?_
  rintro e w7 ⟨rfl, b7⟩
  have B_7 := Lib.hid (below_then B_6.out b7)
  have s_7 := b7.size
  have K0_7 := Lib.hid (Ge.blk_keep b7 K0_6.out)
  have W0_7 := Lib.hid (W0_6.out.below b7 (by omega))
  have H3_7 := Lib.hid ((H3_6.out.below b7 (Nat.le_refl _)).more b7.size)
  have C3_7 := Lib.hid (C3_6.out.below b7)
  have G0_7 := Lib.hid (G0_6.out.below b7)
  clear b7 B_6 K0_6 W0_6 H3_6 C3_6 G0_6
  go_wp2_with fail
  refine (T3.out _ ((R3.out.below B_7.out (Nat.le_refl _)).more B_7.out.size)).mono ?_
  rintro e w8 ⟨g8, rfl, hg8, a8, b8⟩
  have B_8 := Lib.hid (below_then B_7.out b8)
  have s_8 := b8.size
  have K0_8 := Lib.hid (Ge.blk_keep b8 K0_7.out)
  have W0_8 := Lib.hid (W0_7.out.below b8 (by omega))
  have H3_8 := Lib.hid ((H3_7.out.below b8 (Nat.le_refl _)).more b8.size)
  have C3_8 := Lib.hid (C3_7.out.below b8)
  have G0_8 := Lib.hid (G0_7.out.below b8)
  have I3_8 := Lib.hid (at_nums a8.out)
  clear b8 B_7 K0_7 W0_7 H3_7 C3_7 G0_7 hg8 a8
  go_wp2_with fail
  refine (Q3.out _ _ _ _ _ H3_8.out I3_8.out).mono ?_
  rintro e w9 ⟨rfl, b9⟩
  have B_9 := Lib.hid (below_then B_8.out b9)
  have s_9 := b9.size
  have K0_9 := Lib.hid (Ge.blk_keep b9 K0_8.out)
  have W0_9 := Lib.hid (W0_8.out.below b9 (by omega))
  have H3_9 := Lib.hid ((H3_8.out.below b9 (Nat.le_refl _)).more b9.size)
  have C3_9 := Lib.hid (C3_8.out.below b9)
  have G0_9 := Lib.hid (G0_8.out.below b9)
  have I3_9 := Lib.hid ((I3_8.out.below b9 (Nat.le_refl _)).more b9.size)
  clear b9 B_8 K0_8 W0_8 H3_8 C3_8 G0_8 I3_8
  clear I3_9
  clear H3_9
  go_wp2_with fail
  refine (M3.out (1) (by omega) (by omega) _ _ _ C3_9.out).mono ?_
  rintro e w10 ⟨rfl, b10⟩
  have B_10 := Lib.hid (B_9.out.trans (b10.below (by omega) B_9.out.size))
  have s_10 := b10.size
  have K0_10 := Lib.hid (Bw.blk_but K0_9.out b10 (by omega))
  have W0_10 := Lib.hid (Bw.nums_but W0_9.out b10 (by omega))
  have G0_10 := Lib.hid (Bw.own_but G0_9.out b10 (by omega))
  clear b10 C3_9 B_9 K0_9 W0_9 G0_9
  have hK : ¬ (1 : Int) + (n3 : Int) < 0 := by omega
  generalize (1 : Int) + (n3 : Int) = K at hK ⊢
  go_wp2_with fail
  refine (EQ_m.out _ _ _ _ _ G0_10.out.nums (W0_10.out.more (by omega))).mono ?_
  rintro e w11 ⟨rfl, b11⟩
  have B_11 := Lib.hid (below_then B_10.out b11)
  have s_11 := b11.size
  have K0_11 := Lib.hid (Ge.blk_keep b11 K0_10.out)
  have W0_11 := Lib.hid (W0_10.out.below b11 (by omega))
  have G0_11 := Lib.hid (G0_10.out.below b11)
  clear b11 B_10 K0_10 W0_10 G0_10
  go_wp2_with fail
  refine (MK_m.out _ _ w5.heap.size _ (by omega) G0_11.out).mono ?_
  rintro e w12 ⟨rfl, h12, b12⟩
  have B_12 := Lib.hid (B_11.out.trans (b12.mono (by omega)))
  have s_12 := b12.size
  have K0_12 := Lib.hid ((b12.block _ (by omega)).trans K0_11.out)
  have W0_12 := Lib.hid (W0_11.out.below b12 (by omega))
  have G0_12 := Lib.hid h12
  clear b12 h12 B_11 K0_11 W0_11 G0_11
  go_wp2_with fail
  refine (HE_m.out _ _ _ G0_12.out.nums).mono ?_
  rintro e w13 ⟨rfl, b13⟩
  have B_13 := Lib.hid (below_then B_12.out b13)
  have s_13 := b13.size
  have K0_13 := Lib.hid (Ge.blk_keep b13 K0_12.out)
  have W0_13 := Lib.hid (W0_12.out.below b13 (by omega))
  have G0_13 := Lib.hid (G0_12.out.below b13)
  clear b13 B_12 K0_12 W0_12 G0_12
  obtain ⟨v0x0, v0x1, v0x2, v0x3⟩ := Ge.blk4 K0_13.out
  go_wp2_with fail
  refine (T0.out _).mono ?_
  rintro e w14 ⟨rfl, b14⟩
  have B_14 := Lib.hid (below_then B_13.out b14)
  have s_14 := b14.size
  have K0_14 := Lib.hid (Ge.blk_keep b14 K0_13.out)
  have W0_14 := Lib.hid (W0_13.out.below b14 (by omega))
  have G0_14 := Lib.hid (G0_13.out.below b14)
  clear v0x0 v0x1 v0x2 v0x3
  clear b14 B_13 K0_13 W0_13 G0_13
  go_wp2_with fail
  refine (T3.out _ ((R3.out.below B_14.out (Nat.le_refl _)).more B_14.out.size)).mono ?_
  rintro e w15 ⟨g15, rfl, hg15, a15, b15⟩
  have B_15 := Lib.hid (below_then B_14.out b15)
  have s_15 := b15.size
  have K0_15 := Lib.hid (Ge.blk_keep b15 K0_14.out)
  have W0_15 := Lib.hid (W0_14.out.below b15 (by omega))
  have G0_15 := Lib.hid (G0_14.out.below b15)
  have I3_15 := Lib.hid (at_nums a15.out)
  clear b15 B_14 K0_14 W0_14 G0_14 hg15 a15
  go_wp2_with fail
  refine (CI.out _ _ _ I3_15.out).mono ?_
  rintro e w16 ⟨AO0, cO0, rfl, HO0, b16⟩
  have B_16 := Lib.hid (below_then B_15.out b16)
  have s_16 := b16.size
  have K0_16 := Lib.hid (Ge.blk_keep b16 K0_15.out)
  have W0_16 := Lib.hid (W0_15.out.below b16 (by omega))
  have G0_16 := Lib.hid (G0_15.out.below b16)
  have I3_16 := Lib.hid ((I3_15.out.below b16 (Nat.le_refl _)).more b16.size)
  clear b16 B_15 K0_15 W0_15 G0_15 I3_15
  have O0_16 := HO0
  clear HO0
  clear I3_16
  go_wp2_with fail
  refine (EQ_m.out _ _ _ _ _ O0_16.out.nums (W0_16.out.more (by omega))).mono ?_
  rintro e w17 ⟨rfl, b17⟩
  have B_17 := Lib.hid (below_then B_16.out b17)
  have s_17 := b17.size
  have K0_17 := Lib.hid (Ge.blk_keep b17 K0_16.out)
  have W0_17 := Lib.hid (W0_16.out.below b17 (by omega))
  have G0_17 := Lib.hid (G0_16.out.below b17)
  have O0_17 := Lib.hid (O0_16.out.below b17)
  clear b17 B_16 K0_16 W0_16 G0_16 O0_16
  go_wp2_with fail
  refine (HE_m.out _ _ _ G0_17.out.nums).mono ?_
  rintro e w18 ⟨rfl, b18⟩
  have B_18 := Lib.hid (below_then B_17.out b18)
  have s_18 := b18.size
  have K0_18 := Lib.hid (Ge.blk_keep b18 K0_17.out)
  have W0_18 := Lib.hid (W0_17.out.below b18 (by omega))
  have G0_18 := Lib.hid (G0_17.out.below b18)
  have O0_18 := Lib.hid (O0_17.out.below b18)
  clear b18 B_17 K0_17 W0_17 G0_17 O0_17
  go_wp2_with fail
  go_ret
  exact ⟨rfl, B_18.out⟩
theorem law (x0 y0 u0 v0 : Int) (v1 : Int) (v2 : Int) (A3 : Option Addr) (n3 c3 : Nat) (f3 : Nat → Int) (w : World)  (hwx0 : (Lit.int .i64 x0).wf = true) (hwy0 : (Lit.int .i64 y0).wf = true) (hwu0 : (Lit.int .i64 u0).wf = true) (hwv0 : (Lit.int .i64 v0).wf = true) (hw1 : (Lit.int .i64 v1).wf = true) (hw2 : (Lit.int .i64 v2).wf = true) (hm3 : n3 ≤ maxLen) (hR3 : Nums w w.heap.size A3 n3 f3) :
    Calls Try.prog 7 #[.agg #[.int .i64 x0, .int .i64 y0, .int .i64 u0, .int .i64 v0], .int .i64 v1, .int .i64 v2, .slice A3 n3 c3] w fun e w' => e = .returned (.bool true) ∧ Below w.heap.size w w' := by
  by_cases hb3 : 1048576 < n3
  · unfold maxLen at hm3
    clear hR3
    go_enter Try.func7, Try.ntmps7
    go_wp2_with fail
    go_ret
    exact ⟨rfl, by repeat (first | exact Below.refl _ _ | exact below_box _ _ | refine Below.alloc ?_ (by simp <;> omega) _)⟩
  have hn3 : n3 ≤ 1048576 := by omega
  exact core x0 y0 u0 v0 v1 v2 A3 n3 c3 f3 w hwx0 hwy0 hwu0 hwv0 hw1 hw2 hm3 hR3 hn3
end Go.Proofs.Ytgclhkiiaclkgaa.Jfl
