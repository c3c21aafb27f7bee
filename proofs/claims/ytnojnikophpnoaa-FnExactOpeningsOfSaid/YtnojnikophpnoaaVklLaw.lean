/- The walk of the law of OpeningsOf. -/
import Derived.Test.YtnojnikophpnoaaVkLib
import Derived.Test.YtnojnikophpnoaaBwLib
import Derived.Test.YtnojnikophpnoaaFiLib
import Derived.Test.YtnojnikophpnoaaPsLib
import Derived.Deep.RegionHeld3
import Derived.Deep.DeepCutAuto
namespace Go.Proofs.Ytnojnikophpnoaa.Vkl
open Go.RowKit Ft Is Ge Qb
set_option linter.unusedVariables false
set_option maxRecDepth 100000 in
set_option maxHeartbeats 8000000 in
theorem core (A0 : Option Addr) (n0 c0 : Nat) (N0 : Nat → ByteArray) (ms0 : Nat → Nat) (ds0 : Nat → Nat → Int) (Y0 : Option Addr) (kk0 sc0 : Nat) (se0 : Nat → Int) (op0 : Int) (w : World)  (hm0 : n0 ≤ maxLen) (hk0 : kk0 ≤ maxLen) (hz0 : ∀ i, i < n0 → (N0 i).size ≤ maxLen ∧ ms0 i ≤ maxLen) (hw0 : ∀ i, i < kk0 * 4 → (Lit.int .i64 (se0 i)).wf = true) (hR0 : Pt.PatR w A0 n0 N0 ms0 ds0 Y0 kk0 se0) :
    Calls Try.prog 9 #[.agg #[.slice A0 n0 c0, .slice Y0 kk0 sc0, .int .i64 op0]] w fun e w' => e = .returned (.bool true) ∧ Below w.heap.size w w' := by
  have R0 := Lib.hid hR0
  have Z0 := Lib.hid (fun l h0 h1 w h => Pt.sz_pattern A0 n0 c0 N0 ms0 ds0 Y0 kk0 sc0 se0 op0 l h0 h1 hm0 hk0 hz0 w h)
  have T0n := Lib.hid (fun hn w h => Pt.to_pattern A0 n0 c0 N0 ms0 ds0 Y0 kk0 sc0 se0 op0 hn w h)
  have Q0n := Lib.hid (fun hn A1 A2 Y1 Y2 c1 c2 s1 s2 w h1 h2 => Pt.eq_pattern A1 A2 Y1 Y2 n0 c1 c2 kk0 s1 s2 N0 ms0 ds0 se0 op0 hn w h1 h2)
  have M0n := Lib.hid (fun hn k0 h0 h1 lo hi g sg w hs hh h => Ps.mark_pattern g n0 sg kk0 N0 ms0 ds0 se0 op0 k0 h0 h1 lo hi hn w hs hh h)
  have CS0 := Lib.hid (fun (hn0 : Pt.Small n0 N0 ms0 kk0) => (fun A0 c0 Y0 sc0 w h0 => Vk.spec_op A0 n0 c0 N0 ms0 ds0 Y0 kk0 sc0 se0 op0 hn0 w h0))
  have CI0 := Lib.hid (fun (hn0 : Pt.Small n0 N0 ms0 kk0) => (fun A0 c0 Y0 sc0 w h0 => Vk.impl_op A0 n0 c0 N0 ms0 ds0 Y0 kk0 sc0 se0 op0 hn0 hw0 w h0))
  have hb_m : (Sdq.vM n0 N0 ms0 ds0 kk0 se0 op0 (Vg.st ms0 ds0 se0 kk0 (Vo.ol ms0 n0 se0 kk0 (Pt.sumN ms0 n0))).2.length) ≤ 1048576 := Vk.vm_o _ _ _ _ _ _ _
  unfold Sdq.PairAt at CS0 CI0
  generalize (Sdq.vM n0 N0 ms0 ds0 kk0 se0 op0 (Vg.st ms0 ds0 se0 kk0 (Vo.ol ms0 n0 se0 kk0 (Pt.sumN ms0 n0))).2.length) = m at CS0 CI0 hb_m
  generalize Vg.opD ms0 ds0 se0 kk0 n0 = d at CS0 CI0
  generalize Sdq.vC n0 N0 ms0 ds0 kk0 se0 op0 = cd at CS0 CI0
  have ne_cd : (cd != cd) = false := by simp
  have EQ_m := Lib.hid (fun A1 A2 c1 c2 w h1 h2 => eq_ints A1 A2 m c1 c2 d hb_m w h1 h2)
  have MK_m := Lib.hid (fun A c B w (hB : B ≤ w.heap.size) h => mark_ints A m c 1 d hb_m (by omega) (by omega) B w h)
  have HE_m := Lib.hid (fun A c w h => Bw.held_same A m c 1 hb_m (by omega) (by omega) w h)
  have hM_m : 0 ≤ mk 1 m := by unfold mk; omega
  generalize mk 1 m = M_m at MK_m HE_m hM_m
  have neM_m : (M_m != M_m) = false := by simp
  clear hR0
  have kb0 := heap_alloc_new w (.cells #[.slice A0 n0 c0, .slice Y0 kk0 sc0, .int .i64 op0] 25)
  have B_0 := Lib.hid (below_box w (.cells #[.slice A0 n0 c0, .slice Y0 kk0 sc0, .int .i64 op0] 25))
  have K0_0 := Lib.hid kb0
  clear kb0
  go_enter Try.func9, Try.ntmps9
  go_upto_region 1 with fail
  generalize hw0 : w.alloc _ = w0 at K0_0 B_0 ⊢
  have s_0 := B_0.out.size
  clear hw0
  have lb0 := lt_of_heap K0_0.out
  obtain ⟨v0x0, v0x1, v0x2⟩ := Pt.blk3 K0_0.out
  go_wp2_with fail
  refine (Z0.out _ (by omega) (by omega) _ (R0.out.below B_0.out)).mono ?_
  rintro e w1 ⟨r1, rfl, hp1, hq1, hs1, b1⟩
  have B_1 := Lib.hid (below_then B_0.out b1)
  have s_1 := b1.size
  have K0_1 := Lib.hid (Ge.blk_keep b1 K0_0.out)
  clear v0x0 v0x1 v0x2
  clear b1 B_0 K0_0
  by_cases hr1 : r1 < 0
  · go_wp2_with fail
    go_ret
    exact ⟨rfl, B_1.out⟩
  have hn0 : Pt.Small n0 N0 ms0 kk0 := hs1 (by omega)
  clear hs1 Z0
  have CS := Lib.hid (CS0.out hn0)
  have CI := Lib.hid (CI0.out hn0)
  clear CS0 CI0
  have T0 := Lib.hid (T0n.out hn0)
  have Q0 := Lib.hid (Q0n.out hn0)
  have M0 := Lib.hid (M0n.out hn0)
  clear T0n Q0n M0n
  obtain ⟨v0x0, v0x1, v0x2⟩ := Pt.blk3 K0_1.out
  go_wp2_with fail
  refine (T0.out _ (R0.out.below B_1.out)).mono ?_
  rintro e w2 ⟨g2, sg2, rfl, hg2, a2, b2⟩
  have B_2 := Lib.hid (below_then B_1.out b2)
  have s_2 := b2.size
  have K0_2 := Lib.hid (Ge.blk_keep b2 K0_1.out)
  have I0_2 := Lib.hid (Pt.PatO.read a2.out)
  clear v0x0 v0x1 v0x2
  clear b2 B_1 K0_1 hg2 a2
  go_wp2_with fail
  refine (CS.out _ _ _ _ _ I0_2.out).mono ?_
  rintro e w3 ⟨AW0, cW0, rfl, HW0, b3⟩
  have B_3 := Lib.hid (below_then B_2.out b3)
  have s_3 := b3.size
  have K0_3 := Lib.hid (Ge.blk_keep b3 K0_2.out)
  have I0_3 := Lib.hid (I0_2.out.below b3)
  clear b3 B_2 K0_2 I0_2
  have W0_3 := Lib.hid HW0.out.nums
  clear HW0
  clear I0_3
  clear CS
  obtain ⟨v0x0, v0x1, v0x2⟩ := Pt.blk3 K0_3.out
  go_wp2_with fail
  refine (T0.out _ (R0.out.below B_3.out)).mono ?_
  rintro e w4 ⟨g4, sg4, rfl, hg4, a4, b4⟩
  have B_4 := Lib.hid (below_then B_3.out b4)
  have s_4 := b4.size
  have K0_4 := Lib.hid (Ge.blk_keep b4 K0_3.out)
  have W0_4 := Lib.hid (W0_3.out.below b4 (by omega))
  have H0_4 := Lib.hid (Pt.PatO.read a4.out)
  have C0_4 := Lib.hid (a4.out)
  have lg0 := Ps.PatO.lt a4.out
  have hh0 := hg4
  clear v0x0 v0x1 v0x2
  clear b4 B_3 K0_3 W0_3 hg4 a4
  have bb := below_box w4 (.cells #[.slice (some ⟨g4, 0, none⟩) n0 n0, .slice (some ⟨sg4, 0, none⟩) kk0 kk0, .int .i64 op0] 31)
  have kx0 := Lib.hid (heap_alloc_new w4 (.cells #[.slice (some ⟨g4, 0, none⟩) n0 n0, .slice (some ⟨sg4, 0, none⟩) kk0 kk0, .int .i64 op0] 31))
  have B_5 := Lib.hid (below_then B_4.out bb)
  have s_5 := bb.size
  have K0_5 := Lib.hid (Ge.blk_keep bb K0_4.out)
  have W0_5 := Lib.hid (W0_4.out.below bb (by omega))
  have H0_5 := Lib.hid (H0_4.out.below bb)
  have C0_5 := Lib.hid (C0_4.out.below bb)
  go_upto_region 7 with fail
  clear B_4 K0_4 W0_4 H0_4 C0_4 bb
  generalize hww : w4.alloc (.cells #[.slice (some ⟨g4, 0, none⟩) n0 n0, .slice (some ⟨sg4, 0, none⟩) kk0 kk0, .int .i64 op0] 31) = w5 at B_5 s_5 kx0 K0_5 W0_5 H0_5 C0_5 ⊢
  have X0_5 := kx0
  have lx0 := lt_of_heap X0_5.out
  clear hww kx0
  obtain ⟨y0x0, y0x1, y0x2⟩ := Pt.blk3 X0_5.out
  go_wp2_with fail
  refine (CI.out _ _ _ _ _ H0_5.out).mono ?_
  rintro e w6 ⟨AG0, cG0, rfl, HG0, b6⟩
  have B_6 := Lib.hid (below_then B_5.out b6)
  have s_6 := b6.size
  have K0_6 := Lib.hid (Ge.blk_keep b6 K0_5.out)
  have W0_6 := Lib.hid (W0_5.out.below b6 (by omega))
  have H0_6 := Lib.hid (H0_5.out.below b6)
  have C0_6 := Lib.hid (C0_5.out.below b6)
  have X0_6 := Lib.hid (Ge.blk_keep b6 X0_5.out)
  clear y0x0 y0x1 y0x2
  clear b6 B_5 K0_5 W0_5 H0_5 C0_5 X0_5
  have G0_6 := HG0
  clear HG0
  go_wp2_with fail
  refine (EQ_m.out _ _ _ _ _ G0_6.out.nums (W0_6.out.more (by omega))).mono ?_
  rintro e w7 ⟨rfl, b7⟩
  have B_7 := Lib.hid (below_then B_6.out b7)
  have s_7 := b7.size
  have K0_7 := Lib.hid (Ge.blk_keep b7 K0_6.out)
  have W0_7 := Lib.hid (W0_6.out.below b7 (by omega))
  have H0_7 := Lib.hid (H0_6.out.below b7)
  have C0_7 := Lib.hid (C0_6.out.below b7)
  have X0_7 := Lib.hid (Ge.blk_keep b7 X0_6.out)
  have G0_7 := Lib.hid (G0_6.out.below b7)
  clear b7 B_6 K0_6 W0_6 H0_6 C0_6 X0_6 G0_6
  obtain ⟨v0x0, v0x1, v0x2⟩ := Pt.blk3 K0_7.out
  obtain ⟨y0x0, y0x1, y0x2⟩ := Pt.blk3 X0_7.out
  have lt_K0 := lt_of_heap K0_7.out
  have lt_X0 := lt_of_heap X0_7.out
  have At0 : Hid (∀ W, Below w7.heap.size w7 W → Pt.PatR W A0 n0 N0 ms0 ds0 Y0 kk0 se0) := Lib.hid fun W h => R0.out.below (below_then B_7.out h)
  go_upto_region 10 with fail
  have HA0 : Hid (∀ W, Below w7.heap.size w7 W → Pt.PatR W (some ⟨g4, 0, none⟩) n0 N0 ms0 ds0 (some ⟨sg4, 0, none⟩) kk0 se0) := Lib.hid fun W h => H0_7.out.below h
  go_cut [45] (fun z0 wx => z0 = .bool false ∧ Below w7.heap.size w7 wx)
  case first =>
    clear M0 EQ_m MK_m HE_m hM_m neM_m hb_m CI K0_7 W0_7 C0_7 X0_7 G0_7 H0_7 B_7
    go_region_held3 (fun w' => w'.cell? ⟨w.heap.size, 0, none⟩ = some (.slice A0 n0 c0) ∧ w'.cell? ⟨w.heap.size, 1, none⟩ = some (.slice Y0 kk0 sc0) ∧ w'.cell? ⟨w.heap.size, 2, none⟩ = some (.int .i64 op0) ∧ w'.cell? ⟨w4.heap.size, 0, none⟩ = some (.slice (some ⟨g4, 0, none⟩) n0 n0) ∧ w'.cell? ⟨w4.heap.size, 1, none⟩ = some (.slice (some ⟨sg4, 0, none⟩) kk0 kk0) ∧ w'.cell? ⟨w4.heap.size, 2, none⟩ = some (.int .i64 op0))
      (first | (refine ⟨?_, ?_, ?_, ?_, ?_, ?_⟩ <;> (refine Bw.keep_of (w2 := w7) ?_ (by omega) (by assumption); (repeat (first | (with_reducible exact Below.refl _ _) | (with_reducible exact BN) | refine Below.drew ?_)))))
      (first | (go_at_call 15; (with_reducible refine (T0.out _ (At0.out _ ?_)).mono ?_); (focus (repeat (first | (with_reducible exact Below.refl _ _) | (with_reducible exact BN) | refine Below.drew ?_))); rintro e wa ⟨gZ, sgZ, rfl, hgZ, aZ, ba⟩; have I0 := Lib.hid (Pt.PatO.read aZ.out); clear hgZ aZ; have BN := below_then (w0 := w7) ?_ ba; rotate_left; (focus (repeat (first | (with_reducible exact Below.refl _ _) | (with_reducible exact BN) | refine Below.drew ?_)))) | (go_at_call 17; (with_reducible refine (Q0.out _ _ _ _ _ _ _ _ _ (HA0.out _ ?_) ?_).mono ?_); (focus (repeat (first | (with_reducible exact Below.refl _ _) | (with_reducible exact BN) | refine Below.drew ?_))); (focus (exact I0.out)); rintro e wa ⟨rfl, ba⟩; have BN := below_then (w0 := w7) ?_ ba; rotate_left; (focus (repeat (first | (with_reducible exact Below.refl _ _) | (with_reducible exact BN) | refine Below.drew ?_)))))
    all_goals
      go_wp2_with fail
      go_meet
      refine ⟨rfl, ?_⟩
      first | (with_reducible exact BN) | (refine Below.drew ?_; with_reducible exact BN)
  case rest =>
    obtain ⟨rfl, b8⟩ := hcut
    have B_8 := Lib.hid (below_then B_7.out b8)
    have s_8 := b8.size
    have K0_8 := Lib.hid (Ge.blk_keep b8 K0_7.out)
    have W0_8 := Lib.hid (W0_7.out.below b8 (by omega))
    have H0_8 := Lib.hid (H0_7.out.below b8)
    have C0_8 := Lib.hid (C0_7.out.below b8)
    have X0_8 := Lib.hid (Ge.blk_keep b8 X0_7.out)
    have G0_8 := Lib.hid (G0_7.out.below b8)
    clear v0x0 v0x1 v0x2 y0x0 y0x1 y0x2
    clear b8 B_7 K0_7 W0_7 H0_7 C0_7 X0_7 G0_7 lt_K0 lt_X0 At0 HA0
    rename World => w8
    clear H0_8
    obtain ⟨y0x0, y0x1, y0x2⟩ := Pt.blk3 X0_8.out
    go_wp2_with fail
    refine (M0.out (1) (by omega) (by omega) _ w4.heap.size _ _ _ lg0 (by omega) C0_8.out).mono ?_
    rintro e w9 ⟨rfl, b9⟩
    have B_9 := Lib.hid (B_8.out.trans (b9.below (by omega) B_8.out.size))
    have s_9 := b9.size
    have K0_9 := Lib.hid (Ps.blk_span K0_8.out b9 (by omega))
    have W0_9 := Lib.hid (Ps.nums_span W0_8.out b9 (by omega))
    have X0_9 := Lib.hid (Ps.blk_span X0_8.out b9 (by omega))
    have G0_9 := Lib.hid (Ps.own_span G0_8.out b9 (by omega))
    clear y0x0 y0x1 y0x2
    clear b9 C0_8 B_8 K0_8 W0_8 X0_8 G0_8
    have hK : ¬ 1 + ((n0 : Int) + (Pt.sumN ms0 n0 : Int)) + 4 * (kk0 : Int) < 0 := by omega
    generalize 1 + ((n0 : Int) + (Pt.sumN ms0 n0 : Int)) + 4 * (kk0 : Int) = K at hK ⊢
    go_wp2_with fail
    refine (EQ_m.out _ _ _ _ _ G0_9.out.nums (W0_9.out.more (by omega))).mono ?_
    rintro e w10 ⟨rfl, b10⟩
    have B_10 := Lib.hid (below_then B_9.out b10)
    have s_10 := b10.size
    have K0_10 := Lib.hid (Ge.blk_keep b10 K0_9.out)
    have W0_10 := Lib.hid (W0_9.out.below b10 (by omega))
    have X0_10 := Lib.hid (Ge.blk_keep b10 X0_9.out)
    have G0_10 := Lib.hid (G0_9.out.below b10)
    clear b10 B_9 K0_9 W0_9 X0_9 G0_9
    go_wp2_with fail
    refine (MK_m.out _ _ w5.heap.size _ (by omega) G0_10.out).mono ?_
    rintro e w11 ⟨rfl, h11, b11⟩
    have B_11 := Lib.hid (B_10.out.trans (b11.mono (by omega)))
    have s_11 := b11.size
    have K0_11 := Lib.hid ((b11.block _ (by omega)).trans K0_10.out)
    have W0_11 := Lib.hid (W0_10.out.below b11 (by omega))
    have X0_11 := Lib.hid ((b11.block _ (by omega)).trans X0_10.out)
    have G0_11 := Lib.hid h11
    clear b11 h11 B_10 K0_10 W0_10 X0_10 G0_10
    go_wp2_with fail
    refine (HE_m.out _ _ _ G0_11.out.nums).mono ?_
    rintro e w12 ⟨rfl, b12⟩
    have B_12 := Lib.hid (below_then B_11.out b12)
    have s_12 := b12.size
    have K0_12 := Lib.hid (Ge.blk_keep b12 K0_11.out)
    have W0_12 := Lib.hid (W0_11.out.below b12 (by omega))
    have X0_12 := Lib.hid (Ge.blk_keep b12 X0_11.out)
    have G0_12 := Lib.hid (G0_11.out.below b12)
    clear b12 B_11 K0_11 W0_11 X0_11 G0_11
    obtain ⟨v0x0, v0x1, v0x2⟩ := Pt.blk3 K0_12.out
    go_wp2_with fail
    refine (T0.out _ (R0.out.below B_12.out)).mono ?_
    rintro e w13 ⟨g13, sg13, rfl, hg13, a13, b13⟩
    have B_13 := Lib.hid (below_then B_12.out b13)
    have s_13 := b13.size
    have K0_13 := Lib.hid (Ge.blk_keep b13 K0_12.out)
    have W0_13 := Lib.hid (W0_12.out.below b13 (by omega))
    have X0_13 := Lib.hid (Ge.blk_keep b13 X0_12.out)
    have G0_13 := Lib.hid (G0_12.out.below b13)
    have I0_13 := Lib.hid (Pt.PatO.read a13.out)
    clear v0x0 v0x1 v0x2
    clear b13 B_12 K0_12 W0_12 X0_12 G0_12 hg13 a13
    obtain ⟨y0x0, y0x1, y0x2⟩ := Pt.blk3 X0_13.out
    go_wp2_with fail
    refine (CI.out _ _ _ _ _ I0_13.out).mono ?_
    rintro e w14 ⟨AO0, cO0, rfl, HO0, b14⟩
    have B_14 := Lib.hid (below_then B_13.out b14)
    have s_14 := b14.size
    have K0_14 := Lib.hid (Ge.blk_keep b14 K0_13.out)
    have W0_14 := Lib.hid (W0_13.out.below b14 (by omega))
    have X0_14 := Lib.hid (Ge.blk_keep b14 X0_13.out)
    have G0_14 := Lib.hid (G0_13.out.below b14)
    have I0_14 := Lib.hid (I0_13.out.below b14)
    clear y0x0 y0x1 y0x2
    clear b14 B_13 K0_13 W0_13 X0_13 G0_13 I0_13
    have O0_14 := HO0
    clear HO0
    clear I0_14
    go_wp2_with fail
    refine (EQ_m.out _ _ _ _ _ O0_14.out.nums (W0_14.out.more (by omega))).mono ?_
    rintro e w15 ⟨rfl, b15⟩
    have B_15 := Lib.hid (below_then B_14.out b15)
    have s_15 := b15.size
    have K0_15 := Lib.hid (Ge.blk_keep b15 K0_14.out)
    have W0_15 := Lib.hid (W0_14.out.below b15 (by omega))
    have X0_15 := Lib.hid (Ge.blk_keep b15 X0_14.out)
    have G0_15 := Lib.hid (G0_14.out.below b15)
    have O0_15 := Lib.hid (O0_14.out.below b15)
    clear b15 B_14 K0_14 W0_14 X0_14 G0_14 O0_14
    go_wp2_with fail
    refine (HE_m.out _ _ _ G0_15.out.nums).mono ?_
    rintro e w16 ⟨rfl, b16⟩
    have B_16 := Lib.hid (below_then B_15.out b16)
    have s_16 := b16.size
    have K0_16 := Lib.hid (Ge.blk_keep b16 K0_15.out)
    have W0_16 := Lib.hid (W0_15.out.below b16 (by omega))
    have X0_16 := Lib.hid (Ge.blk_keep b16 X0_15.out)
    have G0_16 := Lib.hid (G0_15.out.below b16)
    have O0_16 := Lib.hid (O0_15.out.below b16)
    clear b16 B_15 K0_15 W0_15 X0_15 G0_15 O0_15
    go_wp2_with fail
    go_ret
    exact ⟨rfl, B_16.out⟩
theorem law (A0 : Option Addr) (n0 c0 : Nat) (N0 : Nat → ByteArray) (ms0 : Nat → Nat) (ds0 : Nat → Nat → Int) (Y0 : Option Addr) (kk0 sc0 : Nat) (se0 : Nat → Int) (op0 : Int) (w : World)  (hm0 : n0 ≤ maxLen) (hk0 : kk0 ≤ maxLen) (hz0 : ∀ i, i < n0 → (N0 i).size ≤ maxLen ∧ ms0 i ≤ maxLen) (hw0 : ∀ i, i < kk0 * 4 → (Lit.int .i64 (se0 i)).wf = true) (hR0 : Pt.PatR w A0 n0 N0 ms0 ds0 Y0 kk0 se0) :
    Calls Try.prog 9 #[.agg #[.slice A0 n0 c0, .slice Y0 kk0 sc0, .int .i64 op0]] w fun e w' => e = .returned (.bool true) ∧ Below w.heap.size w w' :=
  core A0 n0 c0 N0 ms0 ds0 Y0 kk0 sc0 se0 op0 w hm0 hk0 hz0 hw0 hR0
end Go.Proofs.Ytnojnikophpnoaa.Vkl
