/- The walk of the law of UsedShare. -/
import Derived.Test.YtongfgikkcieaaaH8Lib
import Derived.Test.YtongfgikkcieaaaTgLib
import Derived.Test.YtongfgikkcieaaaTxLib
import Derived.Test.YtongfgikkcieaaaCutLib
import Derived.Test.YtongfgikkcieaaaFiLib
import Derived.Test.YtongfgikkcieaaaBwLib
import Derived.Deep.RegionHeld3
import Derived.Deep.DeepCutAuto
namespace Go.Proofs.Ytongfgikkcieaaa.H8u
open Go.RowKit Ft Is Ge Qb Fi
set_option linter.unusedVariables false
theorem eq_frac (a b : Int) (w : World) : Calls Try.prog 46 #[.agg #[.int .i64 a, .int .i64 b], .agg #[.int .i64 a, .int .i64 b]] w fun e w' => e = .returned (.bool true) ∧ Below w.heap.size w w' := by
  go_enter Try.func46, Try.ntmps46
  go_wp2_with fail
  go_ret
  exact ⟨rfl, by repeat (first | exact Below.refl _ _ | refine Below.alloc ?_ (by simp) _)⟩
set_option maxRecDepth 100000 in
set_option maxHeartbeats 8000000 in
theorem core (A0 : Option Addr) (n0 c0 : Nat) (f0 : Nat → ByteArray) (A1 : Option Addr) (n1 c1 : Nat) (f1 : Nat → Int) (A2 : Option Addr) (n2 c2 : Nat) (f2 : Nat → Int) (w : World)  (hm0 : n0 ≤ maxLen) (hz0 : ∀ i, i < n0 → (f0 i).size ≤ maxLen) (hR0 : Ts.Txts w w.heap.size A0 n0 f0) (hm1 : n1 ≤ maxLen) (hR1 : Nums w w.heap.size A1 (n1 * 4) f1) (hm2 : n2 ≤ maxLen) (hR2 : Nums w w.heap.size A2 n2 f2) (hn2 : n2 ≤ 1048576) :
    Calls Try.prog 11 #[.slice A0 n0 c0, .slice A1 n1 c1, .slice A2 n2 c2] w fun e w' => e = .returned (.bool true) ∧ Below w.heap.size w w' := by
  have R0 := Lib.hid hR0
  have Z0 := Lib.hid (fun l h0 h1 w h => Tx.sz_texts A0 n0 c0 f0 l h0 h1 hm0 hz0 w h)
  have T0n := Lib.hid (fun (hn : n0 ≤ 1048576 ∧ ∀ i, i < n0 → (f0 i).size ≤ 1048576) w h => Tx.to_texts A0 n0 c0 f0 hn.1 w h)
  have Q0n := Lib.hid (fun (hn : n0 ≤ 1048576 ∧ ∀ i, i < n0 → (f0 i).size ≤ 1048576) A1 A2 c1 c2 w h1 h2 => Ts.eq_texts A1 A2 n0 c1 c2 f0 (by omega) w h1 h2)
  have R1 := Lib.hid hR1
  have Z1 := Lib.hid (fun l h0 h1 w => Cut.sz_rows A1 n1 c1 l h0 h1 hm1 w)
  have T1n := Lib.hid (fun hn w h => Cut.to_rows A1 n1 c1 f1 hn w h)
  have Q1n := Lib.hid (fun hn A1 A2 c1 c2 w h1 h2 => Cut.eq_rows A1 A2 n1 c1 c2 f1 hn w h1 h2)
  have R2 := Lib.hid hR2
  have T2n := Lib.hid (fun hn w h => to_ints A2 n2 c2 f2 hn w h)
  have Q2n := Lib.hid (fun hn A1 A2 c1 c2 w h1 h2 => eq_ints A1 A2 n2 c1 c2 f2 hn w h1 h2)
  have CS0 := Lib.hid (fun (hn0 : n0 ≤ 1048576 ∧ ∀ i, i < n0 → (f0 i).size ≤ 1048576) (hn1 : n1 ≤ 1048576) => (fun A0 (c0 : Nat) A1 c1 A2 c2 w h0 h1 h2 => H8.spec_us A0 n0 n0 f0 A1 n1 c1 f1 A2 n2 c2 f2 hn0.1 hn0.2 hn1 hn2 w ⟨h0, h1, h2⟩))
  have CI0 := Lib.hid (fun (hn0 : n0 ≤ 1048576 ∧ ∀ i, i < n0 → (f0 i).size ≤ 1048576) (hn1 : n1 ≤ 1048576) => (fun A0 (c0 : Nat) A1 c1 A2 c2 w h0 h1 h2 => Tg.impl_us A0 n0 n0 f0 A1 n1 c1 f1 A2 n2 c2 f2 hn0.1 hn0.2 hn1 hn2 (Nat.le_refl _) w ⟨h0, h1, h2⟩))
  unfold H8.UsAt at CS0 CI0
  generalize H8.usA n0 f0 n1 f1 n2 f2 = x at CS0 CI0
  generalize H8.usB n0 f0 n1 f1 n2 f2 = y at CS0 CI0
  generalize H8.usC n0 f0 n1 f1 n2 f2 = cd at CS0 CI0
  have EQF := Lib.hid (fun w => eq_frac x y w)
  have ne_cd : (cd != cd) = false := by simp
  clear hR0 hR1 hR2
  go_enter Try.func11, Try.ntmps11
  have B_0 := Lib.hid (Below.refl w.heap.size w)
  go_wp2_with fail
  refine (Z0.out _ (by omega) (by omega) _ ((R0.out.below B_0.out (Nat.le_refl _)).more B_0.out.size)).mono ?_
  rintro e w1 ⟨r1, rfl, hp1, hq1, hs1, b1⟩
  have B_1 := Lib.hid (below_then B_0.out b1)
  have s_1 := b1.size
  clear b1 B_0
  by_cases hr1 : r1 < 0
  · go_wp2_with fail
    go_ret
    exact ⟨rfl, B_1.out⟩
  have hn0 : n0 ≤ 1048576 ∧ ∀ i, i < n0 → (f0 i).size ≤ 1048576 := hs1 (by omega)
  clear hs1 Z0
  go_wp2_with fail
  refine (Z1.out _ (by omega) (by omega) _).mono ?_
  rintro e w2 ⟨r2, rfl, hp2, hq2, hs2, b2⟩
  have B_2 := Lib.hid (below_then B_1.out b2)
  have s_2 := b2.size
  clear b2 B_1
  by_cases hr2 : r2 < 0
  · go_wp2_with fail
    go_ret
    exact ⟨rfl, B_2.out⟩
  have hn1 : n1 ≤ 1048576 := hs2 (by omega)
  clear hs2 Z1
  have CS := Lib.hid (CS0.out hn0 hn1)
  have CI := Lib.hid (CI0.out hn0 hn1)
  clear CS0 CI0
  have T0 := Lib.hid (T0n.out hn0)
  have Q0 := Lib.hid (Q0n.out hn0)
  clear T0n Q0n
  have T1 := Lib.hid (T1n.out hn1)
  have Q1 := Lib.hid (Q1n.out hn1)
  clear T1n Q1n
  have T2 := Lib.hid (T2n.out hn2)
  have Q2 := Lib.hid (Q2n.out hn2)
  clear T2n Q2n
  go_wp2_with fail
  refine (T0.out _ ((R0.out.below B_2.out (Nat.le_refl _)).more B_2.out.size)).mono ?_
  rintro e w3 ⟨g3, rfl, hg3, a3, b3⟩
  have B_3 := Lib.hid (below_then B_2.out b3)
  have s_3 := b3.size
  have I0_3 := Lib.hid (Tx.TAt.texts a3.out)
  clear b3 B_2 hg3 a3
  go_wp2_with fail
  refine (T1.out _ ((R1.out.below B_3.out (Nat.le_refl _)).more B_3.out.size)).mono ?_
  rintro e w4 ⟨g4, rfl, hg4, a4, b4⟩
  have B_4 := Lib.hid (below_then B_3.out b4)
  have s_4 := b4.size
  have I0_4 := Lib.hid ((I0_3.out.below b4 (Nat.le_refl _)).more b4.size)
  have I1_4 := Lib.hid (Cut.at_nums a4.out)
  clear b4 B_3 I0_3 hg4 a4
  go_wp2_with fail
  refine (T2.out _ ((R2.out.below B_4.out (Nat.le_refl _)).more B_4.out.size)).mono ?_
  rintro e w5 ⟨g5, rfl, hg5, a5, b5⟩
  have B_5 := Lib.hid (below_then B_4.out b5)
  have s_5 := b5.size
  have I0_5 := Lib.hid ((I0_4.out.below b5 (Nat.le_refl _)).more b5.size)
  have I1_5 := Lib.hid ((I1_4.out.below b5 (Nat.le_refl _)).more b5.size)
  have I2_5 := Lib.hid (at_nums a5.out)
  clear b5 B_4 I0_4 I1_4 hg5 a5
  go_wp2_with fail
  refine (CS.out _ n0 _ _ _ _ _ I0_5.out I1_5.out I2_5.out).mono ?_
  rintro e wa ⟨rfl, ba⟩
  have b6 := below_then ba (below_box wa (H8.frC x y))
  have KS_6 := Lib.hid (heap_alloc_new wa (H8.frC x y))
  go_upto_region 11 with fail
  generalize hwa : wa.alloc _ = w6 at b6 KS_6 ⊢
  generalize wa.heap.size = gS at KS_6 ⊢
  clear hwa ba
  have B_6 := Lib.hid (below_then B_5.out b6)
  have s_6 := b6.size
  have I0_6 := Lib.hid ((I0_5.out.below b6 (Nat.le_refl _)).more b6.size)
  have I1_6 := Lib.hid ((I1_5.out.below b6 (Nat.le_refl _)).more b6.size)
  have I2_6 := Lib.hid ((I2_5.out.below b6 (Nat.le_refl _)).more b6.size)
  clear b6 B_5 I0_5 I1_5 I2_5
  clear I0_6
  clear I1_6
  clear I2_6
  clear CS
  go_wp2_with fail
  refine (T0.out _ ((R0.out.below B_6.out (Nat.le_refl _)).more B_6.out.size)).mono ?_
  rintro e w7 ⟨g7, rfl, hg7, a7, b7⟩
  have B_7 := Lib.hid (below_then B_6.out b7)
  have s_7 := b7.size
  have KS_7 := Lib.hid (blk_keep b7 KS_6.out)
  clear KS_6
  have H0_7 := Lib.hid (Tx.TAt.texts a7.out)
  clear b7 B_6 hg7 a7
  go_wp2_with fail
  refine (T1.out _ ((R1.out.below B_7.out (Nat.le_refl _)).more B_7.out.size)).mono ?_
  rintro e w8 ⟨g8, rfl, hg8, a8, b8⟩
  have B_8 := Lib.hid (below_then B_7.out b8)
  have s_8 := b8.size
  have KS_8 := Lib.hid (blk_keep b8 KS_7.out)
  clear KS_7
  have H0_8 := Lib.hid ((H0_7.out.below b8 (Nat.le_refl _)).more b8.size)
  have H1_8 := Lib.hid (Cut.at_nums a8.out)
  clear b8 B_7 H0_7 hg8 a8
  go_wp2_with fail
  refine (T2.out _ ((R2.out.below B_8.out (Nat.le_refl _)).more B_8.out.size)).mono ?_
  rintro e w9 ⟨g9, rfl, hg9, a9, b9⟩
  have B_9 := Lib.hid (below_then B_8.out b9)
  have s_9 := b9.size
  have KS_9 := Lib.hid (blk_keep b9 KS_8.out)
  clear KS_8
  have H0_9 := Lib.hid ((H0_8.out.below b9 (Nat.le_refl _)).more b9.size)
  have H1_9 := Lib.hid ((H1_8.out.below b9 (Nat.le_refl _)).more b9.size)
  have H2_9 := Lib.hid (at_nums a9.out)
  clear b9 B_8 H0_8 H1_8 hg9 a9
  go_wp2_with fail
  refine (CI.out _ n0 _ _ _ _ _ H0_9.out H1_9.out H2_9.out).mono ?_
  rintro e wa ⟨rfl, ba⟩
  have bb := below_then ba (below_box wa (H8.frC x y))
  have KI := Lib.hid (heap_alloc_new wa (H8.frC x y))
  have KS := Lib.hid (blk_keep bb KS_9.out)
  go_upto_region 15 with fail
  generalize hwb : wa.alloc _ = wb at bb KI KS ⊢
  generalize wa.heap.size = gI at KI ⊢
  clear hwb
  obtain ⟨i0, i1⟩ := H8.blk2 KI.out
  obtain ⟨s0, s1⟩ := H8.blk2 KS.out
  go_wp2_with fail
  refine (EQF.out _).mono ?_
  rintro e w10 ⟨rfl, bE⟩
  have b10 := below_then bb bE
  clear ba bb KI KS KS_9 i0 i1 s0 s1 bE
  have B_10 := Lib.hid (below_then B_9.out b10)
  have s_10 := b10.size
  have H0_10 := Lib.hid ((H0_9.out.below b10 (Nat.le_refl _)).more b10.size)
  have H1_10 := Lib.hid ((H1_9.out.below b10 (Nat.le_refl _)).more b10.size)
  have H2_10 := Lib.hid ((H2_9.out.below b10 (Nat.le_refl _)).more b10.size)
  clear b10 B_9 H0_9 H1_9 H2_9
  go_wp2_with fail
  refine (T0.out _ ((R0.out.below B_10.out (Nat.le_refl _)).more B_10.out.size)).mono ?_
  rintro e w11 ⟨g11, rfl, hg11, a11, b11⟩
  have B_11 := Lib.hid (below_then B_10.out b11)
  have s_11 := b11.size
  have H0_11 := Lib.hid ((H0_10.out.below b11 (Nat.le_refl _)).more b11.size)
  have H1_11 := Lib.hid ((H1_10.out.below b11 (Nat.le_refl _)).more b11.size)
  have H2_11 := Lib.hid ((H2_10.out.below b11 (Nat.le_refl _)).more b11.size)
  have I0_11 := Lib.hid (Tx.TAt.texts a11.out)
  clear b11 B_10 H0_10 H1_10 H2_10 hg11 a11
  go_wp2_with fail
  refine (Q0.out _ _ _ _ _ H0_11.out I0_11.out).mono ?_
  rintro e w12 ⟨rfl, b12⟩
  have B_12 := Lib.hid (below_then B_11.out b12)
  have s_12 := b12.size
  have H0_12 := Lib.hid ((H0_11.out.below b12 (Nat.le_refl _)).more b12.size)
  have H1_12 := Lib.hid ((H1_11.out.below b12 (Nat.le_refl _)).more b12.size)
  have H2_12 := Lib.hid ((H2_11.out.below b12 (Nat.le_refl _)).more b12.size)
  have I0_12 := Lib.hid ((I0_11.out.below b12 (Nat.le_refl _)).more b12.size)
  clear b12 B_11 H0_11 H1_11 H2_11 I0_11
  clear I0_12
  clear H0_12
  go_wp2_with fail
  refine (T1.out _ ((R1.out.below B_12.out (Nat.le_refl _)).more B_12.out.size)).mono ?_
  rintro e w13 ⟨g13, rfl, hg13, a13, b13⟩
  have B_13 := Lib.hid (below_then B_12.out b13)
  have s_13 := b13.size
  have H1_13 := Lib.hid ((H1_12.out.below b13 (Nat.le_refl _)).more b13.size)
  have H2_13 := Lib.hid ((H2_12.out.below b13 (Nat.le_refl _)).more b13.size)
  have I1_13 := Lib.hid (Cut.at_nums a13.out)
  clear b13 B_12 H1_12 H2_12 hg13 a13
  go_wp2_with fail
  refine (Q1.out _ _ _ _ _ H1_13.out I1_13.out).mono ?_
  rintro e w14 ⟨rfl, b14⟩
  have B_14 := Lib.hid (below_then B_13.out b14)
  have s_14 := b14.size
  have H1_14 := Lib.hid ((H1_13.out.below b14 (Nat.le_refl _)).more b14.size)
  have H2_14 := Lib.hid ((H2_13.out.below b14 (Nat.le_refl _)).more b14.size)
  have I1_14 := Lib.hid ((I1_13.out.below b14 (Nat.le_refl _)).more b14.size)
  clear b14 B_13 H1_13 H2_13 I1_13
  clear I1_14
  clear H1_14
  go_wp2_with fail
  refine (T2.out _ ((R2.out.below B_14.out (Nat.le_refl _)).more B_14.out.size)).mono ?_
  rintro e w15 ⟨g15, rfl, hg15, a15, b15⟩
  have B_15 := Lib.hid (below_then B_14.out b15)
  have s_15 := b15.size
  have H2_15 := Lib.hid ((H2_14.out.below b15 (Nat.le_refl _)).more b15.size)
  have I2_15 := Lib.hid (at_nums a15.out)
  clear b15 B_14 H2_14 hg15 a15
  go_wp2_with fail
  refine (Q2.out _ _ _ _ _ H2_15.out I2_15.out).mono ?_
  rintro e w16 ⟨rfl, b16⟩
  have B_16 := Lib.hid (below_then B_15.out b16)
  have s_16 := b16.size
  have H2_16 := Lib.hid ((H2_15.out.below b16 (Nat.le_refl _)).more b16.size)
  have I2_16 := Lib.hid ((I2_15.out.below b16 (Nat.le_refl _)).more b16.size)
  clear b16 B_15 H2_15 I2_15
  clear I2_16
  clear H2_16
  go_wp2_with fail
  go_ret
  exact ⟨rfl, B_16.out⟩
theorem law (A0 : Option Addr) (n0 c0 : Nat) (f0 : Nat → ByteArray) (A1 : Option Addr) (n1 c1 : Nat) (f1 : Nat → Int) (A2 : Option Addr) (n2 c2 : Nat) (f2 : Nat → Int) (w : World)  (hm0 : n0 ≤ maxLen) (hz0 : ∀ i, i < n0 → (f0 i).size ≤ maxLen) (hR0 : Ts.Txts w w.heap.size A0 n0 f0) (hm1 : n1 ≤ maxLen) (hR1 : Nums w w.heap.size A1 (n1 * 4) f1) (hm2 : n2 ≤ maxLen) (hR2 : Nums w w.heap.size A2 n2 f2) :
    Calls Try.prog 11 #[.slice A0 n0 c0, .slice A1 n1 c1, .slice A2 n2 c2] w fun e w' => e = .returned (.bool true) ∧ Below w.heap.size w w' := by
  by_cases hb2 : 1048576 < n2
  · unfold maxLen at hm2
    clear hR0 hR1 hR2
    go_enter Try.func11, Try.ntmps11
    go_wp2_with fail
    go_ret
    exact ⟨rfl, by repeat (first | exact Below.refl _ _ | exact below_box _ _ | refine Below.alloc ?_ (by simp <;> omega) _)⟩
  have hn2 : n2 ≤ 1048576 := by omega
  exact core A0 n0 c0 f0 A1 n1 c1 f1 A2 n2 c2 f2 w hm0 hz0 hR0 hm1 hR1 hm2 hR2 hn2
end Go.Proofs.Ytongfgikkcieaaa.H8u
