/- The walk of the law of HeightOfRows. -/
import Derived.Test.YtgclhkiiaclkgabPgLib
import Derived.Test.YtgclhkiiaclkgabJuLib
import Derived.Test.YtgclhkiiaclkgabBwLib
import Derived.Test.YtgclhkiiaclkgabBlkLib
import Derived.Test.YtgclhkiiaclkgabFiLib
import Derived.Deep.RegionHeld3
import Derived.Deep.DeepCutAuto
namespace Go.Proofs.Ytgclhkiiaclkgab.Pgw
open Go.RowKit Ft Is Ge Qb Fi
set_option linter.unusedVariables false
theorem eq_frac (a b : Int) (w : World) : Calls Try.prog 39 #[.agg #[.int .i64 a, .int .i64 b], .agg #[.int .i64 a, .int .i64 b]] w fun e w' => e = .returned (.bool true) ∧ Below w.heap.size w w' := by
  go_enter Try.func39, Try.ntmps39
  go_wp2_with fail
  go_ret
  exact ⟨rfl, by repeat (first | exact Below.refl _ _ | refine Below.alloc ?_ (by simp) _)⟩
set_option maxRecDepth 100000 in
set_option maxHeartbeats 8000000 in
theorem core (A0 : Option Addr) (n0 c0 : Nat) (f0 : Nat → Int) (v1 : Int) (A2 : Option Addr) (n2 c2 : Nat) (f2 : Nat → Int) (w : World)  (hm0 : n0 ≤ maxLen) (hR0 : Nums w w.heap.size A0 (n0 * 2) f0) (hw1 : (Lit.int .i64 v1).wf = true) (hm2 : n2 ≤ maxLen) (hR2 : Nums w w.heap.size A2 n2 f2) (hn2 : n2 ≤ 1048576) :
    Calls Try.prog 10 #[.slice A0 n0 c0, .int .i64 v1, .slice A2 n2 c2] w fun e w' => e = .returned (.bool true) ∧ Below w.heap.size w w' := by
  have R0 := Lib.hid hR0
  have Z0 := Lib.hid (fun l h0 h1 w => Blk.sz_rows A0 n0 c0 l h0 h1 hm0 w)
  have T0n := Lib.hid (fun hn w h => Blk.to_rows A0 n0 c0 f0 hn w h)
  have Q0n := Lib.hid (fun hn A1 A2 c1 c2 w h1 h2 => Blk.eq_rows A1 A2 n0 c1 c2 f0 hn w h1 h2)
  have R2 := Lib.hid hR2
  have T2n := Lib.hid (fun hn w h => to_ints A2 n2 c2 f2 hn w h)
  have Q2n := Lib.hid (fun hn A1 A2 c1 c2 w h1 h2 => eq_ints A1 A2 n2 c1 c2 f2 hn w h1 h2)
  have CS0 := Lib.hid (fun (hn0 : n0 ≤ 1048576) => (fun A0 c0 A2 c2 w h0 h2 => Jv.spec_wa A0 n0 c0 f0 v1 A2 n2 c2 f2 hn0 hn2 w h0 h2))
  have CI0 := Lib.hid (fun (hn0 : n0 ≤ 1048576) => (fun A0 c0 A2 c2 w h0 h2 => Pg.impl_wa A0 n0 c0 f0 v1 A2 n2 c2 f2 hn0 hn2 w h0 h2))
  unfold Jv.WaAt at CS0 CI0
  generalize Jv.waA v1 n0 f0 n2 f2 = x at CS0 CI0
  generalize Jv.waB v1 n0 f0 n2 f2 = y at CS0 CI0
  generalize Jv.waC v1 n0 f0 n2 f2 = cd at CS0 CI0
  have EQF := Lib.hid (fun w => eq_frac x y w)
  have ne_cd : (cd != cd) = false := by simp
  clear hR0 hR2
  go_enter Try.func10, Try.ntmps10
  have B_0 := Lib.hid (Below.refl w.heap.size w)
  go_wp2_with fail
  refine (Z0.out _ (by omega) (by omega) _).mono ?_
  rintro e w1 ⟨r1, rfl, hp1, hq1, hs1, b1⟩
  have B_1 := Lib.hid (below_then B_0.out b1)
  have s_1 := b1.size
  clear b1 B_0
  by_cases hr1 : r1 < 0
  · go_wp2_with fail
    go_ret
    exact ⟨rfl, B_1.out⟩
  have hn0 : n0 ≤ 1048576 := hs1 (by omega)
  clear hs1 Z0
  have CS := Lib.hid (CS0.out hn0)
  have CI := Lib.hid (CI0.out hn0)
  clear CS0 CI0
  have T0 := Lib.hid (T0n.out hn0)
  have Q0 := Lib.hid (Q0n.out hn0)
  clear T0n Q0n
  have T2 := Lib.hid (T2n.out hn2)
  have Q2 := Lib.hid (Q2n.out hn2)
  clear T2n Q2n
  go_wp2_with fail
  refine (T0.out _ ((R0.out.below B_1.out (Nat.le_refl _)).more B_1.out.size)).mono ?_
  rintro e w2 ⟨g2, rfl, hg2, a2, b2⟩
  have B_2 := Lib.hid (below_then B_1.out b2)
  have s_2 := b2.size
  have I0_2 := Lib.hid (Blk.at_nums a2.out)
  clear b2 B_1 hg2 a2
  go_wp2_with fail
  refine (T2.out _ ((R2.out.below B_2.out (Nat.le_refl _)).more B_2.out.size)).mono ?_
  rintro e w3 ⟨g3, rfl, hg3, a3, b3⟩
  have B_3 := Lib.hid (below_then B_2.out b3)
  have s_3 := b3.size
  have I0_3 := Lib.hid ((I0_2.out.below b3 (Nat.le_refl _)).more b3.size)
  have I2_3 := Lib.hid (at_nums a3.out)
  clear b3 B_2 I0_2 hg3 a3
  go_wp2_with fail
  refine (CS.out _ _ _ _ _ I0_3.out I2_3.out).mono ?_
  rintro e wa ⟨rfl, ba⟩
  have b4 := below_then ba (below_box wa (Jv.frO x y))
  have KS_4 := Lib.hid (heap_alloc_new wa (Jv.frO x y))
  go_upto_region 8 with fail
  generalize hwa : wa.alloc _ = w4 at b4 KS_4 ⊢
  generalize wa.heap.size = gS at KS_4 ⊢
  clear hwa ba
  have B_4 := Lib.hid (below_then B_3.out b4)
  have s_4 := b4.size
  have I0_4 := Lib.hid ((I0_3.out.below b4 (Nat.le_refl _)).more b4.size)
  have I2_4 := Lib.hid ((I2_3.out.below b4 (Nat.le_refl _)).more b4.size)
  clear b4 B_3 I0_3 I2_3
  clear I0_4
  clear I2_4
  clear CS
  go_wp2_with fail
  refine (T0.out _ ((R0.out.below B_4.out (Nat.le_refl _)).more B_4.out.size)).mono ?_
  rintro e w5 ⟨g5, rfl, hg5, a5, b5⟩
  have B_5 := Lib.hid (below_then B_4.out b5)
  have s_5 := b5.size
  have KS_5 := Lib.hid (blk_keep b5 KS_4.out)
  clear KS_4
  have H0_5 := Lib.hid (Blk.at_nums a5.out)
  clear b5 B_4 hg5 a5
  go_wp2_with fail
  refine (T2.out _ ((R2.out.below B_5.out (Nat.le_refl _)).more B_5.out.size)).mono ?_
  rintro e w6 ⟨g6, rfl, hg6, a6, b6⟩
  have B_6 := Lib.hid (below_then B_5.out b6)
  have s_6 := b6.size
  have KS_6 := Lib.hid (blk_keep b6 KS_5.out)
  clear KS_5
  have H0_6 := Lib.hid ((H0_5.out.below b6 (Nat.le_refl _)).more b6.size)
  have H2_6 := Lib.hid (at_nums a6.out)
  clear b6 B_5 H0_5 hg6 a6
  go_wp2_with fail
  refine (CI.out _ _ _ _ _ H0_6.out H2_6.out).mono ?_
  rintro e wa ⟨rfl, ba⟩
  have bb := below_then ba (below_box wa (Jv.frO x y))
  have KI := Lib.hid (heap_alloc_new wa (Jv.frO x y))
  have KS := Lib.hid (blk_keep bb KS_6.out)
  go_upto_region 11 with fail
  generalize hwb : wa.alloc _ = wb at bb KI KS ⊢
  generalize wa.heap.size = gI at KI ⊢
  clear hwb
  obtain ⟨i0, i1⟩ := Pa.blk2 KI.out
  obtain ⟨s0, s1⟩ := Pa.blk2 KS.out
  go_wp2_with fail
  refine (EQF.out _).mono ?_
  rintro e w7 ⟨rfl, bE⟩
  have b7 := below_then bb bE
  clear ba bb KI KS KS_6 i0 i1 s0 s1 bE
  have B_7 := Lib.hid (below_then B_6.out b7)
  have s_7 := b7.size
  have H0_7 := Lib.hid ((H0_6.out.below b7 (Nat.le_refl _)).more b7.size)
  have H2_7 := Lib.hid ((H2_6.out.below b7 (Nat.le_refl _)).more b7.size)
  clear b7 B_6 H0_6 H2_6
  go_wp2_with fail
  refine (T0.out _ ((R0.out.below B_7.out (Nat.le_refl _)).more B_7.out.size)).mono ?_
  rintro e w8 ⟨g8, rfl, hg8, a8, b8⟩
  have B_8 := Lib.hid (below_then B_7.out b8)
  have s_8 := b8.size
  have H0_8 := Lib.hid ((H0_7.out.below b8 (Nat.le_refl _)).more b8.size)
  have H2_8 := Lib.hid ((H2_7.out.below b8 (Nat.le_refl _)).more b8.size)
  have I0_8 := Lib.hid (Blk.at_nums a8.out)
  clear b8 B_7 H0_7 H2_7 hg8 a8
  go_wp2_with fail
  refine (Q0.out _ _ _ _ _ H0_8.out I0_8.out).mono ?_
  rintro e w9 ⟨rfl, b9⟩
  have B_9 := Lib.hid (below_then B_8.out b9)
  have s_9 := b9.size
  have H0_9 := Lib.hid ((H0_8.out.below b9 (Nat.le_refl _)).more b9.size)
  have H2_9 := Lib.hid ((H2_8.out.below b9 (Nat.le_refl _)).more b9.size)
  have I0_9 := Lib.hid ((I0_8.out.below b9 (Nat.le_refl _)).more b9.size)
  clear b9 B_8 H0_8 H2_8 I0_8
  clear I0_9
  clear H0_9
  go_wp2_with fail
  refine (T2.out _ ((R2.out.below B_9.out (Nat.le_refl _)).more B_9.out.size)).mono ?_
  rintro e w10 ⟨g10, rfl, hg10, a10, b10⟩
  have B_10 := Lib.hid (below_then B_9.out b10)
  have s_10 := b10.size
  have H2_10 := Lib.hid ((H2_9.out.below b10 (Nat.le_refl _)).more b10.size)
  have I2_10 := Lib.hid (at_nums a10.out)
  clear b10 B_9 H2_9 hg10 a10
  go_wp2_with fail
  refine (Q2.out _ _ _ _ _ H2_10.out I2_10.out).mono ?_
  rintro e w11 ⟨rfl, b11⟩
  have B_11 := Lib.hid (below_then B_10.out b11)
  have s_11 := b11.size
  have H2_11 := Lib.hid ((H2_10.out.below b11 (Nat.le_refl _)).more b11.size)
  have I2_11 := Lib.hid ((I2_10.out.below b11 (Nat.le_refl _)).more b11.size)
  clear b11 B_10 H2_10 I2_10
  clear I2_11
  clear H2_11
  go_wp2_with fail
  go_ret
  exact ⟨rfl, B_11.out⟩
theorem law (A0 : Option Addr) (n0 c0 : Nat) (f0 : Nat → Int) (v1 : Int) (A2 : Option Addr) (n2 c2 : Nat) (f2 : Nat → Int) (w : World)  (hm0 : n0 ≤ maxLen) (hR0 : Nums w w.heap.size A0 (n0 * 2) f0) (hw1 : (Lit.int .i64 v1).wf = true) (hm2 : n2 ≤ maxLen) (hR2 : Nums w w.heap.size A2 n2 f2) :
    Calls Try.prog 10 #[.slice A0 n0 c0, .int .i64 v1, .slice A2 n2 c2] w fun e w' => e = .returned (.bool true) ∧ Below w.heap.size w w' := by
  by_cases hb2 : 1048576 < n2
  · unfold maxLen at hm2
    clear hR0 hR2
    go_enter Try.func10, Try.ntmps10
    go_wp2_with fail
    go_ret
    exact ⟨rfl, by repeat (first | exact Below.refl _ _ | exact below_box _ _ | refine Below.alloc ?_ (by simp <;> omega) _)⟩
  have hn2 : n2 ≤ 1048576 := by omega
  exact core A0 n0 c0 f0 v1 A2 n2 c2 f2 w hm0 hR0 hw1 hm2 hR2 hn2
end Go.Proofs.Ytgclhkiiaclkgab.Pgw
