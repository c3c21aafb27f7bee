/- The walk of the law of IsSound. -/
import Derived.Test.YtpmmfalpcooenabFflLib
import Derived.Test.YtpmmfalpcooenabBwLib
import Derived.Test.YtpmmfalpcooenabFiLib
import Derived.Test.YtpmmfalpcooenabPsLib
import Derived.Deep.RegionHeld3
import Derived.Deep.DeepCutAuto
namespace Go.Proofs.Ytpmmfalpcooenab.Ffs
open Go.RowKit Ft Is Ge Qb
set_option linter.unusedVariables false
set_option maxRecDepth 100000 in
set_option maxHeartbeats 8000000 in
theorem core (A0 : Option Addr) (n0 c0 : Nat) (N0 : Nat → ByteArray) (ms0 : Nat → Nat) (ds0 : Nat → Nat → Int) (Y0 : Option Addr) (kk0 sc0 : Nat) (se0 : Nat → Int) (op0 : Int) (v1 : Int) (w : World)  (hm0 : n0 ≤ maxLen) (hk0 : kk0 ≤ maxLen) (hz0 : ∀ i, i < n0 → (N0 i).size ≤ maxLen ∧ ms0 i ≤ maxLen) (hw0 : ∀ i, i < kk0 * 4 → (Lit.int .i64 (se0 i)).wf = true) (hR0 : Pt.PatR w A0 n0 N0 ms0 ds0 Y0 kk0 se0) (hw1 : (Lit.int .i64 v1).wf = true) :
    Calls Try.prog 14 #[.agg #[.slice A0 n0 c0, .slice Y0 kk0 sc0, .int .i64 op0], .int .i64 v1] w fun e w' => e = .returned (.bool true) ∧ Below w.heap.size w w' := by
  have R0 := Lib.hid hR0
  have Z0 := Lib.hid (fun l h0 h1 w h => Pt.sz_pattern A0 n0 c0 N0 ms0 ds0 Y0 kk0 sc0 se0 op0 l h0 h1 hm0 hk0 hz0 w h)
  have T0n := Lib.hid (fun hn w h => Pt.to_pattern A0 n0 c0 N0 ms0 ds0 Y0 kk0 sc0 se0 op0 hn w h)
  have Q0n := Lib.hid (fun hn A1 A2 Y1 Y2 c1 c2 s1 s2 w h1 h2 => Pt.eq_pattern A1 A2 Y1 Y2 n0 c1 c2 kk0 s1 s2 N0 ms0 ds0 se0 op0 hn w h1 h2)
  have CS0 := Lib.hid (fun (hn0 : Pt.Small n0 N0 ms0 kk0) => (fun A0 c0 Y0 sc0 w h0 => Ffl.spec_so A0 n0 c0 N0 ms0 ds0 Y0 kk0 sc0 se0 op0 v1 hn0 w h0))
  have CI0 := Lib.hid (fun (hn0 : Pt.Small n0 N0 ms0 kk0) => (fun A0 c0 Y0 sc0 w h0 => Ffl.impl_so A0 n0 c0 N0 ms0 ds0 Y0 kk0 sc0 se0 op0 v1 hn0 hw0 w h0))
  unfold Ffl.SouAt at CS0 CI0
  generalize Ffl.sdB n0 N0 ms0 ds0 kk0 se0 op0 v1 = r1 at CS0 CI0
  generalize Ffl.aC n0 N0 ms0 ds0 kk0 se0 op0 v1 = cd at CS0 CI0
  have ne_r1 : (r1 != r1) = false := by simp
  have ne_cd : (cd != cd) = false := by simp
  clear hR0
  have kb0 := heap_alloc_new w (.cells #[.slice A0 n0 c0, .slice Y0 kk0 sc0, .int .i64 op0] 72)
  have B_0 := Lib.hid (below_box w (.cells #[.slice A0 n0 c0, .slice Y0 kk0 sc0, .int .i64 op0] 72))
  have K0_0 := Lib.hid kb0
  clear kb0
  go_enter Try.func14, Try.ntmps14
  go_upto_region 1 with fail
  generalize hw0 : w.alloc _ = w0 at K0_0 B_0 ⊢
  have s_0 := B_0.out.size
  clear hw0
  have lb0 := lt_of_heap K0_0.out
  obtain ⟨v0x0, v0x1, v0x2⟩ := Pt.blk3 K0_0.out
  go_wp2_with fail
  refine (Z0.out _ (by omega) (by omega) _ (R0.out.below B_0.out)).mono ?_
  rintro e w1 ⟨r1, rfl, hp1, hq1, hs1, b1⟩
  have B_1 := Lib.hid (below_then B_0.out b1)
  have s_1 := b1.size
  have K0_1 := Lib.hid (Ge.blk_keep b1 K0_0.out)
  clear v0x0 v0x1 v0x2
  clear b1 B_0 K0_0
  by_cases hr1 : r1 < 0
  · go_wp2_with fail
    go_ret
    exact ⟨rfl, B_1.out⟩
  have hn0 : Pt.Small n0 N0 ms0 kk0 := hs1 (by omega)
  clear hs1 Z0
  have CS := Lib.hid (CS0.out hn0)
  have CI := Lib.hid (CI0.out hn0)
  clear CS0 CI0
  have T0 := Lib.hid (T0n.out hn0)
  have Q0 := Lib.hid (Q0n.out hn0)
  clear T0n Q0n
  obtain ⟨v0x0, v0x1, v0x2⟩ := Pt.blk3 K0_1.out
  go_wp2_with fail
  refine (T0.out _ (R0.out.below B_1.out)).mono ?_
  rintro e w2 ⟨g2, sg2, rfl, hg2, a2, b2⟩
  have B_2 := Lib.hid (below_then B_1.out b2)
  have s_2 := b2.size
  have K0_2 := Lib.hid (Ge.blk_keep b2 K0_1.out)
  have I0_2 := Lib.hid (Pt.PatO.read a2.out)
  clear v0x0 v0x1 v0x2
  clear b2 B_1 K0_1 hg2 a2
  go_wp2_with fail
  refine (CS.out _ _ _ _ _ I0_2.out).mono ?_
  rintro e w3 ⟨rfl, b3⟩
  have B_3 := Lib.hid (below_then B_2.out b3)
  have s_3 := b3.size
  have K0_3 := Lib.hid (Ge.blk_keep b3 K0_2.out)
  have I0_3 := Lib.hid (I0_2.out.below b3)
  clear b3 B_2 K0_2 I0_2
  clear I0_3
  clear CS
  obtain ⟨v0x0, v0x1, v0x2⟩ := Pt.blk3 K0_3.out
  go_wp2_with fail
  refine (T0.out _ (R0.out.below B_3.out)).mono ?_
  rintro e w4 ⟨g4, sg4, rfl, hg4, a4, b4⟩
  have B_4 := Lib.hid (below_then B_3.out b4)
  have s_4 := b4.size
  have K0_4 := Lib.hid (Ge.blk_keep b4 K0_3.out)
  have H0_4 := Lib.hid (Pt.PatO.read a4.out)
  clear v0x0 v0x1 v0x2
  clear b4 B_3 K0_3 hg4 a4
  have bb := below_box w4 (.cells #[.slice (some ⟨g4, 0, none⟩) n0 n0, .slice (some ⟨sg4, 0, none⟩) kk0 kk0, .int .i64 op0] 79)
  have kx0 := Lib.hid (heap_alloc_new w4 (.cells #[.slice (some ⟨g4, 0, none⟩) n0 n0, .slice (some ⟨sg4, 0, none⟩) kk0 kk0, .int .i64 op0] 79))
  have B_5 := Lib.hid (below_then B_4.out bb)
  have s_5 := bb.size
  have K0_5 := Lib.hid (Ge.blk_keep bb K0_4.out)
  have H0_5 := Lib.hid (H0_4.out.below bb)
  go_upto_region 7 with fail
  clear B_4 K0_4 H0_4 bb
  generalize hww : w4.alloc (.cells #[.slice (some ⟨g4, 0, none⟩) n0 n0, .slice (some ⟨sg4, 0, none⟩) kk0 kk0, .int .i64 op0] 79) = w5 at B_5 s_5 kx0 K0_5 H0_5 ⊢
  have X0_5 := kx0
  have lx0 := lt_of_heap X0_5.out
  clear hww kx0
  obtain ⟨y0x0, y0x1, y0x2⟩ := Pt.blk3 X0_5.out
  go_wp2_with fail
  refine (CI.out _ _ _ _ _ H0_5.out).mono ?_
  rintro e w6 ⟨rfl, b6⟩
  have B_6 := Lib.hid (below_then B_5.out b6)
  have s_6 := b6.size
  have K0_6 := Lib.hid (Ge.blk_keep b6 K0_5.out)
  have H0_6 := Lib.hid (H0_5.out.below b6)
  have X0_6 := Lib.hid (Ge.blk_keep b6 X0_5.out)
  clear y0x0 y0x1 y0x2
  clear b6 B_5 K0_5 H0_5 X0_5
  obtain ⟨v0x0, v0x1, v0x2⟩ := Pt.blk3 K0_6.out
  obtain ⟨y0x0, y0x1, y0x2⟩ := Pt.blk3 X0_6.out
  have lt_K0 := lt_of_heap K0_6.out
  have lt_X0 := lt_of_heap X0_6.out
  have At0 : Hid (∀ W, Below w6.heap.size w6 W → Pt.PatR W A0 n0 N0 ms0 ds0 Y0 kk0 se0) := Lib.hid fun W h => R0.out.below (below_then B_6.out h)
  go_upto_region 10 with fail
  have HA0 : Hid (∀ W, Below w6.heap.size w6 W → Pt.PatR W (some ⟨g4, 0, none⟩) n0 N0 ms0 ds0 (some ⟨sg4, 0, none⟩) kk0 se0) := Lib.hid fun W h => H0_6.out.below h
  go_cut [43] (fun z0 wx => z0 = .bool false ∧ Below w6.heap.size w6 wx)
  case first =>
    clear CI K0_6 X0_6 H0_6 B_6
    go_region_held3 (fun w' => w'.cell? ⟨w.heap.size, 0, none⟩ = some (.slice A0 n0 c0) ∧ w'.cell? ⟨w.heap.size, 1, none⟩ = some (.slice Y0 kk0 sc0) ∧ w'.cell? ⟨w.heap.size, 2, none⟩ = some (.int .i64 op0) ∧ w'.cell? ⟨w4.heap.size, 0, none⟩ = some (.slice (some ⟨g4, 0, none⟩) n0 n0) ∧ w'.cell? ⟨w4.heap.size, 1, none⟩ = some (.slice (some ⟨sg4, 0, none⟩) kk0 kk0) ∧ w'.cell? ⟨w4.heap.size, 2, none⟩ = some (.int .i64 op0))
      (first | (refine ⟨?_, ?_, ?_, ?_, ?_, ?_⟩ <;> (refine Bw.keep_of (w2 := w6) ?_ (by omega) (by assumption); (repeat (first | (with_reducible exact Below.refl _ _) | (with_reducible exact BN) | refine Below.drew ?_)))))
      (first | (go_at_call 52; (with_reducible refine (T0.out _ (At0.out _ ?_)).mono ?_); (focus (repeat (first | (with_reducible exact Below.refl _ _) | (with_reducible exact BN) | refine Below.drew ?_))); rintro e wa ⟨gZ, sgZ, rfl, hgZ, aZ, ba⟩; have I0 := Lib.hid (Pt.PatO.read aZ.out); clear hgZ aZ; have BN := below_then (w0 := w6) ?_ ba; rotate_left; (focus (repeat (first | (with_reducible exact Below.refl _ _) | (with_reducible exact BN) | refine Below.drew ?_)))) | (go_at_call 54; (with_reducible refine (Q0.out _ _ _ _ _ _ _ _ _ (HA0.out _ ?_) ?_).mono ?_); (focus (repeat (first | (with_reducible exact Below.refl _ _) | (with_reducible exact BN) | refine Below.drew ?_))); (focus (exact I0.out)); rintro e wa ⟨rfl, ba⟩; have BN := below_then (w0 := w6) ?_ ba; rotate_left; (focus (repeat (first | (with_reducible exact Below.refl _ _) | (with_reducible exact BN) | refine Below.drew ?_)))))
    all_goals
      go_wp2_with fail
      go_meet
      refine ⟨rfl, ?_⟩
      first | (with_reducible exact BN) | (refine Below.drew ?_; with_reducible exact BN)
  case rest =>
    obtain ⟨rfl, b7⟩ := hcut
    have B_7 := Lib.hid (below_then B_6.out b7)
    have s_7 := b7.size
    have K0_7 := Lib.hid (Ge.blk_keep b7 K0_6.out)
    have H0_7 := Lib.hid (H0_6.out.below b7)
    have X0_7 := Lib.hid (Ge.blk_keep b7 X0_6.out)
    clear v0x0 v0x1 v0x2 y0x0 y0x1 y0x2
    clear b7 B_6 K0_6 H0_6 X0_6 lt_K0 lt_X0 At0 HA0
    rename World => w7
    clear H0_7
    go_wp2_with fail
    go_ret
    exact ⟨rfl, B_7.out⟩
theorem law (A0 : Option Addr) (n0 c0 : Nat) (N0 : Nat → ByteArray) (ms0 : Nat → Nat) (ds0 : Nat → Nat → Int) (Y0 : Option Addr) (kk0 sc0 : Nat) (se0 : Nat → Int) (op0 : Int) (v1 : Int) (w : World)  (hm0 : n0 ≤ maxLen) (hk0 : kk0 ≤ maxLen) (hz0 : ∀ i, i < n0 → (N0 i).size ≤ maxLen ∧ ms0 i ≤ maxLen) (hw0 : ∀ i, i < kk0 * 4 → (Lit.int .i64 (se0 i)).wf = true) (hR0 : Pt.PatR w A0 n0 N0 ms0 ds0 Y0 kk0 se0) (hw1 : (Lit.int .i64 v1).wf = true) :
    Calls Try.prog 14 #[.agg #[.slice A0 n0 c0, .slice Y0 kk0 sc0, .int .i64 op0], .int .i64 v1] w fun e w' => e = .returned (.bool true) ∧ Below w.heap.size w w' :=
  core A0 n0 c0 N0 ms0 ds0 Y0 kk0 sc0 se0 op0 v1 w hm0 hk0 hz0 hw0 hR0 hw1
end Go.Proofs.Ytpmmfalpcooenab.Ffs
