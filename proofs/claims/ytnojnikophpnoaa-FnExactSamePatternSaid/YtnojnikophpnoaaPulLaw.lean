/- The walk of the law of SamePattern. -/
import Derived.Test.YtnojnikophpnoaaPuLib
import Derived.Test.YtnojnikophpnoaaBwLib
import Derived.Deep.RegionHeld3
import Derived.Deep.DeepCutAuto
namespace Go.Proofs.Ytnojnikophpnoaa.Pul
open Go.RowKit Ft Is Ge Qb
set_option linter.unusedVariables false
set_option maxRecDepth 100000 in
set_option maxHeartbeats 8000000 in
theorem core (A0 : Option Addr) (n0 c0 : Nat) (N0 : Nat → ByteArray) (ms0 : Nat → Nat) (ds0 : Nat → Nat → Int) (Y0 : Option Addr) (kk0 sc0 : Nat) (se0 : Nat → Int) (op0 : Int) (A1 : Option Addr) (n1 c1 : Nat) (N1 : Nat → ByteArray) (ms1 : Nat → Nat) (ds1 : Nat → Nat → Int) (Y1 : Option Addr) (kk1 sc1 : Nat) (se1 : Nat → Int) (op1 : Int) (w : World) (hm0 : n0 ≤ maxLen) (hk0 : kk0 ≤ maxLen) (hz0 : ∀ i, i < n0 → (N0 i).size ≤ maxLen ∧ ms0 i ≤ maxLen) (hR0 : Pt.PatR w A0 n0 N0 ms0 ds0 Y0 kk0 se0) (hm1 : n1 ≤ maxLen) (hk1 : kk1 ≤ maxLen) (hz1 : ∀ i, i < n1 → (N1 i).size ≤ maxLen ∧ ms1 i ≤ maxLen) (hR1 : Pt.PatR w A1 n1 N1 ms1 ds1 Y1 kk1 se1) :
    Calls Try.prog 3 #[.agg #[.slice A0 n0 c0, .slice Y0 kk0 sc0, .int .i64 op0], .agg #[.slice A1 n1 c1, .slice Y1 kk1 sc1, .int .i64 op1]] w fun e w' => e = .returned (.bool true) ∧ Below w.heap.size w w' := by
  have R0 := Lib.hid hR0
  have Z0 := Lib.hid (fun l h0 h1 w h => Pt.sz_pattern A0 n0 c0 N0 ms0 ds0 Y0 kk0 sc0 se0 op0 l h0 h1 hm0 hk0 hz0 w h)
  have T0n := Lib.hid (fun hn w h => Pt.to_pattern A0 n0 c0 N0 ms0 ds0 Y0 kk0 sc0 se0 op0 hn w h)
  have Q0n := Lib.hid (fun hn A1 A2 Y1 Y2 c1 c2 s1 s2 w h1 h2 => Pt.eq_pattern A1 A2 Y1 Y2 n0 c1 c2 kk0 s1 s2 N0 ms0 ds0 se0 op0 hn w h1 h2)
  have R1 := Lib.hid hR1
  have Z1 := Lib.hid (fun l h0 h1 w h => Pt.sz_pattern A1 n1 c1 N1 ms1 ds1 Y1 kk1 sc1 se1 op1 l h0 h1 hm1 hk1 hz1 w h)
  have T1n := Lib.hid (fun hn w h => Pt.to_pattern A1 n1 c1 N1 ms1 ds1 Y1 kk1 sc1 se1 op1 hn w h)
  have Q1n := Lib.hid (fun hn A1 A2 Y1 Y2 c1 c2 s1 s2 w h1 h2 => Pt.eq_pattern A1 A2 Y1 Y2 n1 c1 c2 kk1 s1 s2 N1 ms1 ds1 se1 op1 hn w h1 h2)
  have CS0 := Lib.hid (fun (hn0 : Pt.Small n0 N0 ms0 kk0) (hn1 : Pt.Small n1 N1 ms1 kk1) => (fun A0 c0 Y0 sc0 A1 c1 Y1 sc1 w h0 h1 => Pu.spec_sp A0 n0 c0 N0 ms0 ds0 Y0 kk0 sc0 se0 op0 A1 n1 c1 N1 ms1 ds1 Y1 kk1 sc1 se1 op1 hn0 hn1 w h0 h1))
  have CI0 := Lib.hid (fun (hn0 : Pt.Small n0 N0 ms0 kk0) (hn1 : Pt.Small n1 N1 ms1 kk1) => (fun A0 c0 Y0 sc0 A1 c1 Y1 sc1 w h0 h1 => Pu.impl_sp A0 n0 c0 N0 ms0 ds0 Y0 kk0 sc0 se0 op0 A1 n1 c1 N1 ms1 ds1 Y1 kk1 sc1 se1 op1 hn0 hn1 w h0 h1))
  generalize Pu.spB n0 N0 ms0 ds0 kk0 se0 op0 n1 N1 ms1 ds1 kk1 se1 op1 = r at CS0 CI0
  have ne_r : (r != r) = false := by simp
  clear hR0 hR1
  obtain ⟨kb0, kb1⟩ := Ge.two w (.cells #[.slice A0 n0 c0, .slice Y0 kk0 sc0, .int .i64 op0] 25) (.cells #[.slice A1 n1 c1, .slice Y1 kk1 sc1, .int .i64 op1] 25)
  have B_0 := Lib.hid (Ge.below2 w (.cells #[.slice A0 n0 c0, .slice Y0 kk0 sc0, .int .i64 op0] 25) (.cells #[.slice A1 n1 c1, .slice Y1 kk1 sc1, .int .i64 op1] 25))
  have K0_0 := Lib.hid kb0
  have K1_0 := Lib.hid kb1
  clear kb0 kb1
  go_enter Try.func3, Try.ntmps3
  go_upto_region 1 with fail
  generalize hw0 : (w.alloc _).alloc _ = w0 at K0_0 K1_0 B_0 ⊢
  have s_0 := B_0.out.size
  clear hw0
  have lb0 := lt_of_heap K0_0.out
  have lb1 := lt_of_heap K1_0.out
  obtain ⟨v0x0, v0x1, v0x2⟩ := Pt.blk3 K0_0.out
  go_wp2_with fail
  refine (Z0.out _ (by omega) (by omega) _ (R0.out.below B_0.out)).mono ?_
  rintro e w1 ⟨r1, rfl, hp1, hq1, hs1, b1⟩
  have B_1 := Lib.hid (below_then B_0.out b1)
  have s_1 := b1.size
  have K0_1 := Lib.hid (Ge.blk_keep b1 K0_0.out)
  have K1_1 := Lib.hid (Ge.blk_keep b1 K1_0.out)
  clear v0x0 v0x1 v0x2
  clear b1 B_0 K0_0 K1_0
  by_cases hr1 : r1 < 0
  · go_wp2_with fail
    go_ret
    exact ⟨rfl, B_1.out⟩
  have hn0 : Pt.Small n0 N0 ms0 kk0 := hs1 (by omega)
  clear hs1 Z0
  obtain ⟨v1x0, v1x1, v1x2⟩ := Pt.blk3 K1_1.out
  go_wp2_with fail
  refine (Z1.out _ (by omega) (by omega) _ (R1.out.below B_1.out)).mono ?_
  rintro e w2 ⟨r2, rfl, hp2, hq2, hs2, b2⟩
  have B_2 := Lib.hid (below_then B_1.out b2)
  have s_2 := b2.size
  have K0_2 := Lib.hid (Ge.blk_keep b2 K0_1.out)
  have K1_2 := Lib.hid (Ge.blk_keep b2 K1_1.out)
  clear v1x0 v1x1 v1x2
  clear b2 B_1 K0_1 K1_1
  by_cases hr2 : r2 < 0
  · go_wp2_with fail
    go_ret
    exact ⟨rfl, B_2.out⟩
  have hn1 : Pt.Small n1 N1 ms1 kk1 := hs2 (by omega)
  clear hs2 Z1
  have CS := Lib.hid (CS0.out hn0 hn1)
  have CI := Lib.hid (CI0.out hn0 hn1)
  clear CS0 CI0
  have T0 := Lib.hid (T0n.out hn0)
  have Q0 := Lib.hid (Q0n.out hn0)
  clear T0n Q0n
  have T1 := Lib.hid (T1n.out hn1)
  have Q1 := Lib.hid (Q1n.out hn1)
  clear T1n Q1n
  obtain ⟨v0x0, v0x1, v0x2⟩ := Pt.blk3 K0_2.out
  obtain ⟨v1x0, v1x1, v1x2⟩ := Pt.blk3 K1_2.out
  have lt_K0 := lt_of_heap K0_2.out
  have lt_K1 := lt_of_heap K1_2.out
  have At0 : Hid (∀ W, Below w2.heap.size w2 W → Pt.PatR W A0 n0 N0 ms0 ds0 Y0 kk0 se0) := Lib.hid fun W h => R0.out.below (below_then B_2.out h)
  have At1 : Hid (∀ W, Below w2.heap.size w2 W → Pt.PatR W A1 n1 N1 ms1 ds1 Y1 kk1 se1) := Lib.hid fun W h => R1.out.below (below_then B_2.out h)
  go_upto_region 8 with fail
  go_cut [6] (fun z0 wx => z0 = .bool r ∧ Below w2.heap.size w2 wx)
  case first =>
    clear Q0 Q1 CI K0_2 K1_2 B_2
    go_region_held3 (fun w' => w'.cell? ⟨w.heap.size, 0, none⟩ = some (.slice A0 n0 c0) ∧ w'.cell? ⟨w.heap.size, 1, none⟩ = some (.slice Y0 kk0 sc0) ∧ w'.cell? ⟨w.heap.size, 2, none⟩ = some (.int .i64 op0) ∧ w'.cell? ⟨w.heap.size + 1, 0, none⟩ = some (.slice A1 n1 c1) ∧ w'.cell? ⟨w.heap.size + 1, 1, none⟩ = some (.slice Y1 kk1 sc1) ∧ w'.cell? ⟨w.heap.size + 1, 2, none⟩ = some (.int .i64 op1))
      (first | (refine ⟨?_, ?_, ?_, ?_, ?_, ?_⟩ <;> (refine Bw.keep_of (w2 := w2) ?_ (by omega) (by assumption); (repeat (first | (with_reducible exact Below.refl _ _) | (with_reducible exact BN) | refine Below.drew ?_)))))
      (first | (go_at_call 15; (with_reducible refine (T0.out _ (At0.out _ ?_)).mono ?_); (focus (repeat (first | (with_reducible exact Below.refl _ _) | (with_reducible exact BN) | refine Below.drew ?_))); rintro e wa ⟨gZ, sgZ, rfl, hgZ, aZ, ba⟩; have I0 := Lib.hid (Pt.PatO.read aZ.out); (try (have I1 := Lib.hid (((by exact I1 : Hid (Pt.PatR _ _ _ _ _ _ _ _ _)).out.below ba)))); clear hgZ aZ; have BN := below_then (w0 := w2) ?_ ba; rotate_left; (focus (repeat (first | (with_reducible exact Below.refl _ _) | (with_reducible exact BN) | refine Below.drew ?_)))) | (go_at_call 15; (with_reducible refine (T1.out _ (At1.out _ ?_)).mono ?_); (focus (repeat (first | (with_reducible exact Below.refl _ _) | (with_reducible exact BN) | refine Below.drew ?_))); rintro e wa ⟨gZ, sgZ, rfl, hgZ, aZ, ba⟩; have I1 := Lib.hid (Pt.PatO.read aZ.out); (try (have I0 := Lib.hid (((by exact I0 : Hid (Pt.PatR _ _ _ _ _ _ _ _ _)).out.below ba)))); clear hgZ aZ; have BN := below_then (w0 := w2) ?_ ba; rotate_left; (focus (repeat (first | (with_reducible exact Below.refl _ _) | (with_reducible exact BN) | refine Below.drew ?_)))) | (go_at_call 14; (with_reducible refine (CS.out _ _ _ _ _ _ _ _ _ ?_ ?_).mono ?_); (focus (exact I0.out)); (focus (exact I1.out)); rintro e wa ⟨rfl, ba⟩; have BN := below_then (w0 := w2) ?_ ba; rotate_left; (focus (repeat (first | (with_reducible exact Below.refl _ _) | (with_reducible exact BN) | refine Below.drew ?_)))))
    all_goals
      go_wp2_with fail
      go_meet
      refine ⟨rfl, ?_⟩
      · first | (with_reducible exact BN) | (refine Below.drew ?_; with_reducible exact BN)
  case rest =>
    obtain ⟨rfl, b3⟩ := hcut
    have B_3 := Lib.hid (below_then B_2.out b3)
    have s_3 := b3.size
    have K0_3 := Lib.hid (Ge.blk_keep b3 K0_2.out)
    have K1_3 := Lib.hid (Ge.blk_keep b3 K1_2.out)
    clear v0x0 v0x1 v0x2 v1x0 v1x1 v1x2
    clear b3 B_2 K0_2 K1_2 lt_K0 lt_K1 At0 At1 CS
    rename World => w3
    obtain ⟨v0x0, v0x1, v0x2⟩ := Pt.blk3 K0_3.out
    go_wp2_with fail
    refine (T0.out _ (R0.out.below B_3.out)).mono ?_
    rintro e w4 ⟨g4, sg4, rfl, hg4, a4, b4⟩
    have B_4 := Lib.hid (below_then B_3.out b4)
    have s_4 := b4.size
    have K0_4 := Lib.hid (Ge.blk_keep b4 K0_3.out)
    have K1_4 := Lib.hid (Ge.blk_keep b4 K1_3.out)
    have H0_4 := Lib.hid (Pt.PatO.read a4.out)
    clear v0x0 v0x1 v0x2
    clear b4 B_3 K0_3 K1_3 hg4 a4
    have bb := below_box w4 (.cells #[.slice (some ⟨g4, 0, none⟩) n0 n0, .slice (some ⟨sg4, 0, none⟩) kk0 kk0, .int .i64 op0] 31)
    have kx0 := Lib.hid (heap_alloc_new w4 (.cells #[.slice (some ⟨g4, 0, none⟩) n0 n0, .slice (some ⟨sg4, 0, none⟩) kk0 kk0, .int .i64 op0] 31))
    have B_5 := Lib.hid (below_then B_4.out bb)
    have s_5 := bb.size
    have K0_5 := Lib.hid (Ge.blk_keep bb K0_4.out)
    have K1_5 := Lib.hid (Ge.blk_keep bb K1_4.out)
    have H0_5 := Lib.hid (H0_4.out.below bb)
    go_upto_region 10 with fail
    clear B_4 K0_4 K1_4 H0_4 bb
    generalize hww : w4.alloc (.cells #[.slice (some ⟨g4, 0, none⟩) n0 n0, .slice (some ⟨sg4, 0, none⟩) kk0 kk0, .int .i64 op0] 31) = w5 at B_5 s_5 kx0 K0_5 K1_5 H0_5 ⊢
    have X0_5 := kx0
    have lx0 := lt_of_heap X0_5.out
    clear hww kx0
    obtain ⟨v1x0, v1x1, v1x2⟩ := Pt.blk3 K1_5.out
    go_wp2_with fail
    refine (T1.out _ (R1.out.below B_5.out)).mono ?_
    rintro e w6 ⟨g6, sg6, rfl, hg6, a6, b6⟩
    have B_6 := Lib.hid (below_then B_5.out b6)
    have s_6 := b6.size
    have K0_6 := Lib.hid (Ge.blk_keep b6 K0_5.out)
    have K1_6 := Lib.hid (Ge.blk_keep b6 K1_5.out)
    have H0_6 := Lib.hid (H0_5.out.below b6)
    have X0_6 := Lib.hid (Ge.blk_keep b6 X0_5.out)
    have H1_6 := Lib.hid (Pt.PatO.read a6.out)
    clear v1x0 v1x1 v1x2
    clear b6 B_5 K0_5 K1_5 H0_5 X0_5 hg6 a6
    have bb := below_box w6 (.cells #[.slice (some ⟨g6, 0, none⟩) n1 n1, .slice (some ⟨sg6, 0, none⟩) kk1 kk1, .int .i64 op1] 31)
    have kx1 := Lib.hid (heap_alloc_new w6 (.cells #[.slice (some ⟨g6, 0, none⟩) n1 n1, .slice (some ⟨sg6, 0, none⟩) kk1 kk1, .int .i64 op1] 31))
    have B_7 := Lib.hid (below_then B_6.out bb)
    have s_7 := bb.size
    have K0_7 := Lib.hid (Ge.blk_keep bb K0_6.out)
    have K1_7 := Lib.hid (Ge.blk_keep bb K1_6.out)
    have H0_7 := Lib.hid (H0_6.out.below bb)
    have X0_7 := Lib.hid (Ge.blk_keep bb X0_6.out)
    have H1_7 := Lib.hid (H1_6.out.below bb)
    go_upto_region 11 with fail
    clear B_6 K0_6 K1_6 H0_6 X0_6 H1_6 bb
    generalize hww : w6.alloc (.cells #[.slice (some ⟨g6, 0, none⟩) n1 n1, .slice (some ⟨sg6, 0, none⟩) kk1 kk1, .int .i64 op1] 31) = w7 at B_7 s_7 kx1 K0_7 K1_7 H0_7 X0_7 H1_7 ⊢
    have X1_7 := kx1
    have lx1 := lt_of_heap X1_7.out
    clear hww kx1
    obtain ⟨y0x0, y0x1, y0x2⟩ := Pt.blk3 X0_7.out
    obtain ⟨y1x0, y1x1, y1x2⟩ := Pt.blk3 X1_7.out
    go_wp2_with fail
    refine (CI.out _ _ _ _ _ _ _ _ _ H0_7.out H1_7.out).mono ?_
    rintro e w8 ⟨rfl, b8⟩
    have B_8 := Lib.hid (below_then B_7.out b8)
    have s_8 := b8.size
    have K0_8 := Lib.hid (Ge.blk_keep b8 K0_7.out)
    have K1_8 := Lib.hid (Ge.blk_keep b8 K1_7.out)
    have H0_8 := Lib.hid (H0_7.out.below b8)
    have X0_8 := Lib.hid (Ge.blk_keep b8 X0_7.out)
    have H1_8 := Lib.hid (H1_7.out.below b8)
    have X1_8 := Lib.hid (Ge.blk_keep b8 X1_7.out)
    clear y0x0 y0x1 y0x2 y1x0 y1x1 y1x2
    clear b8 B_7 K0_7 K1_7 H0_7 X0_7 H1_7 X1_7
    obtain ⟨v0x0, v0x1, v0x2⟩ := Pt.blk3 K0_8.out
    obtain ⟨y0x0, y0x1, y0x2⟩ := Pt.blk3 X0_8.out
    obtain ⟨v1x0, v1x1, v1x2⟩ := Pt.blk3 K1_8.out
    obtain ⟨y1x0, y1x1, y1x2⟩ := Pt.blk3 X1_8.out
    have lt_K0 := lt_of_heap K0_8.out
    have lt_X0 := lt_of_heap X0_8.out
    have lt_K1 := lt_of_heap K1_8.out
    have lt_X1 := lt_of_heap X1_8.out
    have At0 : Hid (∀ W, Below w8.heap.size w8 W → Pt.PatR W A0 n0 N0 ms0 ds0 Y0 kk0 se0) := Lib.hid fun W h => R0.out.below (below_then B_8.out h)
    have At1 : Hid (∀ W, Below w8.heap.size w8 W → Pt.PatR W A1 n1 N1 ms1 ds1 Y1 kk1 se1) := Lib.hid fun W h => R1.out.below (below_then B_8.out h)
    go_upto_region 14 with fail
    have HA0 : Hid (∀ W, Below w8.heap.size w8 W → Pt.PatR W (some ⟨g4, 0, none⟩) n0 N0 ms0 ds0 (some ⟨sg4, 0, none⟩) kk0 se0) := Lib.hid fun W h => H0_8.out.below h
    go_cut [39] (fun z0 wx => z0 = .bool false ∧ Below w8.heap.size w8 wx)
    case first =>
      clear T1 Q1 CI K0_8 K1_8 X0_8 X1_8 H0_8 H1_8 B_8
      go_region_held3 (fun w' => w'.cell? ⟨w.heap.size, 0, none⟩ = some (.slice A0 n0 c0) ∧ w'.cell? ⟨w.heap.size, 1, none⟩ = some (.slice Y0 kk0 sc0) ∧ w'.cell? ⟨w.heap.size, 2, none⟩ = some (.int .i64 op0) ∧ w'.cell? ⟨w4.heap.size, 0, none⟩ = some (.slice (some ⟨g4, 0, none⟩) n0 n0) ∧ w'.cell? ⟨w4.heap.size, 1, none⟩ = some (.slice (some ⟨sg4, 0, none⟩) kk0 kk0) ∧ w'.cell? ⟨w4.heap.size, 2, none⟩ = some (.int .i64 op0) ∧ w'.cell? ⟨w.heap.size + 1, 0, none⟩ = some (.slice A1 n1 c1) ∧ w'.cell? ⟨w.heap.size + 1, 1, none⟩ = some (.slice Y1 kk1 sc1) ∧ w'.cell? ⟨w.heap.size + 1, 2, none⟩ = some (.int .i64 op1) ∧ w'.cell? ⟨w6.heap.size, 0, none⟩ = some (.slice (some ⟨g6, 0, none⟩) n1 n1) ∧ w'.cell? ⟨w6.heap.size, 1, none⟩ = some (.slice (some ⟨sg6, 0, none⟩) kk1 kk1) ∧ w'.cell? ⟨w6.heap.size, 2, none⟩ = some (.int .i64 op1))
        (first | (refine ⟨?_, ?_, ?_, ?_, ?_, ?_, ?_, ?_, ?_, ?_, ?_, ?_⟩ <;> (refine Bw.keep_of (w2 := w8) ?_ (by omega) (by assumption); (repeat (first | (with_reducible exact Below.refl _ _) | (with_reducible exact BN) | refine Below.drew ?_)))))
        (first | (go_at_call 15; (with_reducible refine (T0.out _ (At0.out _ ?_)).mono ?_); (focus (repeat (first | (with_reducible exact Below.refl _ _) | (with_reducible exact BN) | refine Below.drew ?_))); rintro e wa ⟨gZ, sgZ, rfl, hgZ, aZ, ba⟩; have I0 := Lib.hid (Pt.PatO.read aZ.out); (try (have I1 := Lib.hid (((by exact I1 : Hid (Pt.PatR _ _ _ _ _ _ _ _ _)).out.below ba)))); clear hgZ aZ; have BN := below_then (w0 := w8) ?_ ba; rotate_left; (focus (repeat (first | (with_reducible exact Below.refl _ _) | (with_reducible exact BN) | refine Below.drew ?_)))) | (go_at_call 15; (with_reducible refine (T1.out _ (At1.out _ ?_)).mono ?_); (focus (repeat (first | (with_reducible exact Below.refl _ _) | (with_reducible exact BN) | refine Below.drew ?_))); rintro e wa ⟨gZ, sgZ, rfl, hgZ, aZ, ba⟩; have I1 := Lib.hid (Pt.PatO.read aZ.out); (try (have I0 := Lib.hid (((by exact I0 : Hid (Pt.PatR _ _ _ _ _ _ _ _ _)).out.below ba)))); clear hgZ aZ; have BN := below_then (w0 := w8) ?_ ba; rotate_left; (focus (repeat (first | (with_reducible exact Below.refl _ _) | (with_reducible exact BN) | refine Below.drew ?_)))) | (go_at_call 17; (with_reducible refine (Q0.out _ _ _ _ _ _ _ _ _ (HA0.out _ ?_) ?_).mono ?_); (focus (repeat (first | (with_reducible exact Below.refl _ _) | (with_reducible exact BN) | refine Below.drew ?_))); (focus (exact I0.out)); rintro e wa ⟨rfl, ba⟩; have BN := below_then (w0 := w8) ?_ ba; rotate_left; (focus (repeat (first | (with_reducible exact Below.refl _ _) | (with_reducible exact BN) | refine Below.drew ?_)))))
      all_goals
        go_wp2_with fail
        go_meet
        refine ⟨rfl, ?_⟩
        first | (with_reducible exact BN) | (refine Below.drew ?_; with_reducible exact BN)
    case rest =>
      obtain ⟨rfl, b9⟩ := hcut
      have B_9 := Lib.hid (below_then B_8.out b9)
      have s_9 := b9.size
      have K0_9 := Lib.hid (Ge.blk_keep b9 K0_8.out)
      have K1_9 := Lib.hid (Ge.blk_keep b9 K1_8.out)
      have H0_9 := Lib.hid (H0_8.out.below b9)
      have X0_9 := Lib.hid (Ge.blk_keep b9 X0_8.out)
      have H1_9 := Lib.hid (H1_8.out.below b9)
      have X1_9 := Lib.hid (Ge.blk_keep b9 X1_8.out)
      clear v0x0 v0x1 v0x2 y0x0 y0x1 y0x2 v1x0 v1x1 v1x2 y1x0 y1x1 y1x2
      clear b9 B_8 K0_8 K1_8 H0_8 X0_8 H1_8 X1_8 lt_K0 lt_X0 lt_K1 lt_X1 At0 At1 HA0
      rename World => w9
      clear H0_9
      obtain ⟨v0x0, v0x1, v0x2⟩ := Pt.blk3 K0_9.out
      obtain ⟨y0x0, y0x1, y0x2⟩ := Pt.blk3 X0_9.out
      obtain ⟨v1x0, v1x1, v1x2⟩ := Pt.blk3 K1_9.out
      obtain ⟨y1x0, y1x1, y1x2⟩ := Pt.blk3 X1_9.out
      have lt_K0 := lt_of_heap K0_9.out
      have lt_X0 := lt_of_heap X0_9.out
      have lt_K1 := lt_of_heap K1_9.out
      have lt_X1 := lt_of_heap X1_9.out
      have At0 : Hid (∀ W, Below w9.heap.size w9 W → Pt.PatR W A0 n0 N0 ms0 ds0 Y0 kk0 se0) := Lib.hid fun W h => R0.out.below (below_then B_9.out h)
      have At1 : Hid (∀ W, Below w9.heap.size w9 W → Pt.PatR W A1 n1 N1 ms1 ds1 Y1 kk1 se1) := Lib.hid fun W h => R1.out.below (below_then B_9.out h)
      go_upto_region 16 with fail
      have HA1 : Hid (∀ W, Below w9.heap.size w9 W → Pt.PatR W (some ⟨g6, 0, none⟩) n1 N1 ms1 ds1 (some ⟨sg6, 0, none⟩) kk1 se1) := Lib.hid fun W h => H1_9.out.below h
      go_cut [44] (fun z0 wx => z0 = .bool false ∧ Below w9.heap.size w9 wx)
      case first =>
        clear T0 Q0 CI K0_9 K1_9 X0_9 X1_9 H1_9 B_9
        go_region_held3 (fun w' => w'.cell? ⟨w.heap.size, 0, none⟩ = some (.slice A0 n0 c0) ∧ w'.cell? ⟨w.heap.size, 1, none⟩ = some (.slice Y0 kk0 sc0) ∧ w'.cell? ⟨w.heap.size, 2, none⟩ = some (.int .i64 op0) ∧ w'.cell? ⟨w4.heap.size, 0, none⟩ = some (.slice (some ⟨g4, 0, none⟩) n0 n0) ∧ w'.cell? ⟨w4.heap.size, 1, none⟩ = some (.slice (some ⟨sg4, 0, none⟩) kk0 kk0) ∧ w'.cell? ⟨w4.heap.size, 2, none⟩ = some (.int .i64 op0) ∧ w'.cell? ⟨w.heap.size + 1, 0, none⟩ = some (.slice A1 n1 c1) ∧ w'.cell? ⟨w.heap.size + 1, 1, none⟩ = some (.slice Y1 kk1 sc1) ∧ w'.cell? ⟨w.heap.size + 1, 2, none⟩ = some (.int .i64 op1) ∧ w'.cell? ⟨w6.heap.size, 0, none⟩ = some (.slice (some ⟨g6, 0, none⟩) n1 n1) ∧ w'.cell? ⟨w6.heap.size, 1, none⟩ = some (.slice (some ⟨sg6, 0, none⟩) kk1 kk1) ∧ w'.cell? ⟨w6.heap.size, 2, none⟩ = some (.int .i64 op1))
          (first | (refine ⟨?_, ?_, ?_, ?_, ?_, ?_, ?_, ?_, ?_, ?_, ?_, ?_⟩ <;> (refine Bw.keep_of (w2 := w9) ?_ (by omega) (by assumption); (repeat (first | (with_reducible exact Below.refl _ _) | (with_reducible exact BN) | refine Below.drew ?_)))))
          (first | (go_at_call 15; (with_reducible refine (T0.out _ (At0.out _ ?_)).mono ?_); (focus (repeat (first | (with_reducible exact Below.refl _ _) | (with_reducible exact BN) | refine Below.drew ?_))); rintro e wa ⟨gZ, sgZ, rfl, hgZ, aZ, ba⟩; have I0 := Lib.hid (Pt.PatO.read aZ.out); (try (have I1 := Lib.hid (((by exact I1 : Hid (Pt.PatR _ _ _ _ _ _ _ _ _)).out.below ba)))); clear hgZ aZ; have BN := below_then (w0 := w9) ?_ ba; rotate_left; (focus (repeat (first | (with_reducible exact Below.refl _ _) | (with_reducible exact BN) | refine Below.drew ?_)))) | (go_at_call 15; (with_reducible refine (T1.out _ (At1.out _ ?_)).mono ?_); (focus (repeat (first | (with_reducible exact Below.refl _ _) | (with_reducible exact BN) | refine Below.drew ?_))); rintro e wa ⟨gZ, sgZ, rfl, hgZ, aZ, ba⟩; have I1 := Lib.hid (Pt.PatO.read aZ.out); (try (have I0 := Lib.hid (((by exact I0 : Hid (Pt.PatR _ _ _ _ _ _ _ _ _)).out.below ba)))); clear hgZ aZ; have BN := below_then (w0 := w9) ?_ ba; rotate_left; (focus (repeat (first | (with_reducible exact Below.refl _ _) | (with_reducible exact BN) | refine Below.drew ?_)))) | (go_at_call 17; (with_reducible refine (Q1.out _ _ _ _ _ _ _ _ _ (HA1.out _ ?_) ?_).mono ?_); (focus (repeat (first | (with_reducible exact Below.refl _ _) | (with_reducible exact BN) | refine Below.drew ?_))); (focus (exact I1.out)); rintro e wa ⟨rfl, ba⟩; have BN := below_then (w0 := w9) ?_ ba; rotate_left; (focus (repeat (first | (with_reducible exact Below.refl _ _) | (with_reducible exact BN) | refine Below.drew ?_)))))
        all_goals
          go_wp2_with fail
          go_meet
          refine ⟨rfl, ?_⟩
          first | (with_reducible exact BN) | (refine Below.drew ?_; with_reducible exact BN)
      case rest =>
        obtain ⟨rfl, b10⟩ := hcut
        have B_10 := Lib.hid (below_then B_9.out b10)
        have s_10 := b10.size
        have K0_10 := Lib.hid (Ge.blk_keep b10 K0_9.out)
        have K1_10 := Lib.hid (Ge.blk_keep b10 K1_9.out)
        have X0_10 := Lib.hid (Ge.blk_keep b10 X0_9.out)
        have H1_10 := Lib.hid (H1_9.out.below b10)
        have X1_10 := Lib.hid (Ge.blk_keep b10 X1_9.out)
        clear v0x0 v0x1 v0x2 y0x0 y0x1 y0x2 v1x0 v1x1 v1x2 y1x0 y1x1 y1x2
        clear b10 B_9 K0_9 K1_9 X0_9 H1_9 X1_9 lt_K0 lt_X0 lt_K1 lt_X1 At0 At1 HA1
        rename World => w10
        clear H1_10
        go_wp2_with fail
        go_ret
        exact ⟨rfl, B_10.out⟩
theorem law (A0 : Option Addr) (n0 c0 : Nat) (N0 : Nat → ByteArray) (ms0 : Nat → Nat) (ds0 : Nat → Nat → Int) (Y0 : Option Addr) (kk0 sc0 : Nat) (se0 : Nat → Int) (op0 : Int) (A1 : Option Addr) (n1 c1 : Nat) (N1 : Nat → ByteArray) (ms1 : Nat → Nat) (ds1 : Nat → Nat → Int) (Y1 : Option Addr) (kk1 sc1 : Nat) (se1 : Nat → Int) (op1 : Int) (w : World) (hm0 : n0 ≤ maxLen) (hk0 : kk0 ≤ maxLen) (hz0 : ∀ i, i < n0 → (N0 i).size ≤ maxLen ∧ ms0 i ≤ maxLen) (hR0 : Pt.PatR w A0 n0 N0 ms0 ds0 Y0 kk0 se0) (hm1 : n1 ≤ maxLen) (hk1 : kk1 ≤ maxLen) (hz1 : ∀ i, i < n1 → (N1 i).size ≤ maxLen ∧ ms1 i ≤ maxLen) (hR1 : Pt.PatR w A1 n1 N1 ms1 ds1 Y1 kk1 se1) :
    Calls Try.prog 3 #[.agg #[.slice A0 n0 c0, .slice Y0 kk0 sc0, .int .i64 op0], .agg #[.slice A1 n1 c1, .slice Y1 kk1 sc1, .int .i64 op1]] w fun e w' => e = .returned (.bool true) ∧ Below w.heap.size w w' :=
  core A0 n0 c0 N0 ms0 ds0 Y0 kk0 sc0 se0 op0 A1 n1 c1 N1 ms1 ds1 Y1 kk1 sc1 se1 op1 w hm0 hk0 hz0 hR0 hm1 hk1 hz1 hR1
end Go.Proofs.Ytnojnikophpnoaa.Pul
