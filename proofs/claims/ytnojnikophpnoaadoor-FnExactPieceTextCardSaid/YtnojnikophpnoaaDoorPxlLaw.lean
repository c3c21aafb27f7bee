/- The walk of the law of PieceText. -/
import Derived.Test.YtnojnikophpnoaaDoorPxLib
import Derived.Test.YtnojnikophpnoaaDoorBwLib
import Derived.Test.YtnojnikophpnoaaDoorFiLib
import Derived.Deep.RegionHeld3
import Derived.Deep.DeepCutAuto
namespace Go.Proofs.YtnojnikophpnoaaDoor.Pxl
open Go.RowKit Ft Is Ge Qb
set_option linter.unusedVariables false
set_option maxRecDepth 100000 in
set_option maxHeartbeats 8000000 in
theorem core (s0 : ByteArray) (A0 : Option Addr) (n0 c0 : Nat) (f0 : Nat → Int) (w : World) (hV : Tb.Tab w) (hs0 : s0.size ≤ maxLen) (hm0 : n0 ≤ maxLen) (hR0 : Nums w w.heap.size A0 n0 f0) :
    Calls Tryd.prog 3 #[.agg #[.string s0, .slice A0 n0 c0]] w fun e w' => e = .returned (.bool true) ∧ Below w.heap.size w w' := by
  have R0 := Lib.hid hR0
  have Z0 := Lib.hid (fun l h0 h1 w => Px.sz_piece2 s0 A0 n0 c0 l h0 h1 hs0 hm0 w)
  have T0n := Lib.hid (fun (hn : s0.size ≤ 1048576 ∧ n0 ≤ 1048576) w h => Pt.to_piece s0 A0 n0 c0 f0 hn.2 w h)
  have Q0n := Lib.hid (fun (hn : s0.size ≤ 1048576 ∧ n0 ≤ 1048576) A1 A2 c1 c2 w h1 h2 => Pt.eq_piece s0 A1 A2 n0 c1 c2 f0 hn.2 w h1 h2)
  have CS0 := Lib.hid (fun (hn0 : s0.size ≤ 1048576 ∧ n0 ≤ 1048576) => (fun A0 c0 w h0 => Px.spec_px s0 A0 n0 c0 f0 hn0 w h0))
  have CI0 := Lib.hid (fun (hn0 : s0.size ≤ 1048576 ∧ n0 ≤ 1048576) => (fun A0 c0 w' hb h0 => Px.impl_px s0 A0 n0 c0 f0 hn0 w' (hV.below hb) h0))
  generalize Px.pT s0 n0 f0 = r at CS0 CI0
  clear hR0
  have kb0 := heap_alloc_new w (.cells #[.string s0, .slice A0 n0 c0] 24)
  have B_0 := Lib.hid (below_box w (.cells #[.string s0, .slice A0 n0 c0] 24))
  have K0_0 := Lib.hid kb0
  clear kb0
  go_enter Tryd.func3, Tryd.ntmps3
  go_upto_region 1 with fail
  generalize hw0 : w.alloc _ = w0 at K0_0 B_0 ⊢
  have s_0 := B_0.out.size
  clear hw0
  have lb0 := lt_of_heap K0_0.out
  obtain ⟨v0x0, v0x1⟩ := Pt.blk2 K0_0.out
  go_wp2_with fail
  refine (Z0.out _ (by omega) (by omega) _).mono ?_
  rintro e w1 ⟨r1, rfl, hp1, hq1, hs1, b1⟩
  have B_1 := Lib.hid (below_then B_0.out b1)
  have s_1 := b1.size
  have K0_1 := Lib.hid (Ge.blk_keep b1 K0_0.out)
  clear v0x0 v0x1
  clear b1 B_0 K0_0
  by_cases hr1 : r1 < 0
  · go_wp2_with fail
    go_ret
    exact ⟨rfl, B_1.out⟩
  have hn0 : s0.size ≤ 1048576 ∧ n0 ≤ 1048576 := hs1 (by omega)
  clear hs1 Z0
  have CS := Lib.hid (CS0.out hn0)
  have CI := Lib.hid (CI0.out hn0)
  clear CS0 CI0
  have T0 := Lib.hid (T0n.out hn0)
  have Q0 := Lib.hid (Q0n.out hn0)
  clear T0n Q0n
  obtain ⟨v0x0, v0x1⟩ := Pt.blk2 K0_1.out
  go_wp2_with fail
  refine (T0.out _ ((R0.out.below B_1.out (Nat.le_refl _)).more B_1.out.size)).mono ?_
  rintro e w2 ⟨g2, rfl, hg2, a2, b2⟩
  have B_2 := Lib.hid (below_then B_1.out b2)
  have s_2 := b2.size
  have K0_2 := Lib.hid (Ge.blk_keep b2 K0_1.out)
  have I0_2 := Lib.hid (Fi.at_nums a2.out)
  clear v0x0 v0x1
  clear b2 B_1 K0_1 hg2 a2
  go_wp2_with fail
  refine (CS.out _ _ _ I0_2.out).mono ?_
  rintro e w3 ⟨rfl, b3⟩
  have B_3 := Lib.hid (below_then B_2.out b3)
  have s_3 := b3.size
  have K0_3 := Lib.hid (Ge.blk_keep b3 K0_2.out)
  have I0_3 := Lib.hid ((I0_2.out.below b3 (Nat.le_refl _)).more b3.size)
  clear b3 B_2 K0_2 I0_2
  clear I0_3
  clear CS
  obtain ⟨v0x0, v0x1⟩ := Pt.blk2 K0_3.out
  go_wp2_with fail
  refine (T0.out _ ((R0.out.below B_3.out (Nat.le_refl _)).more B_3.out.size)).mono ?_
  rintro e w4 ⟨g4, rfl, hg4, a4, b4⟩
  have B_4 := Lib.hid (below_then B_3.out b4)
  have s_4 := b4.size
  have K0_4 := Lib.hid (Ge.blk_keep b4 K0_3.out)
  have H0_4 := Lib.hid (Fi.at_nums a4.out)
  clear v0x0 v0x1
  clear b4 B_3 K0_3 hg4 a4
  have bb := below_box w4 (.cells #[.string s0, .slice (some ⟨g4, 0, none⟩) n0 n0] 27)
  have kx0 := Lib.hid (heap_alloc_new w4 (.cells #[.string s0, .slice (some ⟨g4, 0, none⟩) n0 n0] 27))
  have B_5 := Lib.hid (below_then B_4.out bb)
  have s_5 := bb.size
  have K0_5 := Lib.hid (Ge.blk_keep bb K0_4.out)
  have H0_5 := Lib.hid ((H0_4.out.below bb (Nat.le_refl _)).more bb.size)
  go_upto_region 7 with fail
  clear B_4 K0_4 H0_4 bb
  generalize hww : w4.alloc (.cells #[.string s0, .slice (some ⟨g4, 0, none⟩) n0 n0] 27) = w5 at B_5 s_5 kx0 K0_5 H0_5 ⊢
  have X0_5 := kx0
  have lx0 := lt_of_heap X0_5.out
  clear hww kx0
  obtain ⟨y0x0, y0x1⟩ := Pt.blk2 X0_5.out
  go_wp2_with fail
  refine (CI.out _ _ _ B_5.out H0_5.out).mono ?_
  rintro e w6 ⟨rfl, b6⟩
  have B_6 := Lib.hid (below_then B_5.out b6)
  have s_6 := b6.size
  have K0_6 := Lib.hid (Ge.blk_keep b6 K0_5.out)
  have H0_6 := Lib.hid ((H0_5.out.below b6 (Nat.le_refl _)).more b6.size)
  have X0_6 := Lib.hid (Ge.blk_keep b6 X0_5.out)
  clear y0x0 y0x1
  clear b6 B_5 K0_5 H0_5 X0_5
  obtain ⟨v0x0, v0x1⟩ := Pt.blk2 K0_6.out
  obtain ⟨y0x0, y0x1⟩ := Pt.blk2 X0_6.out
  have lt_K0 := lt_of_heap K0_6.out
  have lt_X0 := lt_of_heap X0_6.out
  have At0 : Hid (∀ W, Below w6.heap.size w6 W → Nums W W.heap.size A0 n0 f0) := Lib.hid fun W h => (R0.out.below (below_then B_6.out h) (Nat.le_refl _)).more (below_then B_6.out h).size
  go_upto_region 10 with fail
  have HA0 : Hid (∀ W, Below w6.heap.size w6 W → Nums W W.heap.size (some ⟨g4, 0, none⟩) n0 f0) := Lib.hid fun W h => (H0_6.out.below h (Nat.le_refl _)).more h.size
  go_cut [26] (fun z0 wx => z0 = .bool false ∧ Below w6.heap.size w6 wx)
  case first =>
    clear CI K0_6 X0_6 H0_6 B_6
    go_region_held3 (fun w' => w'.cell? ⟨w.heap.size, 0, none⟩ = some (.string s0) ∧ w'.cell? ⟨w.heap.size, 1, none⟩ = some (.slice A0 n0 c0) ∧ w'.cell? ⟨w4.heap.size, 0, none⟩ = some (.string s0) ∧ w'.cell? ⟨w4.heap.size, 1, none⟩ = some (.slice (some ⟨g4, 0, none⟩) n0 n0))
      (first | (refine ⟨?_, ?_, ?_, ?_⟩ <;> (refine Bw.keep_of (w2 := w6) ?_ (by omega) (by assumption); (repeat (first | (with_reducible exact Below.refl _ _) | (with_reducible exact BN) | refine Below.drew ?_)))))
      (first | (go_at_call 7; (with_reducible refine (T0.out _ (At0.out _ ?_)).mono ?_); (focus (repeat (first | (with_reducible exact Below.refl _ _) | (with_reducible exact BN) | refine Below.drew ?_))); rintro e wa ⟨gZ, rfl, hgZ, aZ, ba⟩; have I0 := Lib.hid (Fi.at_nums aZ.out); clear hgZ aZ; have BN := below_then (w0 := w6) ?_ ba; rotate_left; (focus (repeat (first | (with_reducible exact Below.refl _ _) | (with_reducible exact BN) | refine Below.drew ?_)))) | (go_at_call 9; (with_reducible refine (Q0.out _ _ _ _ _ (HA0.out _ ?_) ?_).mono ?_); (focus (repeat (first | (with_reducible exact Below.refl _ _) | (with_reducible exact BN) | refine Below.drew ?_))); (focus (exact I0.out)); rintro e wa ⟨rfl, ba⟩; have BN := below_then (w0 := w6) ?_ ba; rotate_left; (focus (repeat (first | (with_reducible exact Below.refl _ _) | (with_reducible exact BN) | refine Below.drew ?_)))))
    all_goals
      go_wp2_with fail
      go_meet
      refine ⟨rfl, ?_⟩
      first | (with_reducible exact BN) | (refine Below.drew ?_; with_reducible exact BN)
  case rest =>
    obtain ⟨rfl, b7⟩ := hcut
    have B_7 := Lib.hid (below_then B_6.out b7)
    have s_7 := b7.size
    have K0_7 := Lib.hid (Ge.blk_keep b7 K0_6.out)
    have H0_7 := Lib.hid ((H0_6.out.below b7 (Nat.le_refl _)).more b7.size)
    have X0_7 := Lib.hid (Ge.blk_keep b7 X0_6.out)
    clear v0x0 v0x1 y0x0 y0x1
    clear b7 B_6 K0_6 H0_6 X0_6 lt_K0 lt_X0 At0 HA0
    rename World => w7
    clear H0_7
    go_wp2_with fail
    go_ret
    exact ⟨rfl, B_7.out⟩
theorem law (s0 : ByteArray) (A0 : Option Addr) (n0 c0 : Nat) (f0 : Nat → Int) (w : World) (hV : Tb.Tab w) (hs0 : s0.size ≤ maxLen) (hm0 : n0 ≤ maxLen) (hR0 : Nums w w.heap.size A0 n0 f0) :
    Calls Tryd.prog 3 #[.agg #[.string s0, .slice A0 n0 c0]] w fun e w' => e = .returned (.bool true) ∧ Below w.heap.size w w' :=
  core s0 A0 n0 c0 f0 w hV hs0 hm0 hR0
end Go.Proofs.YtnojnikophpnoaaDoor.Pxl
