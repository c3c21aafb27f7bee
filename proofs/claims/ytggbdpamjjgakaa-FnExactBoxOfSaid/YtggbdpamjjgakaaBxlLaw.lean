/- The walk of the law of BoxOf. -/
import Derived.Test.YtggbdpamjjgakaaBvLib
import Derived.Test.YtggbdpamjjgakaaBwLib
namespace Go.Proofs.Ytggbdpamjjgakaa.Bxl
set_option linter.unusedVariables false
open Go.RowKit Ft Is Ge Qb Ot Opl Bv
set_option maxRecDepth 100000 in
set_option maxHeartbeats 4000000 in
theorem law (A0 : Option Addr) (n0 c0 : Nat) (f0 : Nat → Int) (w : World) (hm0 : n0 ≤ maxLen) (hR0 : Nums w w.heap.size A0 (n0 * 2) f0) :
    Calls Try.prog 8 #[.slice A0 n0 c0] w fun e w' => e = .returned (.bool true) ∧ Below w.heap.size w w' := by
  have R0 := Lib.hid hR0
  have Z0 := Lib.hid (fun l h0 h1 w => Ot.sz_spots A0 n0 c0 l h0 h1 hm0 w)
  have T0n := Lib.hid (fun hn w h => Ot.to_spots A0 n0 c0 f0 hn w h)
  have Q0n := Lib.hid (fun hn A1 A2 c1 c2 w h1 h2 => Ot.eq_spots A1 A2 n0 c1 c2 f0 hn w h1 h2)
  have S0n := Lib.hid (fun hn A c w h => Bv.spec_bo A n0 c f0 hn w h)
  have I0n := Lib.hid (fun hn A c h1 h2 w h => Bv.impl_bo A n0 c f0 hn h1 h2 w h)
  unfold BxAt at S0n I0n
  have E1 := Lib.hid (fun w => Ot.eq_sp (bxL n0 f0).1 (bxL n0 f0).2 w)
  have E2 := Lib.hid (fun w => Ot.eq_sp (bxH n0 f0).1 (bxH n0 f0).2 w)
  generalize bxL n0 f0 = p at S0n I0n E1
  generalize bxH n0 f0 = q at S0n I0n E2
  generalize bxC n0 f0 = cd at S0n I0n
  obtain ⟨p0, p1⟩ := p
  obtain ⟨q0, q1⟩ := q
  simp only [spV] at S0n I0n E1 E2
  have ne_cd : (cd != cd) = false := by simp
  clear hR0
  go_enter Try.func8, Try.ntmps8
  go_wp2_with fail
  refine (Z0.out _ (by omega) (by omega) _).mono ?_
  rintro e w1 ⟨r, rfl, hp, hq, hs, b1⟩
  have B1 := Lib.hid b1
  clear b1
  by_cases hr : r < 0
  · go_wp2_with fail
    go_ret
    exact ⟨rfl, B1.out⟩
  have hn : n0 ≤ 1048576 := hs (by omega)
  have T0 := Lib.hid (T0n.out hn)
  have Q0 := Lib.hid (Q0n.out hn)
  have S0 := Lib.hid (S0n.out hn)
  have I0 := Lib.hid (I0n.out hn)
  clear T0n Q0n S0n I0n hs Z0
  have hcm : n0 ≤ maxLen := hm0
  go_wp2_with fail
  refine (T0.out _ ((R0.out.below B1.out (Nat.le_refl _)).more B1.out.size)).mono ?_
  rintro e w2 ⟨g2, rfl, hg2, a2, b2⟩
  have B2 := Lib.hid (below_then B1.out b2)
  have N2 := Lib.hid (Ot.at_nums a2.out)
  clear a2 b2 B1
  go_wp2_with fail
  refine (S0.out _ _ _ N2.out).mono ?_
  rintro e w3 ⟨rfl, b3⟩
  have B3 := Lib.hid (below_then B2.out b3)
  clear b3 B2 N2
  obtain ⟨k4, k5⟩ := two w3 (spC p0 p1 38) (spC q0 q1 38)
  have B5 := Lib.hid (below_then B3.out (below2 w3 (spC p0 p1 38) (spC q0 q1 38)))
  go_upto_region 6 with fail
  generalize hs3 : w3.heap.size = s3 at k4 k5 ⊢
  generalize hw5 : (w3.alloc _).alloc _ = w5 at k4 k5 B5 ⊢
  have hz5 : w5.heap.size = s3 + 2 := by rw [← hw5, ← hs3]; simp
  clear hw5 hs3 B3
  have K4 := Lib.hid k4
  have K5 := Lib.hid k5
  clear k4 k5
  go_wp2_with fail
  refine (T0.out _ ((R0.out.below B5.out (Nat.le_refl _)).more B5.out.size)).mono ?_
  rintro e w6 ⟨g6, rfl, hg6, a6, b6⟩
  have B6 := Lib.hid (below_then B5.out b6)
  have K46 := Lib.hid (blk_keep b6 K4.out)
  have K56 := Lib.hid (blk_keep b6 K5.out)
  have N6 := Lib.hid (Ot.at_nums a6.out)
  clear a6 b6 K4 K5 B5
  go_wp2_with fail
  refine (I0.out _ _ (Nat.le_refl _) hcm _ N6.out).mono ?_
  rintro e w7 ⟨rfl, b7⟩
  have B7 := Lib.hid (below_then B6.out b7)
  have K47 := Lib.hid (blk_keep b7 K46.out)
  have K57 := Lib.hid (blk_keep b7 K56.out)
  have N7 := Lib.hid ((N6.out.below b7 (Nat.le_refl _)).more b7.size)
  clear b7 K46 K56 B6 N6
  obtain ⟨k8, k9⟩ := two w7 (spC p0 p1 38) (spC q0 q1 38)
  have bb := below2 w7 (spC p0 p1 38) (spC q0 q1 38)
  have B9 := Lib.hid (below_then B7.out bb)
  have K49 := Lib.hid (blk_keep bb K47.out)
  have K59 := Lib.hid (blk_keep bb K57.out)
  have N9 := Lib.hid ((N7.out.below bb (Nat.le_refl _)).more bb.size)
  clear bb B7 K47 K57 N7
  go_upto_region 8 with fail
  generalize hs7 : w7.heap.size = s7 at k8 k9 ⊢
  generalize hw9 : (w7.alloc _).alloc _ = w9 at k8 k9 B9 K49 K59 N9 ⊢
  clear hw9 hs7
  have K8 := Lib.hid k8
  have K9 := Lib.hid k9
  clear k8 k9
  obtain ⟨x0, x1⟩ := blk2 K8.out
  obtain ⟨y0, y1⟩ := blk2 K49.out
  go_wp2_with fail
  refine (E1.out _).mono ?_
  rintro e wa ⟨rfl, ba⟩
  have Ba := Lib.hid (below_then B9.out ba)
  have K9a := Lib.hid (blk_keep ba K9.out)
  have K5a := Lib.hid (blk_keep ba K59.out)
  have Na := Lib.hid ((N9.out.below ba (Nat.le_refl _)).more ba.size)
  clear ba x0 x1 y0 y1 B9 K8 K9 K49 K59 N9
  obtain ⟨x0, x1⟩ := blk2 K9a.out
  obtain ⟨y0, y1⟩ := blk2 K5a.out
  go_wp2_with fail
  refine (E2.out _).mono ?_
  rintro e wb ⟨rfl, bb⟩
  have Bb := Lib.hid (below_then Ba.out bb)
  have Nb := Lib.hid ((Na.out.below bb (Nat.le_refl _)).more bb.size)
  clear bb x0 x1 y0 y1 Ba K9a K5a Na
  go_wp2_with fail
  refine (T0.out _ ((R0.out.below Bb.out (Nat.le_refl _)).more Bb.out.size)).mono ?_
  rintro e wc ⟨gc, rfl, hgc, ac, bc⟩
  have Bc := Lib.hid (below_then Bb.out bc)
  have Nc := Lib.hid ((Nb.out.below bc (Nat.le_refl _)).more bc.size)
  have Nd := Lib.hid (Ot.at_nums ac.out)
  clear ac bc Bb Nb
  go_wp2_with fail
  refine (Q0.out _ _ _ _ _ Nc.out Nd.out).mono ?_
  rintro e wd ⟨rfl, bd⟩
  have Bd := Lib.hid (below_then Bc.out bd)
  clear bd Bc Nc Nd
  go_wp2_with fail
  go_ret
  exact ⟨rfl, Bd.out⟩
end Go.Proofs.Ytggbdpamjjgakaa.Bxl
